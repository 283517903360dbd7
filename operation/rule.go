package operation

import "armistice/api"

// rule is what a kind asks of an operation: the type of its object, its word, how many arguments its text has, and what A, B and the return may be.
type rule struct {
	kind, object int
	word         string
	args         int
	a, b         func(n int) bool
	returns      func(r api.Ret) bool
}

// rules tells what each kind asks. An argument that a kind does not have is asked, too, to be 0: else one text would be that of many operations.
func rules() []rule {
	return []rule{
		{api.Add, api.Counter, "add", 1, anyNumber, zero, isDone},
		{api.Read, api.Counter, "read", 0, zero, zero, isNumber},
		{api.Insert, api.Set, "insert", 1, anyNumber, zero, isBit},
		{api.Remove, api.Set, "remove", 1, anyNumber, zero, isBit},
		{api.Has, api.Set, "has", 1, anyNumber, zero, isBit},
		{api.Size, api.Set, "size", 0, zero, zero, isAmount},
		{api.Put, api.Map, "put", 2, anyNumber, anyNumber, isLookup},
		{api.Get, api.Map, "get", 1, anyNumber, zero, isLookup},
		{api.Del, api.Map, "del", 1, anyNumber, zero, isLookup},
		{api.Enq, api.Queue, "enq", 1, anyNumber, zero, isDone},
		{api.Deq, api.Queue, "deq", 0, zero, zero, isLookup},
		{api.Len, api.Queue, "len", 0, zero, zero, isAmount},
		{api.Deposit, api.Escrow, "deposit", 1, amount, zero, isBit},
		{api.Withdraw, api.Escrow, "withdraw", 1, amount, zero, isBit},
		{api.Balance, api.Escrow, "balance", 0, zero, zero, isAmount},
	}
}

// What an argument may be.
func anyNumber(n int) bool { return true }
func zero(n int) bool      { return n == 0 }
func amount(n int) bool    { return 0 <= n && n <= api.Cap }

// What a return may be. N is 0 of one that is no number, for the same reason for which an argument is that a kind does not have.
func isDone(r api.Ret) bool   { return r == api.Ret{Kind: api.RetOK} }
func isNumber(r api.Ret) bool { return r.Kind == api.RetNumber }
func isLookup(r api.Ret) bool { return isNumber(r) || r == api.Ret{Kind: api.RetNone} }
func isBit(r api.Ret) bool    { return isNumber(r) && (r.N == 0 || r.N == 1) }
func isAmount(r api.Ret) bool { return isNumber(r) && amount(r.N) }

func (r rule) hasKind(kind int) bool    { return r.kind == kind }
func (r rule) hasWord(word string) bool { return r.word == word }

// find tells the rule that fits a key: a kind, or a word. No two rules share either: so it does not matter where it begins.
func find[K any](fits func(rule, K) bool, key K) (rule, api.Errno) {
	for _, r := range rules() {
		if fits(r, key) {
			return r, api.OK
		}
	}
	return rule{}, api.ErrWord
}

// check tells why an operation of the rule's kind may not be.
func (r rule) check(op api.Op) api.Errno {
	if !r.a(op.A) || !r.b(op.B) {
		return api.ErrArg
	}
	if !r.returns(op.Ret) {
		return api.ErrReturn
	}
	return api.OK
}
