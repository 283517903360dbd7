package escrow

import "armistice/api"

// span is accounts one behind the other: the first one, and the one behind the last. If these are the same, there is none.
type span struct{ first, behind account }

// end is behind all accounts.
const end account = api.Cap + 1

// spans tells which accounts return a number, by the kinds' numbers, from the argument. Below Deposit none is an account's.
func spans() [api.Balance + 1]func(account, int) span {
	return [...]func(account, int) span{
		api.Deposit:  account.deposited,
		api.Withdraw: account.withdrawn,
		api.Balance:  account.told,
	}
}

func (x account) deposited(ret int) span {
	// What may be put to x is what x may be put to.
	full := x.room() + 1
	switch ret {
	case 0:
		return span{full, end}
	case 1:
		return span{0, full}
	}
	return span{}
}

func (x account) withdrawn(ret int) span {
	switch ret {
	case 0:
		return span{0, x}
	case 1:
		return span{x, end}
	}
	return span{}
}

// told has an account only because the other kinds have an argument: the one that returns a number is the number itself.
func (account) told(ret int) span {
	if n := account(ret); n.capped() {
		return span{n, n + 1}
	}
	return span{}
}
