package operation

import (
	"armistice/api"
	"armistice/number"
)

// reader takes an operation's words, one a step. There is one step at first, which lays out the others: they hang on the kind.
type reader struct {
	asked rule
	op    api.Op
	steps []func(word string) api.Errno
}

// Read tells the operation of a text's words, or which word is wrong.
func Read(words ...string) (api.Op, int, api.Errno) {
	r := &reader{}
	r.steps = append(r.steps, r.kind)
	if at, e := r.take(words); e != api.OK {
		return api.Op{}, at, e
	}
	switch e := r.asked.check(r.op); e {
	case api.OK:
		return r.op, 0, api.OK
	case api.ErrArg:
		// No kind that refuses an argument has two.
		return api.Op{}, 1, e
	default:
		return api.Op{}, len(words) - 1, e
	}
}

// take goes through words and steps side by side, and tells where one of them is wrong, lacks, or is too many.
func (r *reader) take(words []string) (int, api.Errno) {
	at, err := 0, api.OK
reading:
	for {
		switch {
		case at == len(words) && at == len(r.steps):
			break reading
		case at == len(words) || at == len(r.steps):
			err = api.ErrForm
			break reading
		}
		err = r.steps[at](words[at])
		if err != api.OK {
			break reading
		}
		at++
	}
	return at, err
}

// kind takes a kind's word, and lays out the steps that this kind asks.
func (r *reader) kind(word string) api.Errno {
	asked, e := find(rule.hasWord, word)
	if e != api.OK {
		return e
	}
	r.asked, r.op.Kind = asked, asked.kind
	if asked.args > 0 {
		r.steps = append(r.steps, r.argumentA)
	}
	if asked.args > 1 {
		r.steps = append(r.steps, r.argumentB)
	}
	r.steps = append(r.steps, r.arrow, r.result)
	return api.OK
}

func (r *reader) argumentA(word string) api.Errno { return fill(&r.op.A, word, api.ErrForm) }
func (r *reader) argumentB(word string) api.Errno { return fill(&r.op.B, word, api.ErrForm) }

func (r *reader) arrow(word string) api.Errno {
	if word != arrow {
		return api.ErrForm
	}
	return api.OK
}

// result takes what was returned. Whether the kind may return that is asked when all words are taken: a word that is too many is told first.
func (r *reader) result(word string) api.Errno {
	switch word {
	case done:
		r.op.Ret.Kind = api.RetOK
		return api.OK
	case none:
		r.op.Ret.Kind = api.RetNone
		return api.OK
	}
	r.op.Ret.Kind = api.RetNumber
	return fill(&r.op.Ret.N, word, api.ErrReturn)
}

// fill puts the number of a word where it belongs, or tells what it means here that the word is no number's text, whatever is wrong with it.
func fill(to *int, word string, wrong api.Errno) api.Errno {
	n, fault := number.Get(word)
	if fault.Err != api.OK {
		return wrong
	}
	*to = n
	return api.OK
}
