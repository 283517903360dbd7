package grammar

import (
	"armistice/api"
	"armistice/names"
	"armistice/operation"
	"armistice/state"
)

// wrong is the fault at which a reader stops. It is thrown, as it may be found at any depth, and Parse catches it.
type wrong api.Fault

// reader stands at a line of a text, of which it has the words; there is one at least.
type reader struct {
	text  []byte
	words []api.Word
}

// kinds tells how a line is read, by its first word.
func (r *reader) kinds() map[string]func() api.Event {
	return map[string]func() api.Event{
		words[api.EventObject]: r.object,
		words[api.EventBegin]:  r.begin,
		words[api.EventOp]:     r.op,
		words[api.EventCommit]: r.commit,
		words[api.EventAbort]:  r.abort,
	}
}

// event reads the line.
func (r *reader) event(kinds map[string]func() api.Event) api.Event {
	read, ok := kinds[r.word(0)]
	if !ok {
		r.stop(api.ErrWord, 0)
	}
	return read()
}

func (r *reader) object() api.Event {
	e := api.Event{Kind: api.EventObject, Name: r.name(1)}
	e.First = r.first(2)
	return e
}

func (r *reader) begin() api.Event  { return r.named(api.EventBegin) }
func (r *reader) commit() api.Event { return r.named(api.EventCommit) }
func (r *reader) abort() api.Event  { return r.named(api.EventAbort) }

func (r *reader) op() api.Event {
	e := api.Event{Kind: api.EventOp, Name: r.name(1)}
	e.Object = r.name(2)
	e.Op = r.done(3)
	return e
}

// named reads a line that has a name, and nothing behind it.
func (r *reader) named(kind int) api.Event {
	e := api.Event{Kind: kind, Name: r.name(1)}
	if len(r.words) > 2 {
		r.stop(api.ErrForm, 2)
	}
	return e
}

// first reads the state that stands from the word n on to the line's end.
func (r *reader) first(n int) api.State {
	r.word(n) // where there is none the line is told to be too short, not the state to be wrong
	from, to := r.place(n), r.place(len(r.words))
	first, fault := state.Read(string(r.text[from:to]))
	if fault.Err != api.OK {
		panic(wrong{Err: fault.Err, At: from + fault.At})
	}
	if tooMany(first) {
		r.stop(api.ErrLong, n)
	}
	return first
}

// done reads the operation that stands from the word n on to the line's end.
func (r *reader) done(n int) api.Op {
	var rest []string
	for _, word := range r.words[n:] {
		rest = append(rest, word.Text)
	}
	op, at, err := operation.Read(rest...)
	if err != api.OK {
		r.stop(err, n+at)
	}
	return op
}

// name reads the word n, which must be a name.
func (r *reader) name(n int) string {
	name := r.word(n)
	if err := names.Check(name); err != api.OK {
		r.stop(err, n)
	}
	return name
}

// word reads the word n, which must be there.
func (r *reader) word(n int) string {
	if n >= len(r.words) {
		r.stop(api.ErrForm, n)
	}
	return r.words[n].Text
}

// place tells where the word n begins; if there is none such, where the line ends.
func (r *reader) place(n int) int {
	if n < len(r.words) {
		return r.words[n].At
	}
	last := r.words[len(r.words)-1]
	return last.At + len(last.Text)
}

// stop ends the reading of the whole text at the word n, or at the line's end.
func (r *reader) stop(err api.Errno, n int) {
	panic(wrong{Err: err, At: r.place(n)})
}
