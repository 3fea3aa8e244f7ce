package vol

import (
	"slices"

	"dedup/api"
	"dedup/chunk"
)

// Tx is a transaction.
type Tx struct {
	book *chunk.Book
	lost bool // nodes lie now where it has laid a container
}

// Begin is a transaction on the present state.
func (v *Vol) Begin() *Tx {
	if !v.made() {
		return nil
	}
	v.begun = &Tx{book: v.book.Fork()}
	return v.begun
}

// Book is its state.
func (t *Tx) Book() *chunk.Book {
	if t == nil {
		return nil
	}
	return t.book
}

// Commit lets a transaction's state be the present one.
func (v *Vol) Commit(t *Tx) api.Errno {
	if !v.made() {
		return api.ErrClosed
	}
	if t == nil || t != v.begun {
		return api.ErrCommit
	}
	book, diff, e := v.behind(t)
	if e != api.OK {
		return e
	}
	was := v.book
	v.book, v.begun = book, nil
	if len(diff) == 0 || v.journal.Append(Record(diff)) == api.OK {
		v.left = append(v.left, unwritten(was, book)...)
		return api.OK
	}
	if e := v.checkpoint(book.Take()); e != api.OK {
		v.book, v.begun = was, t
		return e
	}
	return api.OK
}

// behind is the state behind a transaction, and what parts it from the present one. Its tree is made of the present tree as a mount would make it of the journal's records, so that both have as many dirty nodes.
func (v *Vol) behind(t *Tx) (*chunk.Book, []api.Entry, api.Errno) {
	diff, e := Diff(v.book.Tree(), t.book.Tree())
	if e != api.OK {
		return nil, nil, e
	}
	with, e := Apply(v.book.Tree(), diff)
	if e != api.OK {
		return nil, nil, e
	}
	if t.lost || !fits(with, t.book.Space()) {
		return nil, nil, api.ErrFull
	}
	book := t.book.Fork() // who has the transaction still does not change the present state
	return book, diff, book.Set(with)
}

// unwritten is the sectors of containers that one state has and the next one has not, as far as they were never taken. A mount may find the state between: then it wants their bytes.
func unwritten(was, now *chunk.Book) []api.Sector {
	still, gone := containersOf(now.Tree()), sectors{}
	for c := range containersOf(was.Tree()) {
		if _, is := still[c]; is {
			continue
		}
		for i := range was.Shape().Pack {
			gone[c.first+i] = struct{}{}
		}
	}
	if len(gone) == 0 {
		return nil
	}
	return slices.DeleteFunc(was.Fork().Take(), func(s api.Sector) bool {
		_, is := gone[s.N]
		return !is
	})
}
