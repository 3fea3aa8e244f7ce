package chunk_test

import (
	"slices"
	"strings"
	"testing"

	"dedup/api"
	"dedup/chunk"
)

// wantWritten holds which sectors were told.
func wantWritten(t *testing.T, what string, got []int, want ...int) {
	t.Helper()
	if !slices.Equal(got, want) {
		t.Error(what, got, "want", want)
	}
}

// TestTakeOver: P15.5, P15.8: where a container lay that was let go, sectors of slots are told though they are zeros; where zeros lie they are not.
func TestTakeOver(t *testing.T) {
	s := someShape()
	s.Pack = 4
	zeros := func(n int) string { return string(make([]byte, n)) }
	b, d := newBook(t, s)
	mustPut(t, b, strings.Repeat("a", 2008), 1) // container 1, in 6 to 9
	mustPut(t, b, "b", 2)                       // container 2, in 10 to 13
	wantWritten(t, "letters", write(t, b, d), 6, 7, 8, 9, 10)
	wantErr(t, "Decr", b.Decr(1), api.OK)
	b.Space().Settle()
	mustPut(t, b, zeros(1500), 3) // behind the b
	wantWritten(t, "zeros where zeros lie", write(t, b, d), 10)
	mustPut(t, b, zeros(1700), 4) // container 3, in 6 to 9
	fork := b.Fork()
	wantWritten(t, "zeros where letters lie", write(t, b, d), 13, 6, 7, 8, 9)
	var forked []int
	for _, x := range fork.Take() {
		forked = append(forked, x.N)
	}
	wantWritten(t, "of a fork, where they lie by now", forked, 13, 6)
	mustPut(t, b, "c", 5)
	wantWritten(t, "what was taken is not told again", write(t, b, d), 9)
	wantWritten(t, "nothing", write(t, b, d))
	other, e := chunk.New(s, b.Tree(), b.Space(), d)
	wantErr(t, "New", e, api.OK)
	for id, want := range map[int]string{2: "b", 3: zeros(1500), 4: zeros(1700), 5: "c"} {
		wantGet(t, b, id, want)
		wantGet(t, other, id, want)
	}
}
