package vol

import (
	"math"

	"dedup/api"
	"dedup/codec"
	"dedup/tree"
)

// The bytes that begin an entry of a record.
const (
	hasValue = 1 + iota
	isGone
)

// Diff is what parts two trees.
func Diff(a, b *tree.Tree) ([]api.Entry, api.Errno) {
	if a == nil || b == nil {
		return nil, api.ErrArg
	}
	was, e := pairsOf(a)
	if e != api.OK {
		return nil, e
	}
	now, e := pairsOf(b)
	if e != api.OK {
		return nil, e
	}
	return changes(was, now), api.OK
}

// pairsOf is all keys of a tree, rising, with their values.
func pairsOf(t *tree.Tree) ([]api.Pair, api.Errno) {
	// An iterator over keys does not tell of a node that can't be read.
	n, e := t.Count()
	if e != api.OK {
		return nil, e
	}
	l := make([]api.Pair, 0, n)
	for key, value := range t.Scan("", "") {
		l = append(l, api.Pair{Key: key, Value: value})
	}
	return l, api.OK
}

// changes is the keys that have another value now, or are gone; all lists rise.
func changes(was, now []api.Pair) []api.Entry {
	var l []api.Entry
	for len(was) > 0 || len(now) > 0 {
		switch {
		case len(now) == 0 || len(was) > 0 && was[0].Key < now[0].Key:
			l = append(l, api.Entry{Key: was[0].Key, Gone: true})
			was = was[1:]
		case len(was) == 0 || now[0].Key < was[0].Key:
			l = append(l, api.Entry{Key: now[0].Key, Value: now[0].Value})
			now = now[1:]
		default:
			if was[0].Value != now[0].Value {
				l = append(l, api.Entry{Key: now[0].Key, Value: now[0].Value})
			}
			was, now = was[1:], now[1:]
		}
	}
	return l
}

// Record is a diff as bytes.
func Record(l []api.Entry) string {
	w := codec.NewWriter(math.MaxInt)
	for _, x := range l {
		if x.Gone {
			w.U8(isGone)
			w.Text(x.Key)
			continue
		}
		w.U8(hasValue)
		w.Text(x.Key)
		w.Text(x.Value)
	}
	rec, _ := w.Done()
	return rec
}

// Entries is the diff of which bytes are the record.
func Entries(rec string) ([]api.Entry, api.Errno) {
	var l []api.Entry
	for r := codec.NewReader(rec); r.Left() > 0; {
		x, ok := nextEntry(r)
		rises := len(l) == 0 || x.Key > l[len(l)-1].Key
		if !ok || !rises {
			return nil, api.ErrVolume
		}
		l = append(l, x)
	}
	return l, api.OK
}

// nextEntry is what stands next in a record, and whether that is an entry.
func nextEntry(r *codec.Reader) (api.Entry, bool) {
	kind := r.U8()
	x := api.Entry{Key: r.Text(), Gone: kind == isGone}
	if kind == hasValue {
		x.Value = r.Text()
	}
	return x, r.Err() == api.OK && (kind == hasValue || kind == isGone)
}

// Apply is a tree with a diff.
func Apply(t *tree.Tree, l []api.Entry) (*tree.Tree, api.Errno) {
	if t == nil {
		return nil, api.ErrArg
	}
	for _, x := range l {
		with, e := applied(t, x)
		if e != api.OK {
			return nil, e
		}
		t = with
	}
	return t, api.OK
}

// applied is a tree with an entry.
func applied(t *tree.Tree, x api.Entry) (*tree.Tree, api.Errno) {
	if x.Gone {
		return t.Delete(x.Key)
	}
	return t.Put(x.Key, x.Value)
}
