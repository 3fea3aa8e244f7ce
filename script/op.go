package script

import "dedup/api"

// form is what a kind's line has: its word, and a letter for each field behind it.
type form struct {
	word   string
	fields string
}

// grammar is the forms of all kinds, and the kinds by their words.
type grammar struct {
	forms map[int]form
	kinds map[string]int
}

// newGrammar is the grammar of operations' lines.
func newGrammar() grammar {
	g := grammar{kinds: map[string]int{}, forms: map[int]form{
		api.OpOpen:       {"open", "PF"},
		api.OpClose:      {"close", "H"},
		api.OpRead:       {"read", "HON"},
		api.OpWrite:      {"write", "HOD"},
		api.OpTruncate:   {"truncate", "HN"},
		api.OpStat:       {"stat", "P"},
		api.OpList:       {"list", "P"},
		api.OpMkdir:      {"mkdir", "P"},
		api.OpRmdir:      {"rmdir", "P"},
		api.OpLink:       {"link", "PQ"},
		api.OpUnlink:     {"unlink", "P"},
		api.OpRename:     {"rename", "PQ"},
		api.OpFsync:      {"fsync", "H"},
		api.OpSync:       {"sync", ""},
		api.OpCheckpoint: {"checkpoint", ""},
		api.OpClean:      {"clean", ""},
		api.OpCompact:    {"compact", ""},
		api.OpEvict:      {"evict", ""},
		api.OpRemount:    {"remount", ""},
	}}
	for kind, f := range g.forms {
		g.kinds[f.word] = kind
	}
	return g
}

// textField is the field of an operation that a letter names, if that is a text; else nil.
func textField(o *api.Op, letter byte) *string {
	switch letter {
	case 'P':
		return &o.Path
	case 'Q':
		return &o.Other
	case 'D':
		return &o.Data
	}
	return nil
}

// numberField is the field of an operation that a letter names, if that is a number; else nil.
func numberField(o *api.Op, letter byte) *int {
	switch letter {
	case 'H':
		return &o.Handle
	case 'O':
		return &o.Offset
	case 'N':
		return &o.N
	case 'F':
		return &o.Flags
	}
	return nil
}

// print is an operation's line; false, if it may not be told.
func (g grammar) print(o api.Op) (string, bool) {
	f, known := g.forms[o.Kind]
	if !known {
		return "", false
	}
	l := []string{f.word}
	for i := range len(f.fields) {
		word, ok := tell(&o, f.fields[i])
		if !ok {
			return "", false
		}
		l = append(l, word)
	}
	if o != (api.Op{Kind: o.Kind}) { // something is left that the line does not name
		return "", false
	}
	return joined(l...), true
}

// tell is a field's word; the field is zero then. False, if it may not be told.
func tell(o *api.Op, letter byte) (string, bool) {
	if text := textField(o, letter); text != nil {
		word := Quote(*text)
		*text = ""
		return word, true
	}
	number := numberField(o, letter)
	n := *number
	*number = 0
	return numbers(n), mayNumber(n)
}

// parse is the operation of a line's words.
func (g grammar) parse(l []string) (api.Op, bool) {
	kind, known := g.kinds[l[0]]
	fields := g.forms[kind].fields
	if !known || len(l) != 1+len(fields) {
		return api.Op{}, false
	}
	o := api.Op{Kind: kind}
	for i := range len(fields) {
		if !take(&o, fields[i], l[1+i]) {
			return api.Op{}, false
		}
	}
	return o, true
}

// take lets a field be what a word says; false, if it says nothing.
func take(o *api.Op, letter byte, word string) bool {
	ok := false
	if text := textField(o, letter); text != nil {
		*text, ok = Unquote(word)
		return ok
	}
	*numberField(o, letter), ok = numberOf(word)
	return ok
}
