package script

import (
	"strconv"
	"strings"

	"dedup/api"
)

// The words of the lines that are no operation's.
const (
	volumeWord = "volume"
	cutWord    = "cut"
	indexWord  = "index"
	dedupWord  = "dedup"
	plainWord  = "plain"
	lifeWord   = "life"
	keepWord   = "keep"
)

// What may stand next in a text of lives.
const (
	theVolume = iota
	theCut
	theIndex
	aLife   // and nothing else
	anyMore // of a life, or the next one
)

// heads is how many lines stand ahead of the lives.
const heads = 3

// line is words with a newline behind them.
func line(words ...string) string {
	return joined(words...) + "\n"
}

// shapeText is a shape's lines.
func shapeText(s api.Shape) string {
	how := plainWord
	if s.Dedup {
		how = dedupWord
	}
	return line(volumeWord, numbers(s.Sector, s.Sectors, s.Journal, s.Pack)) +
		line(cutWord, numbers(s.Cut.Min, s.Cut.Normal, s.Cut.Max), strconv.FormatUint(s.Cut.Seed, 10)) +
		line(indexWord, numbers(s.Bits), how)
}

// lifeText is a life's lines; false, if something of it may not be told.
func (g grammar) lifeText(life api.Life) (string, bool) {
	if !mayNumber(life.Stop) {
		return "", false
	}
	var text strings.Builder
	text.WriteString(line(lifeWord, numbers(life.Stop)))
	for _, o := range life.Ops {
		l, ok := g.print(o)
		if !ok {
			return "", false
		}
		text.WriteString(line(l))
	}
	for _, n := range life.Keep {
		if !mayNumber(n) {
			return "", false
		}
	}
	if len(life.Keep) > 0 {
		text.WriteString(line(keepWord, numbers(life.Keep...)))
	}
	return text.String(), true
}

// parser reads a text of lives, line by line.
type parser struct {
	grammar
	next  int // what may stand there
	shape api.Shape
	lives []api.Life
}

// read reads a text; false, and the number of the first line that can't stand there, or of that which is missing.
func (p *parser) read(text string) (int, bool) {
	at := 0
	for ; text != ""; at++ {
		line, rest, ended := strings.Cut(text, "\n")
		if !ended || !p.line(words(line)) {
			break
		}
		text = rest
	}
	if text != "" || at < heads {
		return at, false
	}
	return 0, true
}

// line reads a line's words; false, if it can't stand there.
func (p *parser) line(l []string) bool {
	switch {
	case p.next == theVolume:
		return p.volume(l)
	case p.next == theCut:
		return p.cut(l)
	case p.next == theIndex:
		return p.index(l)
	case l[0] == lifeWord:
		return p.life(l[1:])
	case p.next != anyMore:
		return false
	case l[0] == keepWord:
		return p.keep(l[1:])
	}
	return p.op(l)
}

// volume reads the first line.
func (p *parser) volume(l []string) bool {
	n, ok := numbersOf(l[1:])
	if !ok || l[0] != volumeWord || len(n) != 4 {
		return false
	}
	p.shape = api.Shape{Sector: n[0], Sectors: n[1], Journal: n[2], Pack: n[3]}
	p.next = theCut
	return true
}

// cut reads the second line.
func (p *parser) cut(l []string) bool {
	if l[0] != cutWord || len(l) != 5 {
		return false
	}
	n, ok := numbersOf(l[1:4])
	seed, is := seedOf(l[4])
	if !ok || !is {
		return false
	}
	p.shape.Cut = api.Cut{Min: n[0], Normal: n[1], Max: n[2], Seed: seed}
	p.next = theIndex
	return true
}

// seedOf is the seed of a word: it may have more digits than another number.
func seedOf(word string) (uint64, bool) {
	seed, err := strconv.ParseUint(word, 10, 64)
	return seed, err == nil && strconv.FormatUint(seed, 10) == word
}

// index reads the third line.
func (p *parser) index(l []string) bool {
	if l[0] != indexWord || len(l) != 3 {
		return false
	}
	bits, ok := numberOf(l[1])
	how := l[2]
	if !ok || how != dedupWord && how != plainWord {
		return false
	}
	p.shape.Bits, p.shape.Dedup = bits, how == dedupWord
	p.next = aLife
	return true
}

// life reads the numbers of a line with which a life begins.
func (p *parser) life(l []string) bool {
	n, ok := numbersOf(l)
	if !ok || len(n) != 1 {
		return false
	}
	p.lives = append(p.lives, api.Life{Stop: n[0]})
	p.next = anyMore
	return true
}

// keep reads the numbers of a life's last line.
func (p *parser) keep(l []string) bool {
	n, ok := numbersOf(l)
	if !ok || len(n) == 0 {
		return false
	}
	p.lives[len(p.lives)-1].Keep = n
	p.next = aLife
	return true
}

// op reads an operation's line.
func (p *parser) op(l []string) bool {
	o, ok := p.parse(l)
	if !ok {
		return false
	}
	life := &p.lives[len(p.lives)-1]
	life.Ops = append(life.Ops, o)
	return true
}
