package script

import (
	"strconv"
	"strings"
)

// numberEnd is the least number that has too many digits.
const numberEnd = 1_000_000_000_000_000_000

// The hexadecimal digits.
const digits = "0123456789abcdef"

// joined is words as a line.
func joined(words ...string) string {
	return strings.Join(words, " ")
}

// numbers is numbers as words.
func numbers(l ...int) string {
	told := make([]string, len(l))
	for i, n := range l {
		told[i] = strconv.Itoa(n)
	}
	return joined(told...)
}

// words is what stands between a line's blanks; those in a quoted text part nothing.
func words(line string) []string {
	var l []string
word:
	for {
		quoted := false
		for at := 0; at < len(line); at++ {
			switch {
			case quoted && line[at] == '\\':
				at++ // what is behind it ends nothing
			case line[at] == '"':
				quoted = !quoted
			case line[at] == ' ' && !quoted:
				l = append(l, line[:at])
				line = line[at+1:]
				continue word
			}
		}
		return append(l, line)
	}
}

// mayNumber tells whether a number may be told: it has no more than 18 digits.
func mayNumber(n int) bool {
	return n > -numberEnd && n < numberEnd
}

// numberOf is the number of a word.
func numberOf(word string) (int, bool) {
	n, err := strconv.Atoi(word)
	// What is told again tells of signs and noughts that may not be.
	if err != nil || !mayNumber(n) || strconv.Itoa(n) != word {
		return 0, false
	}
	return n, true
}

// numbersOf is the numbers of words.
func numbersOf(words []string) ([]int, bool) {
	l := make([]int, len(words))
	for i, word := range words {
		n, ok := numberOf(word)
		if !ok {
			return nil, false
		}
		l[i] = n
	}
	return l, true
}

// plain tells whether a byte stands for itself in a quoted text.
func plain(b byte) bool {
	return b >= 32 && b <= 126 && b != '"' && b != '\\'
}

// Quote is the quoted text of bytes.
func Quote(s string) string {
	quoted := []byte{'"'}
	for i := range len(s) {
		switch b := s[i]; {
		case plain(b):
			quoted = append(quoted, b)
		case b == '"' || b == '\\':
			quoted = append(quoted, '\\', b)
		default:
			quoted = append(quoted, '\\', 'x', digits[b>>4], digits[b&15])
		}
	}
	return string(append(quoted, '"'))
}

// Unquote is the bytes whose quoted text it is.
func Unquote(s string) (string, bool) {
	if len(s) < 2 {
		return "", false
	}
	var bytes []byte
	for rest := s[1 : len(s)-1]; rest != ""; {
		b, size := firstQuoted(rest)
		bytes = append(bytes, b)
		rest = rest[size:]
	}
	// What is quoted again tells of all at once: both ends, each byte's only form.
	if Quote(string(bytes)) != s {
		return "", false
	}
	return string(bytes), true
}

// firstQuoted is the byte that stands first in a piece of a quoted text, and how many bytes it has there; any one, if there is none.
func firstQuoted(s string) (b byte, size int) {
	switch {
	case s[0] != '\\' || len(s) == 1:
		return s[0], 1
	case s[1] != 'x' || len(s) < 4:
		return s[1], 2
	}
	high, low := strings.IndexByte(digits, s[2]), strings.IndexByte(digits, s[3])
	return byte(high<<4 | low), 4
}
