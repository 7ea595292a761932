package maker

import (
	"strconv"
	"strings"

	"spile/api"
)

// name is the name of a thing.
type name string

// none is a list of nothing, and hexDigits are the digits of bytes.
const (
	none      = "-"
	hexDigits = "0123456789abcdef"
)

// forms are those of a command's words, each told by the place to which its word goes. No command has more.
type forms [11]any

// read reads words, and reports whether there are as many as there are places, each of its form.
func (f forms) read(words ...string) bool {
	for i, place := range f {
		if place == nil {
			return len(words) == i
		}
		if i >= len(words) || !read(words[i], place) {
			return false
		}
	}
	return len(words) == len(f)
}

// read reads a word to a place, and reports whether it has the form of what belongs there.
func read(word string, place any) bool {
	ok := false
	switch p := place.(type) {
	case *name:
		*p, ok = name(word), isName(word)
	case *string:
		*p, ok = word, word != ""
	case *int:
		*p, ok = integer(word)
	case *api.Range:
		p.Low, p.High, ok = pair(word, "..")
	case *api.Sap:
		p.Water, p.Sugar, ok = pair(word, "+")
	case *api.Row:
		p.X, p.Y, ok = pair(word, ":")
	case *[]int:
		*p, ok = list[int](word)
	case *[]api.Range:
		*p, ok = list[api.Range](word)
	case *[]api.Row:
		*p, ok = list[api.Row](word)
	case *[]byte:
		*p, ok = octets(word)
	}
	return ok
}

// list reads things with commas between them.
func list[T any](word string) ([]T, bool) {
	if word == none {
		return nil, true
	}
	var l []T
	for part := range strings.SplitSeq(word, ",") {
		var thing T
		if !read(part, &thing) {
			return nil, false
		}
		l = append(l, thing)
	}
	return l, true
}

// pair reads two integers with a sign between them.
func pair(word, sign string) (first, second int, ok bool) {
	before, behind, _ := strings.Cut(word, sign)
	first, one := integer(before)
	second, other := integer(behind)
	return first, second, one && other
}

// integer reads an integer. As each one is written in one way alone, what is not written again as it was has not its form.
func integer(word string) (int, bool) {
	n, wrong := strconv.Atoi(word)
	return n, wrong == nil && strconv.Itoa(n) == word && -api.MaxMakerInt <= n && n <= api.MaxMakerInt
}

// octets reads bytes.
func octets(word string) ([]byte, bool) {
	if word == "" || len(word)%2 != 0 {
		return nil, false
	}
	var b []byte
	for i := 0; i < len(word); i += 2 {
		high, low := strings.IndexByte(hexDigits, word[i]), strings.IndexByte(hexDigits, word[i+1])
		if high < 0 || low < 0 {
			return nil, false
		}
		b = append(b, byte(high<<4|low))
	}
	return b, true
}

// isName reports whether a word can be a name.
func isName(word string) bool {
	other := func(r rune) bool { return r < 'a' || r > 'z' }
	return 0 < len(word) && len(word) <= api.MaxMakerWord && !strings.ContainsFunc(word, other)
}
