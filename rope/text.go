package rope

import (
	"slices"
	"strconv"
	"strings"

	"becket/api"
	"becket/decimal"
)

// The names of lines.
const (
	nameOfHead = "rope"
	nameOfPart = "part"
)

// lineKind says where lines with a name stand, how many words they have, and what they add to a rope.
type lineKind struct {
	first bool
	sizes []int
	add   func(r Rope, words []string) (Rope, bool)
}

func lineKinds() map[string]lineKind {
	return map[string]lineKind{
		nameOfHead: {true, []int{2}, func(r Rope, words []string) (Rope, bool) { r.Name = words[1]; return r, true }},
		nameOfPart: {false, []int{9, 12}, addPart},
	}
}

// Print returns the text of a rope.
func Print(r Rope) (string, api.Errno) {
	if e := CheckRope(r); e != api.OK {
		return "", e
	}
	text := nameOfHead + " " + r.Name + "\n"
	for _, p := range r.Parts {
		text += strings.Join(wordsOf(p), " ") + "\n"
	}
	if len(text) > api.MaxText {
		return "", api.ErrLong
	}
	return text, api.OK
}

func wordsOf(p Part) []string {
	words := []string{nameOfPart, p.Name}
	for _, value := range []int{p.Parent, p.Hand, p.Lay, p.Radius, p.Thick, p.Count} {
		words = append(words, strconv.Itoa(value))
	}
	words = append(words, string(p.Twist))
	if p != asParent(p) {
		words = append(words, strconv.Itoa(p.Yarns), string(p.Tex), string(p.Stiff))
	}
	return words
}

// Parse returns the rope with a text, or the line of the first error.
func Parse(s string) (Rope, int, api.Errno) {
	if len(s) > api.MaxText {
		return Rope{}, 0, api.ErrLong
	}
	text, ended := strings.CutSuffix(s, "\n")
	if !ended {
		return Rope{}, 0, api.ErrTorn
	}
	var r Rope
	kinds := lineKinds()
	for i, line := range strings.Split(text, "\n") {
		words := strings.Split(line, " ")
		kind, known := kinds[words[0]]
		if !known || kind.first != (i == 0) || !slices.Contains(kind.sizes, len(words)) || slices.Contains(words, "") {
			return Rope{}, i + 1, api.ErrSyntax
		}
		longer, readable := kind.add(r, words)
		if !readable {
			return Rope{}, i + 1, api.ErrSyntax
		}
		r = longer
	}
	if e := CheckRope(r); e != api.OK {
		return Rope{}, 0, e
	}
	return r, 0, api.OK
}

// addPart adds the part of a line, and tells whether all its integers are some.
func addPart(r Rope, words []string) (Rope, bool) {
	words = append(words, "0", "0", "0") // the yarns of a part that has none
	p := Part{Name: words[1], Twist: api.Rat(words[8]), Tex: api.Rat(words[10]), Stiff: api.Rat(words[11])}
	fields := []*int{&p.Parent, &p.Hand, &p.Lay, &p.Radius, &p.Thick, &p.Count, &p.Yarns}
	for i, word := range append(words[2:8:8], words[9]) {
		value, readable := decimal.Integer(word)
		if !readable {
			return r, false
		}
		*fields[i] = value
	}
	r.Parts = append(r.Parts, p)
	return r, true
}
