package isa

import (
	"iter"
	"strconv"
	"strings"

	"carryall/api"
)

// plain stands ahead of a word that is said by its number.
const plain = "word "

// jump is an instruction that goes to a label: its Imm is known when all labels are.
type jump struct {
	line, place int
	ins         api.Ins
	label       string
}

// program is what lines have made so far: words (noughts for jumps to labels), places of labels, and those jumps.
type program struct {
	words  []uint32
	places map[string]int
	jumps  []jump
}

// lines tells a text's lines with their numbers, from 1 on, and with the byte 10 behind each: only the last one may be without.
func lines(s string) iter.Seq2[int, string] {
	return func(yield func(int, string) bool) {
		from := 0
		for n := 1; from < len(s); n++ {
			to := len(s)
			if at := strings.IndexByte(s[from:], '\n'); at >= 0 {
				to = from + at + 1
			}
			if !yield(n, s[from:to]) {
				return
			}
			from = to
		}
	}
}

// Assemble are a program's words.
func Assemble(s string) (words []uint32, line int, e api.Errno) {
	p := program{places: map[string]int{}}
reading:
	for n, l := range lines(s) {
		text, ended := strings.CutSuffix(l, "\n")
		switch {
		case !ended, !p.take(n, text):
			line = n
			break reading
		}
	}
	if line == 0 {
		line = p.link()
	}
	if line > 0 {
		return nil, line, api.ErrAsm
	}
	return p.words, 0, api.OK
}

// take adds a line, if it may stand there.
func (p *program) take(n int, s string) bool {
	if name, ok := strings.CutSuffix(s, ":"); ok {
		return p.label(name)
	}
	if digits, ok := strings.CutPrefix(s, plain); ok {
		w, ok := number(digits)
		return ok && p.add(w)
	}
	x, label, ok := parse(s)
	if !ok {
		return false
	}
	if label != "" {
		p.jumps = append(p.jumps, jump{line: n, place: len(p.words), ins: x, label: label})
	}
	w, _ := Encode(x)
	return p.add(w)
}

// add adds a word, if there is room.
func (p *program) add(w uint32) bool {
	if len(p.words) == api.MaxWords {
		return false
	}
	p.words = append(p.words, w)
	return true
}

// label gives a name the place of the next word, if it has none yet.
func (p *program) label(name string) bool {
	_, stood := p.places[name]
	if stood || !isName(name) {
		return false
	}
	p.places[name] = len(p.words)
	return true
}

// link gives jumps their Imm: the line of the first one that can't have it, or 0.
func (p *program) link() int {
	for _, j := range p.jumps {
		place, ok := p.places[j.label]
		j.ins.Imm = place - (j.place + 1)
		w, e := Encode(j.ins)
		if !ok || e != api.OK {
			return j.line
		}
		p.words[j.place] = w
	}
	return 0
}

// List are words' lines.
func List(words []uint32) string {
	var b strings.Builder
	for _, w := range words {
		b.WriteString(told(w))
		b.WriteByte('\n')
	}
	return b.String()
}

// told is a word's line in a program: its number, if it is no instruction's.
func told(w uint32) string {
	x, e := Decode(w)
	if e != api.OK {
		return plain + strconv.FormatUint(uint64(w), 10)
	}
	s, _ := Line(x)
	return s
}
