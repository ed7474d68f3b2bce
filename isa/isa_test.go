package isa

import (
	"math"
	"regexp"
	"strconv"
	"strings"
	"testing"

	"carryall/api"
)

// rule is a row of the chapter's table, as it is written there: what the instruction names, and how far A and B go.
type rule struct {
	op           int
	word         string
	names        string
	mostA, mostB int
}

// chapter is that table.
var chapter = []rule{
	{0, "nop", "", 0, 0},
	{1, "li", "A Imm", 7, 0}, {2, "lui", "A Imm", 7, 0},
	{3, "mov", "A B", 7, 7},
	{4, "add", "A B", 7, 7}, {5, "sub", "A B", 7, 7}, {6, "mul", "A B", 7, 7}, {7, "and", "A B", 7, 7},
	{8, "or", "A B", 7, 7}, {9, "xor", "A B", 7, 7}, {10, "shl", "A B", 7, 7}, {11, "shr", "A B", 7, 7},
	{12, "addi", "A Imm", 7, 0},
	{13, "slt", "A B", 7, 7}, {14, "seq", "A B", 7, 7},
	{15, "lw", "A B Imm", 7, 7}, {16, "sw", "A B Imm", 7, 7}, {17, "lb", "A B Imm", 7, 7}, {18, "sb", "A B Imm", 7, 7},
	{19, "jmp", "Imm", 0, 0},
	{20, "jz", "A Imm", 7, 0}, {21, "jnz", "A Imm", 7, 0}, {22, "jal", "A Imm", 7, 0},
	{23, "jr", "A", 7, 0},
	{24, "sys", "", 0, 0},
	{25, "zset", "A B", 1, 6}, {26, "zget", "A B", 1, 6},
	{27, "zadd", "A B", 1, 1}, {28, "zmul", "A B", 1, 1},
	{29, "zconj", "A", 1, 0},
}

func (r rule) has(name string) bool {
	for _, n := range strings.Fields(r.names) {
		if n == name {
			return true
		}
	}
	return false
}

func within(n, least, most int) bool {
	return least <= n && n <= most
}

func (r rule) allows(x api.Ins) bool {
	ok := x.Imm == 0
	if r.has("Imm") {
		ok = within(x.Imm, -32768, 32767)
	}
	return ok && within(x.A, 0, r.mostA) && within(x.B, 0, r.mostB)
}

func may(x api.Ins) bool {
	for _, r := range chapter {
		if r.op == x.Op {
			return r.allows(x)
		}
	}
	return false
}

// line is told piece by piece, as the chapter's words say it.
func (r rule) line(x api.Ins) string {
	l := []string{r.word}
	for _, n := range strings.Fields(r.names) {
		l = append(l, strconv.Itoa(map[string]int{"A": x.A, "B": x.B, "Imm": x.Imm}[n]))
	}
	return strings.Join(l, " ")
}

// immediates are both ends, the numbers next to them, and some between.
func immediates() []int {
	return []int{-32768, -32767, -1000, -256, -255, -2, -1, 0, 1, 2, 9, 10, 127, 128, 255, 256, 4660, 32766, 32767}
}

func oddNumbers() []int {
	return []int{math.MinInt, -1 << 32, -65536, -65535, -32769, -16, -8, 6, 7, 8, 15, 16, 17, 32768, 65535, 65536, 1 << 32, 1<<32 + 1, math.MaxInt}
}

// instructions are all that may be, of a few immediates.
func instructions() []api.Ins {
	var l []api.Ins
	for _, r := range chapter {
		imms := []int{0}
		if r.has("Imm") {
			imms = immediates()
		}
		for a := range r.mostA + 1 {
			for b := range r.mostB + 1 {
				for _, imm := range imms {
					l = append(l, api.Ins{Op: r.op, A: a, B: b, Imm: imm})
				}
			}
		}
	}
	return l
}

// known are instructions of each row with their words and lines, reckoned by hand.
func known() []struct {
	x    api.Ins
	w    uint32
	line string
} {
	return []struct {
		x    api.Ins
		w    uint32
		line string
	}{
		{api.Ins{Op: api.OpNop}, 0x00000000, "nop"},
		{api.Ins{Op: api.OpLi, A: 1, Imm: -1}, 0x0110ffff, "li 1 -1"},
		{api.Ins{Op: api.OpLi, A: 0, Imm: 0}, 0x01000000, "li 0 0"},
		{api.Ins{Op: api.OpLi, A: 7, Imm: 32767}, 0x01707fff, "li 7 32767"},
		{api.Ins{Op: api.OpLui, A: 3, Imm: -32768}, 0x02308000, "lui 3 -32768"},
		{api.Ins{Op: api.OpMov, A: 1, B: 2}, 0x03120000, "mov 1 2"},
		{api.Ins{Op: api.OpAdd, A: 7, B: 7}, 0x04770000, "add 7 7"},
		{api.Ins{Op: api.OpSub, A: 0, B: 7}, 0x05070000, "sub 0 7"},
		{api.Ins{Op: api.OpMul, A: 7, B: 0}, 0x06700000, "mul 7 0"},
		{api.Ins{Op: api.OpAnd, A: 4, B: 5}, 0x07450000, "and 4 5"},
		{api.Ins{Op: api.OpOr, A: 5, B: 4}, 0x08540000, "or 5 4"},
		{api.Ins{Op: api.OpXor, A: 6, B: 6}, 0x09660000, "xor 6 6"},
		{api.Ins{Op: api.OpShl, A: 1, B: 3}, 0x0a130000, "shl 1 3"},
		{api.Ins{Op: api.OpShr, A: 3, B: 1}, 0x0b310000, "shr 3 1"},
		{api.Ins{Op: api.OpAddi, A: 2, Imm: 100}, 0x0c200064, "addi 2 100"},
		{api.Ins{Op: api.OpSlt, A: 0, B: 0}, 0x0d000000, "slt 0 0"},
		{api.Ins{Op: api.OpSeq, A: 2, B: 6}, 0x0e260000, "seq 2 6"},
		{api.Ins{Op: api.OpLw, A: 1, B: 2, Imm: 4}, 0x0f120004, "lw 1 2 4"},
		{api.Ins{Op: api.OpSw, A: 7, B: 6, Imm: -4}, 0x1076fffc, "sw 7 6 -4"},
		{api.Ins{Op: api.OpLb, A: 0, B: 0, Imm: 0}, 0x11000000, "lb 0 0 0"},
		{api.Ins{Op: api.OpSb, A: 3, B: 4, Imm: 4660}, 0x12341234, "sb 3 4 4660"},
		{api.Ins{Op: api.OpJmp, Imm: -2}, 0x1300fffe, "jmp -2"},
		{api.Ins{Op: api.OpJz, A: 5, Imm: 10}, 0x1450000a, "jz 5 10"},
		{api.Ins{Op: api.OpJnz, A: 1, Imm: -2}, 0x1510fffe, "jnz 1 -2"},
		{api.Ins{Op: api.OpJal, A: 7, Imm: 256}, 0x16700100, "jal 7 256"},
		{api.Ins{Op: api.OpJr, A: 7}, 0x17700000, "jr 7"},
		{api.Ins{Op: api.OpSys}, 0x18000000, "sys"},
		{api.Ins{Op: api.OpZset, A: 1, B: 6}, 0x19160000, "zset 1 6"},
		{api.Ins{Op: api.OpZget, A: 0, B: 4}, 0x1a040000, "zget 0 4"},
		{api.Ins{Op: api.OpZadd, A: 0, B: 1}, 0x1b010000, "zadd 0 1"},
		{api.Ins{Op: api.OpZmul, A: 1, B: 0}, 0x1c100000, "zmul 1 0"},
		{api.Ins{Op: api.OpZconj, A: 1}, 0x1d100000, "zconj 1"},
	}
}

func TestP3_1_KnownWords(t *testing.T) {
	for _, x := range known() {
		if e := Check(x.x); e != api.OK {
			t.Errorf("Check(%v) = %v", x.x, e)
		}
		if w, e := Encode(x.x); w != x.w || e != api.OK {
			t.Errorf("Encode(%v) = %08x, %v, not %08x", x.x, w, e, x.w)
		}
		if y, e := Decode(x.w); y != x.x || e != api.OK {
			t.Errorf("Decode(%08x) = %v, %v, not %v", x.w, y, e, x.x)
		}
	}
}

// holds looks at Check, Encode and Line of something that may be an instruction, or not.
func holds(t *testing.T, x api.Ins) {
	t.Helper()
	want := api.ErrIsa
	if may(x) {
		want = api.OK
	}
	if e := Check(x); e != want {
		t.Errorf("Check(%v) = %v, not %v", x, e, want)
	}
	if w, e := Encode(x); e != want || e != api.OK && w != 0 {
		t.Errorf("Encode(%v) = %08x, %v, not %v", x, w, e, want)
	}
	if s, e := Line(x); e != want || e != api.OK && s != "" {
		t.Errorf("Line(%v) = %q, %v, not %v", x, s, e, want)
	}
}

func TestP3_1_FieldsAtTheirEndsAndBeyond(t *testing.T) {
	values := append(immediates(), oddNumbers()...)
	for _, r := range chapter {
		for _, v := range values {
			for _, rest := range []int{0, 1} {
				a, b, imm := min(rest, r.mostA), min(rest, r.mostB), 0
				if r.has("Imm") {
					imm = rest
				}
				holds(t, api.Ins{Op: r.op, A: v, B: b, Imm: imm})
				holds(t, api.Ins{Op: r.op, A: a, B: v, Imm: imm})
				holds(t, api.Ins{Op: r.op, A: a, B: b, Imm: v})
				holds(t, api.Ins{Op: r.op, A: v, B: v, Imm: v})
			}
		}
	}
}

func TestP3_1_SomeThatMayNotBe(t *testing.T) {
	for _, x := range []api.Ins{
		{Op: api.OpNop, A: 1}, {Op: api.OpNop, B: 1}, {Op: api.OpNop, Imm: 1}, {Op: api.OpNop, Imm: -1},
		{Op: api.OpLi, B: 1}, {Op: api.OpLi, A: 8}, {Op: api.OpLi, A: -1}, {Op: api.OpLi, Imm: 32768}, {Op: api.OpLui, Imm: -32769}, {Op: api.OpLui, Imm: 65535},
		{Op: api.OpMov, Imm: 1}, {Op: api.OpAdd, B: 8}, {Op: api.OpShr, B: -1}, {Op: api.OpAddi, B: 7}, {Op: api.OpSeq, Imm: -1},
		{Op: api.OpJmp, A: 1}, {Op: api.OpJmp, B: 1}, {Op: api.OpJz, B: 1}, {Op: api.OpJr, B: 1}, {Op: api.OpJr, Imm: 1}, {Op: api.OpSys, A: 1}, {Op: api.OpSys, Imm: 1},
		{Op: api.OpZset, A: 2}, {Op: api.OpZset, B: 7}, {Op: api.OpZget, A: 2}, {Op: api.OpZget, B: 7}, {Op: api.OpZget, Imm: 1}, {Op: api.OpZadd, B: 2}, {Op: api.OpZmul, A: 2}, {Op: api.OpZconj, A: 2}, {Op: api.OpZconj, B: 1},
	} {
		if e := Check(x); e != api.ErrIsa {
			t.Errorf("Check(%v) = %v", x, e)
		}
		holds(t, x)
	}
}

func TestP3_1_OtherOps(t *testing.T) {
	for _, op := range []int{math.MinInt, -256, -1, 30, 31, 32, 127, 128, 255, 256, 280, 1 << 32, math.MaxInt} {
		holds(t, api.Ins{Op: op})
		holds(t, api.Ins{Op: op, A: 1, B: 1, Imm: 1})
		if s := Name(op); s != "" {
			t.Errorf("Name(%d) = %q", op, s)
		}
	}
}

func TestP3_1_Names(t *testing.T) {
	for _, r := range chapter {
		if s := Name(r.op); s != r.word {
			t.Errorf("Name(%d) = %q, not %q", r.op, s, r.word)
		}
	}
}

// decodes holds Decode against the word's fields, cut out one by one.
func decodes(t *testing.T, w uint32) {
	t.Helper()
	want := api.Ins{Op: int(w / (1 << 24)), A: int(w / (1 << 20) % 16), B: int(w / (1 << 16) % 16), Imm: int(w % (1 << 16))}
	if want.Imm >= 1<<15 {
		want.Imm -= 1 << 16
	}
	e := api.OK
	if !may(want) {
		want, e = api.Ins{}, api.ErrIsa
	}
	if x, got := Decode(w); x != want || got != e {
		t.Fatalf("Decode(%08x) = %v, %v, not %v, %v", w, x, got, want, e)
	}
}

func TestP3_1_DecodeOfAllHighHalves(t *testing.T) {
	for high := range uint32(1 << 16) {
		for _, low := range []uint32{0, 1, 2, 0x1234, 0x7fff, 0x8000, 0xffff} {
			decodes(t, high<<16|low)
		}
	}
}

func TestP3_1_DecodeOfAllLowHalves(t *testing.T) {
	for _, r := range chapter {
		for low := range uint32(1 << 16) {
			decodes(t, uint32(r.op)<<24|low)
		}
	}
}

func TestP3_1_DecodeOfNoInstruction(t *testing.T) {
	for _, w := range []uint32{0x18000001, 0x18010000, 0x18100000, 0x00000001, 0x00010000, 0x00100000, 0x00008000, 0x01800000, 0x01010000, 0x03180000, 0x03810000, 0x03120001, 0x13100000, 0x13010000, 0x17000001, 0x19070000, 0x19200000, 0x1b020000, 0x1d200000, 0x1d010000, 0x1e000000, 0x1f000000, 0x80000000, 0xff000000, math.MaxUint32} {
		if x, e := Decode(w); x != (api.Ins{}) || e != api.ErrIsa {
			t.Errorf("Decode(%08x) = %v, %v", w, x, e)
		}
	}
}

func TestP3_2_KnownLines(t *testing.T) {
	for _, x := range known() {
		if s, e := Line(x.x); s != x.line || e != api.OK {
			t.Errorf("Line(%v) = %q, %v, not %q", x.x, s, e, x.line)
		}
		if y, e := Read(x.line); y != x.x || e != api.OK {
			t.Errorf("Read(%q) = %v, %v, not %v", x.line, y, e, x.x)
		}
	}
}

func TestP3_2_LinesOfAll(t *testing.T) {
	for _, x := range instructions() {
		want := chapter[x.Op].line(x)
		if s, e := Line(x); s != want || e != api.OK {
			t.Errorf("Line(%v) = %q, %v, not %q", x, s, e, want)
		}
	}
}

func TestP3_2_ReadOfNoLine(t *testing.T) {
	for _, s := range []string{
		"", " ", "\n", "sys\n", "sys\r", " sys", "sys ", "sys  ", "sys 0", "nop 0", "Sys", "SYS", "sy", "syss", "s ys", "foo", "word 0", "a:", "#", "\xff", "sys\x00",
		"li", "li ", "li 1", "li 1 ", "li  1 5", "li 1  5", " li 1 5", "li 1 5 ", "li 1 5 0", "li 1 5 6 7 8 9", "li\t1 5", "li 1\t5", "li,1,5", "li 1, 5", "li r1 5",
		"li 01 5", "li 00 5", "li 1 05", "li 1 00", "li 1 -0", "li 1 -05", "li -0 5", "li +1 5", "li 1 +5", "li 1 --5", "li 1 5-", "li 1 -", "li - 5", "li 1 0x5", "li 1 5.0", "li 1 1e3", "li 1 1_000", "li 1 ٣", "li 1 /", "li 1 :",
		"li 8 5", "li -1 5", "li 15 5", "li 16 5", "li 1 32768", "li 1 -32769", "li 1 65535", "li 1 65536", "li 1 4294967295", "li 1 4294967296", "li 1 -4294967296", "li 1 18446744073709551616", "li 1 99999999999999999999999999", "li 4294967297 5",
		"mov 1", "mov 1 2 3", "mov 1 8", "mov 8 1", "jr", "jr 1 0", "jr 8", "lw 1 2", "lw 1 2 3 4", "lw 1 2 -", "zset 2 0", "zset 0 7", "zget 0 7", "zadd 2 0", "zadd 0 2", "zmul 1 1 0", "zconj 2", "zconj 0 0",
		"jmp", "jmp a", "jmp 1 2", "jz 1 a", "jnz a", "jal 1 a", "jz a 1", "jmp 32768", "jmp -32769", "jmp ",
	} {
		if x, e := Read(s); x != (api.Ins{}) || e != api.ErrIsa {
			t.Errorf("Read(%q) = %v, %v", s, x, e)
		}
	}
	for _, s := range []string{strings.Repeat(" ", 100000), "sys" + strings.Repeat(" 1", 100000), "li 1 " + strings.Repeat("9", 100000), strings.Repeat("sys\n", 100)} {
		if x, e := Read(s); x != (api.Ins{}) || e != api.ErrIsa {
			t.Errorf("Read of %d bytes = %v, %v", len(s), x, e)
		}
	}
}

// patterns are the chapter's rows as what their lines look like.
func patterns() []*regexp.Regexp {
	var l []*regexp.Regexp
	for _, r := range chapter {
		p := "^" + r.word
		for _, n := range strings.Fields(r.names) {
			p += map[string]string{"A": " ([0-9])", "B": " ([0-9])", "Imm": " (0|-?[1-9][0-9]{0,5})"}[n]
		}
		l = append(l, regexp.MustCompile(p+`\z`))
	}
	return l
}

// meant reads a line by patterns.
func meant(s string, l []*regexp.Regexp) (api.Ins, bool) {
	for i, r := range chapter {
		m := l[i].FindStringSubmatch(s)
		if m == nil {
			continue
		}
		x := api.Ins{Op: r.op}
		for i, n := range strings.Fields(r.names) {
			v, _ := strconv.Atoi(m[i+1])
			*map[string]*int{"A": &x.A, "B": &x.B, "Imm": &x.Imm}[n] = v
		}
		return x, may(x)
	}
	return api.Ins{}, false
}

// TestP3_2_LinesChanged changes each byte of lines, leaves it out, or puts one more there.
func TestP3_2_LinesChanged(t *testing.T) {
	l := patterns()
	for _, x := range known() {
		for i := range len(x.line) + 1 {
			for _, c := range []string{"", " ", "0", "1", "7", "8", "-", "+", "a", "z", "\n", "\x00"} {
				changed := []string{x.line[:i] + c + x.line[i:]}
				if i < len(x.line) {
					changed = append(changed, x.line[:i]+c+x.line[i+1:])
				}
				for _, s := range changed {
					reads(t, s, l)
				}
			}
		}
	}
}

func reads(t *testing.T, s string, l []*regexp.Regexp) {
	t.Helper()
	want, ok := meant(s, l)
	e := api.OK
	if !ok {
		want, e = api.Ins{}, api.ErrIsa
	}
	if y, got := Read(s); y != want || got != e {
		t.Errorf("Read(%q) = %v, %v, not %v, %v", s, y, got, want, e)
	}
}

func TestP3_5_BackFromWords(t *testing.T) {
	for _, x := range instructions() {
		w, e := Encode(x)
		if e != api.OK {
			t.Errorf("Encode(%v): %v", x, e)
		}
		if y, e := Decode(w); y != x || e != api.OK {
			t.Errorf("Decode of Encode of %v = %v, %v", x, y, e)
		}
	}
}

func TestP3_5_BackFromInstructions(t *testing.T) {
	count := 0
	for high := range uint32(1 << 16) {
		for _, low := range []uint32{0, 1, 0x7fff, 0x8000, 0xffff} {
			w := high<<16 | low
			x, e := Decode(w)
			if e != api.OK {
				continue
			}
			count++
			if back, e := Encode(x); back != w || e != api.OK {
				t.Errorf("Encode of Decode of %08x = %08x, %v", w, back, e)
			}
		}
	}
	// Of A and Imm 3 rows and 3 more, of A and B 11, of all 4, of Imm 1, of none 2, of A 1, of Gaussian registers 14, 14, 4, 4 and 2.
	if want := 6*8*5 + 11*64 + 4*64*5 + 5 + 2 + 8 + 14 + 14 + 4 + 4 + 2; count != want {
		t.Errorf("%d words are instructions', not %d", count, want)
	}
}

func TestP3_5_BackFromLines(t *testing.T) {
	for _, x := range instructions() {
		s, e := Line(x)
		if e != api.OK {
			t.Errorf("Line(%v): %v", x, e)
		}
		y, e := Read(s)
		if y != x || e != api.OK {
			t.Errorf("Read of Line of %v = %v, %v", x, y, e)
		}
		if back, _ := Line(y); back != s {
			t.Errorf("Line of Read of %q = %q", s, back)
		}
	}
}
