package core

import (
	"math"
	"math/rand"
	"slices"
	"testing"

	"carryall/api"
	"carryall/isa"
)

var (
	ends = []uint32{0, 1, 2147483647, 2147483648, 4294967295}
	imms = []int{-32768, -1, 0, 1, 32767}
)

// code is a word of a line.
func code(t *testing.T, line string) uint32 {
	t.Helper()
	words, _, e := isa.Assemble(line + "\n")
	if e != api.OK || len(words) != 1 {
		t.Fatalf("%q: %v", line, e)
	}
	return words[0]
}

// filled is a Cpu no register of which is like another, or nought.
func filled(pc uint32) api.Cpu {
	c := api.Cpu{Pc: pc, Z: [2]complex128{11 - 12i, -13 + 14i}}
	for i := range c.R {
		c.R[i] = 0x89abcd00 + uint32(i)*0x01010101
	}
	return c
}

// numbers has r1 and r2 for A and B.
func numbers(a, b uint32) api.Cpu {
	c := filled(400)
	c.R[1], c.R[2] = a, b
	return c
}

// becomes does a line at 400, held against what is meant, and against the Cpu that is told.
func becomes(t *testing.T, line string, c, want api.Cpu) {
	t.Helper()
	c.Pc = 400
	got, trap := stepsAsMeant(t, c, newPlain().with(400, code(t, line)))
	if !same(got, want) || trap != 0 {
		t.Errorf("%s of %v: %v, %d, not %v", line, c, got, trap, want)
	}
}

// gives does a line that is to turn r1 alone.
func gives(t *testing.T, line string, a, b, want uint32) {
	t.Helper()
	after := numbers(want, b)
	after.Pc = 404
	becomes(t, line, numbers(a, b), after)
}

func TestP7_2_Examples(t *testing.T) {
	words, _, _ := isa.Assemble("li 1 5\nadd 1 1\nsys\n")
	c, n, trap := Run(api.Cpu{}, &Ram{isa.Bytes(words)}, 100)
	if c != (api.Cpu{R: [8]uint32{1: 10}, Pc: 8}) || n != 2 || trap != api.TrapSys {
		t.Errorf("Run: %v, %d, %d", c, n, trap)
	}
	if c, trap := Step(api.Cpu{}, &Ram{[]byte{255, 255, 255, 255}}); c != (api.Cpu{}) || trap != api.TrapIllegal {
		t.Errorf("Step: %v, %d", c, trap)
	}
	if c, trap := Step(api.Cpu{}, &Ram{isa.Bytes([]uint32{code(t, "lw 1 2 1"), 0, 0})}); c != (api.Cpu{}) || trap != api.TrapFault {
		t.Errorf("Step: %v, %d", c, trap)
	}
	words, _, _ = isa.Assemble("zset 0 1\nzmul 0 0\nzget 0 4\nsys\n")
	c, n, trap = Run(api.Cpu{R: [8]uint32{1: 2, 2: 3}}, &Ram{isa.Bytes(words)}, 100)
	if c != (api.Cpu{R: [8]uint32{1: 2, 2: 3, 4: 4294967291, 5: 12}, Z: [2]complex128{-5 + 12i}, Pc: 12}) || n != 3 || trap != api.TrapSys {
		t.Errorf("Run: %v, %d, %d", c, n, trap)
	}
}

// TestP7_2_EachInstruction goes through all registers and the numbers at both ends, with memory at, around and between the addresses that they make.
func TestP7_2_EachInstruction(t *testing.T) {
	m := newPlain().with(0, 0x04030201).with(32764, 0xf4f3f2f1).with(0x7fff8000, 1, 2).with(0x7ffffffc, 0x44332211, 0x88776655)
	m.with(0x80007ffc, 9).with(0xffff7ffc, 7, 8).with(0xfffffffc, 0xccbbaa99).fix(0xffff8000, 4).fix(32767, 1)
	for op, n := range table {
		is := []int{0}
		if n.imm {
			is = imms
		}
		for a := range n.a + 1 {
			for b := range n.b + 1 {
				for _, imm := range is {
					withEnds(t, m.with(1024, word(op, a, b, imm)), a, b)
				}
			}
		}
	}
}

func withEnds(t *testing.T, m *plain, a, b int) {
	t.Helper()
	for _, x := range ends {
		for _, y := range ends {
			c := filled(1024)
			c.R[a], c.R[b] = x, y
			stepsAsMeant(t, c, m)
		}
	}
}

func TestP7_2_AnyWords(t *testing.T) {
	r := rand.New(rand.NewSource(7))
	m := newPlain()
	for range 40000 {
		c := filled(4 * uint32(r.Intn(8)))
		for i := range c.R {
			c.R[i] = ends[r.Intn(5)] + uint32(r.Intn(40)) - uint32(r.Intn(9))
			if r.Intn(4) == 0 {
				c.R[i] = r.Uint32()
			}
		}
		c.Z[0] = complex(float64(r.Intn(1<<20)-1<<19), float64(r.Intn(1<<20)-1<<19))
		w := word(r.Intn(32), r.Intn(9), r.Intn(9), r.Intn(70)-20)
		if op := w >> 24; op < 30 && !table[op].imm && r.Intn(10) > 0 {
			w &= 0xffff0000
		}
		m.with(4*uint32(r.Intn(8)), r.Uint32())
		stepsAsMeant(t, c, m.with(c.Pc, w))
	}
}

func TestP7_2_Nop(t *testing.T) {
	after := filled(404)
	becomes(t, "nop", filled(400), after)
}

func TestP7_2_LiLuiAddi(t *testing.T) {
	for imm, want := range map[string][3]uint32{
		"-32768": {0xffff8000, 0x80005678, 0x1233d678},
		"-1":     {0xffffffff, 0xffff5678, 0x12345677},
		"0":      {0, 0x00005678, 0x12345678},
		"1":      {1, 0x00015678, 0x12345679},
		"32767":  {0x7fff, 0x7fff5678, 0x1234d677},
	} {
		gives(t, "li 1 "+imm, 0x12345678, 5, want[0])
		gives(t, "lui 1 "+imm, 0x12345678, 5, want[1])
		gives(t, "addi 1 "+imm, 0x12345678, 5, want[2])
	}
	gives(t, "addi 1 1", math.MaxUint32, 5, 0)
	gives(t, "addi 1 -1", 0, 5, math.MaxUint32)
	gives(t, "addi 1 32767", math.MaxInt32, 5, 0x80007ffe)
	gives(t, "addi 1 -32768", 1<<31, 5, 0x7fff8000)
	gives(t, "lui 1 -1", 0, 5, 0xffff0000)
	gives(t, "lui 1 0", math.MaxUint32, 5, 0xffff)
}

func TestP7_2_TwoRegisters(t *testing.T) {
	for _, x := range []struct {
		word       string
		a, b, want uint32
	}{
		{"mov", 3, 4, 4}, {"mov", 0, math.MaxUint32, math.MaxUint32},
		{"add", 3, 4, 7}, {"add", math.MaxUint32, 1, 0}, {"add", math.MaxUint32, math.MaxUint32, math.MaxUint32 - 1}, {"add", math.MaxInt32, 1, 1 << 31}, {"add", 1 << 31, 1 << 31, 0},
		{"sub", 4, 3, 1}, {"sub", 3, 4, math.MaxUint32}, {"sub", 0, 1 << 31, 1 << 31}, {"sub", 1 << 31, 1, math.MaxInt32}, {"sub", 0, math.MaxUint32, 1},
		{"mul", 3, 4, 12}, {"mul", math.MaxUint32, math.MaxUint32, 1}, {"mul", 65536, 65536, 0}, {"mul", 65537, 65537, 131073}, {"mul", 1 << 31, math.MaxUint32, 1 << 31}, {"mul", math.MaxInt32, 2, math.MaxUint32 - 1},
		{"and", 0xff00f0f0, 0x0ff0ff00, 0x0f00f000}, {"or", 0xff00f0f0, 0x0ff0ff00, 0xfff0fff0}, {"xor", 0xff00f0f0, 0x0ff0ff00, 0xf0f00ff0},
		{"and", math.MaxUint32, 1 << 31, 1 << 31}, {"or", math.MaxInt32, 1 << 31, math.MaxUint32}, {"xor", math.MaxUint32, 1, math.MaxUint32 - 1},
	} {
		gives(t, x.word+" 1 2", x.a, x.b, x.want)
	}
	for line, want := range map[string]uint32{"mov 1 1": 0x90000003, "add 1 1": 0x20000006, "sub 1 1": 0, "mul 1 1": 0x60000009, "and 1 1": 0x90000003, "or 1 1": 0x90000003, "xor 1 1": 0, "shl 1 1": 0x80000018, "shr 1 1": 0x12000000, "slt 1 1": 0, "seq 1 1": 1} {
		gives(t, line, 0x90000003, 9, want)
	}
}

func TestP7_2_Shifts(t *testing.T) {
	for by, want := range map[uint32][2]uint32{
		0: {0x81234567, 0x81234567}, 1: {0x02468ace, 0x4091a2b3}, 4: {0x12345670, 0x08123456}, 31: {1 << 31, 1},
		32: {0x81234567, 0x81234567}, 33: {0x02468ace, 0x4091a2b3}, 63: {1 << 31, 1}, 64: {0x81234567, 0x81234567},
		1 << 31: {0x81234567, 0x81234567}, 1<<31 + 4: {0x12345670, 0x08123456}, math.MaxUint32: {1 << 31, 1},
	} {
		gives(t, "shl 1 2", 0x81234567, by, want[0])
		gives(t, "shr 1 2", 0x81234567, by, want[1])
	}
}

func TestP7_2_Compare(t *testing.T) {
	rising := []uint32{1 << 31, 1<<31 + 1, math.MaxUint32 - 1, math.MaxUint32, 0, 1, 2, math.MaxInt32 - 1, math.MaxInt32}
	for i, x := range rising {
		for k, y := range rising {
			gives(t, "slt 1 2", x, y, count(i < k))
			gives(t, "seq 1 2", x, y, count(i == k))
		}
	}
}

func TestP7_2_Jumps(t *testing.T) {
	for imm, pc := range map[string]uint32{"-32768": 0xfffe0194, "-102": 0xfffffffc, "-101": 0, "-2": 396, "-1": 400, "0": 404, "1": 408, "2": 412, "32767": 131472} {
		for _, a := range ends {
			to, on := numbers(a, 5), numbers(a, 5)
			to.Pc, on.Pc = pc, 404
			becomes(t, "jmp "+imm, numbers(a, 5), to)
			if a == 0 {
				becomes(t, "jz 1 "+imm, numbers(a, 5), to)
				becomes(t, "jnz 1 "+imm, numbers(a, 5), on)
			} else {
				becomes(t, "jz 1 "+imm, numbers(a, 5), on)
				becomes(t, "jnz 1 "+imm, numbers(a, 5), to)
			}
			to.R[1] = 404
			becomes(t, "jal 1 "+imm, numbers(a, 5), to)
		}
	}
}

// TestP7_2_JumpsAround: an address behind the last one is one of the first, and the other way about.
func TestP7_2_JumpsAround(t *testing.T) {
	for _, x := range []struct {
		line     string
		pc, want uint32
	}{
		{"jmp 0", 4294967292, 0}, {"jmp 1", 4294967292, 4}, {"jmp -1", 4294967292, 4294967292}, {"jmp -1", 0, 0}, {"jmp -2", 0, 4294967292}, {"jmp -32768", 0, 4294836228}, {"jmp 32767", 4294967288, 131064},
		{"nop", 4294967292, 0}, {"li 0 1", 4294967292, 0}, {"zconj 0", 4294967292, 0},
	} {
		if c, trap := stepsAsMeant(t, filled(x.pc), newPlain().with(x.pc, code(t, x.line))); c.Pc != x.want || trap != 0 {
			t.Errorf("%s at %d goes to %d, %d, not %d", x.line, x.pc, c.Pc, trap, x.want)
		}
	}
	c, trap := stepsAsMeant(t, filled(4294967292), newPlain().with(4294967292, code(t, "jal 6 -1")))
	if c.Pc != 4294967292 || c.R[6] != 0 || trap != 0 {
		t.Errorf("jal: %v, %d", c, trap)
	}
}

func TestP7_2_ThereAndBack(t *testing.T) {
	m := newPlain().with(0, code(t, "jal 7 2"), code(t, "li 1 1"), code(t, "sys"), code(t, "addi 2 1"), code(t, "jr 7"))
	c, n, trap := Run(api.Cpu{}, m, 100)
	if c != (api.Cpu{R: [8]uint32{1: 1, 2: 1, 7: 4}, Pc: 8}) || n != 4 || trap != api.TrapSys {
		t.Errorf("Run: %v, %d, %d", c, n, trap)
	}
}

func TestP7_2_Jr(t *testing.T) {
	for _, to := range append(slices.Clone(ends), 2, 3, 396, 400, 401, 402, 403, 404, 4294967292, 4294967294) {
		after := numbers(to, 5)
		after.Pc = to
		becomes(t, "jr 1", numbers(to, 5), after)
	}
	for _, to := range []uint32{5, 6, 7} {
		m := newPlain().with(0, code(t, "jr 1"), 0, 0, 0)
		c, n, trap := Run(api.Cpu{R: [8]uint32{1: to}}, m, 9)
		if c != (api.Cpu{R: [8]uint32{1: to}, Pc: to}) || n != 1 || trap != api.TrapFault {
			t.Errorf("jr to %d: %v, %d, %d", to, c, n, trap)
		}
	}
}

func TestP7_2_Sys(t *testing.T) {
	for _, pc := range []uint32{0, 400, 4294967292} {
		c, trap := stepsAsMeant(t, filled(pc), newPlain().with(pc, code(t, "sys")))
		if !same(c, filled(pc)) || trap != api.TrapSys {
			t.Errorf("sys: %v, %d", c, trap)
		}
	}
}

func faults(t *testing.T, c api.Cpu, m *plain, want int) {
	t.Helper()
	if got, trap := stepsAsMeant(t, c, m); !same(got, c) || trap != want {
		t.Errorf("Step of %v: %v, %d, not %d", c, got, trap, want)
	}
}

func TestP7_2_WherePcMayBe(t *testing.T) {
	m := newPlain().with(0, code(t, "li 1 1"), code(t, "li 1 2"), code(t, "li 1 3"))
	for pc := range uint32(12) {
		if pc%4 == 0 {
			c, trap := stepsAsMeant(t, filled(pc), m)
			if c.R[1] != 1+pc/4 || c.Pc != pc+4 || trap != 0 {
				t.Errorf("at %d: %v, %d", pc, c, trap)
			}
			continue
		}
		faults(t, filled(pc), m, api.TrapFault)
	}
	for _, pc := range []uint32{12, 13, 14, 15, 16, 1 << 31, 4294967288, 4294967292, 4294967293, 4294967294, 4294967295} {
		faults(t, filled(pc), m, api.TrapFault)
	}
	// A Ram whose end is in the midst of a word has no last word.
	for n := range 9 {
		c, steps, trap := Run(api.Cpu{}, &Ram{make([]byte, n)}, 9)
		if c != (api.Cpu{Pc: uint32(n / 4 * 4)}) || steps != n/4 || trap != api.TrapFault {
			t.Errorf("of %d bytes: %v, %d, %d", n, c, steps, trap)
		}
	}
}

func TestP7_2_NoInstructions(t *testing.T) {
	l := []uint32{1, 0x8000, 0xffff, 0x00100000, 0x00010000, 0x01010000, 0x02870000, 0x03800000, 0x03080000, 0x03120001, 0x04128000, 0x0c110000, 0x0e120001, 0x0f820000, 0x0f280000, 0x13010000, 0x13100000, 0x14110000, 0x17010000, 0x17100001, 0x18000001, 0x18010000, 0x18100000, 0x19200000, 0x19070000, 0x19000001, 0x1a200000, 0x1a070000, 0x1b200000, 0x1b020000, 0x1c020000, 0x1c200000, 0x1d200000, 0x1d010000, 0x1d000001, 0x1e000000, 0x1f000000, 0x7f000000, 0x80000000, 0xfffffffe, 0xffffffff}
	for _, w := range l {
		faults(t, filled(400), newPlain().with(400, w), api.TrapIllegal)
	}
	for high := range uint32(1 << 14) {
		w := high << 18
		c, m := filled(400), newPlain().with(400, w)
		_, trap := stepsAsMeant(t, c, m)
		if _, e := isa.Decode(w); (trap == api.TrapIllegal) != (e != api.OK) {
			t.Errorf("%08x: %d", w, trap)
		}
	}
}

func TestP7_2_Loads(t *testing.T) {
	m := newPlain().with(0, 0x84838281).with(400, 0).with(4092, 0xfcfbfaf9).with(4294967292, 0xccbbaa99)
	for _, x := range []struct {
		line    string
		b, want uint32
	}{
		{"lw 1 2 0", 0, 0x84838281}, {"lw 1 2 4", 4294967292, 0x84838281}, {"lw 1 2 -4", 4, 0x84838281}, {"lw 1 2 -1", 1, 0x84838281}, {"lw 1 2 1", 4294967295, 0x84838281},
		{"lw 1 2 0", 4092, 0xfcfbfaf9}, {"lw 1 2 -8", 4100, 0xfcfbfaf9}, {"lw 1 2 4092", 0, 0xfcfbfaf9}, {"lw 1 2 32767", 4294938621, 0xfcfbfaf9},
		{"lw 1 2 -4", 0, 0xccbbaa99}, {"lw 1 2 0", 4294967292, 0xccbbaa99}, {"lw 1 2 -32768", 32764, 0xccbbaa99},
		{"lb 1 2 0", 0, 0x81}, {"lb 1 2 3", 0, 0x84}, {"lb 1 2 2", 4294967295, 0x82}, {"lb 1 2 0", 4095, 0xfc}, {"lb 1 2 -1", 0, 0xcc}, {"lb 1 2 -4", 0, 0x99}, {"lb 1 2 -32768", 32768, 0x81},
	} {
		c := numbers(7, x.b)
		after := numbers(x.want, x.b)
		after.Pc = 404
		if got, trap := stepsAsMeant(t, c, m.with(400, code(t, x.line))); !same(got, after) || trap != 0 {
			t.Errorf("%s at %d: %v, %d, not %08x", x.line, x.b, got, trap, x.want)
		}
	}
	for line, b := range map[string]uint32{"lw 1 2 0": 4, "lw 1 2 1": 4095, "lw 1 2 4": 4092, "lb 1 2 0": 4, "lb 1 2 1": 4095, "lb 1 2 -1": 4092, "lb 1 2 -5": 0, "lw 1 2 -8": 0, "lw 1 2 32767": 1} {
		faults(t, numbers(7, b), m.with(400, code(t, line)), api.TrapFault)
	}
}

func TestP7_2_WordsThatAreNowhere(t *testing.T) {
	m := newPlain().with(0, 1, 2, 3, 4).with(4294967280, 1, 2, 3, 4)
	for at := range uint32(16) {
		for _, op := range []string{"lw", "sw"} {
			for _, base := range []uint32{0, 4294967280} {
				m.with(400, code(t, op+" 1 2 0"))
				if at%4 != 0 {
					faults(t, numbers(7, base+at), m, api.TrapFault)
					continue
				}
				if _, trap := stepsAsMeant(t, numbers(7, base+at), m); trap != 0 {
					t.Errorf("%s at %d: %d", op, base+at, trap)
				}
			}
		}
	}
}

// TestP7_2_UnevenRam: a Ram has words anywhere, instructions have not.
func TestP7_2_UnevenRam(t *testing.T) {
	for _, line := range []string{"lw 1 2 1", "sw 1 2 2", "lw 1 2 3"} {
		m := &Ram{append(isa.Bytes([]uint32{code(t, line)}), numbered(16)...)}
		was := slices.Clone(m.Bytes)
		c := api.Cpu{R: [8]uint32{1: 9, 2: 8}}
		if got, trap := Step(c, m); got != c || trap != api.TrapFault || !slices.Equal(m.Bytes, was) {
			t.Errorf("%s: %v, %d, %v", line, got, trap, m.Bytes)
		}
	}
}

// stored does a line that writes, from r1 and r2, and tells the memory then.
func stored(t *testing.T, m *Ram, line string, a, b uint32) int {
	t.Helper()
	copy(m.Bytes[8:], isa.Bytes([]uint32{code(t, line)}))
	c := api.Cpu{R: [8]uint32{1: a, 2: b}, Pc: 8}
	after, trap := Step(c, m)
	if trap == 0 {
		c.Pc = 12
	}
	if after != c {
		t.Errorf("%s: %v, not %v", line, after, c)
	}
	return trap
}

func TestP7_2_Stores(t *testing.T) {
	for _, x := range []struct {
		line string
		b    uint32
		at   int
		want []byte
	}{
		{"sw 1 2 0", 0, 0, []byte{0xd1, 0xc2, 0xb3, 0xa4}}, {"sw 1 2 4", 4294967292, 0, []byte{0xd1, 0xc2, 0xb3, 0xa4}}, {"sw 1 2 -16", 32, 16, []byte{0xd1, 0xc2, 0xb3, 0xa4}},
		{"sw 1 2 0", 20, 20, []byte{0xd1, 0xc2, 0xb3, 0xa4}}, {"sw 1 2 32767", 4294934549, 20, []byte{0xd1, 0xc2, 0xb3, 0xa4}},
		{"sb 1 2 0", 0, 0, []byte{0xd1}}, {"sb 1 2 1", 4294967295, 0, []byte{0xd1}}, {"sb 1 2 0", 23, 23, []byte{0xd1}}, {"sb 1 2 -32768", 32787, 19, []byte{0xd1}}, {"sb 1 2 6", 0, 6, []byte{0xd1}},
	} {
		m, want := &Ram{numbered(24)}, numbered(24)
		trap := stored(t, m, x.line, 0xa4b3c2d1, x.b)
		copy(want[8:], isa.Bytes([]uint32{code(t, x.line)}))
		copy(want[x.at:], x.want)
		if trap != 0 || !slices.Equal(m.Bytes, want) {
			t.Errorf("%s at %d: %d, %v, not %v", x.line, x.b, trap, m.Bytes, want)
		}
	}
	for line, b := range map[string]uint32{"sw 1 2 0": 24, "sw 1 2 4": 20, "sw 1 2 -4": 0, "sw 1 2 1": 20, "sw 1 2 2": 0, "sb 1 2 0": 24, "sb 1 2 1": 23, "sb 1 2 -1": 0, "sb 1 2 -2": 1} {
		m, want := &Ram{numbered(24)}, numbered(24)
		trap := stored(t, m, line, 0xa4b3c2d1, b)
		copy(want[8:], isa.Bytes([]uint32{code(t, line)}))
		if trap != api.TrapFault || !slices.Equal(m.Bytes, want) {
			t.Errorf("%s at %d: %d, %v, not %v", line, b, trap, m.Bytes, want)
		}
	}
}

func TestP7_2_WhatMayOnlyBeRead(t *testing.T) {
	m := newPlain().with(0, 1, 2, 3).fix(4, 4)
	for line, at := range map[string]uint32{"sw 1 2 0": 4, "sb 1 2 0": 4, "sb 1 2 3": 4} {
		faults(t, numbers(7, at), m.with(400, code(t, line)), api.TrapFault)
	}
	for line, want := range map[string]uint32{"lw 1 2 0": 2, "lb 1 2 0": 2, "lb 1 2 3": 0} {
		if c, trap := stepsAsMeant(t, numbers(7, 4), m.with(400, code(t, line))); c.R[1] != want || trap != 0 {
			t.Errorf("%s: %v, %d", line, c, trap)
		}
	}
}

// TestP7_2_StoresIntoPrograms: what is at Pc has been read when it is written; what is behind it is read as it was written.
func TestP7_2_StoresIntoPrograms(t *testing.T) {
	li := code(t, "li 3 77")
	c := api.Cpu{R: [8]uint32{1: li}}
	m := newPlain().with(0, code(t, "sw 1 2 0"), code(t, "jmp -2"), code(t, "sys"))
	got, n, trap := Run(c, m, 3)
	if w, _ := m.get(0, 4); got != (api.Cpu{R: [8]uint32{1: li, 3: 77}, Pc: 4}) || n != 3 || trap != 0 || w != li {
		t.Errorf("Run: %v, %d, %d, %08x", got, n, trap, w)
	}
	m = newPlain().with(0, code(t, "sw 1 2 4"), code(t, "sys"), code(t, "sys"))
	got, n, trap = Run(c, m, 9)
	if w, _ := m.get(4, 4); got != (api.Cpu{R: [8]uint32{1: li, 3: 77}, Pc: 8}) || n != 2 || trap != api.TrapSys || w != li {
		t.Errorf("Run: %v, %d, %d, %08x", got, n, trap, w)
	}
	m = newPlain().with(0, code(t, "sb 1 2 7"), 0, code(t, "sys"))
	got, n, trap = Run(api.Cpu{R: [8]uint32{1: 0xff}}, m, 9)
	if got.Pc != 4 || n != 1 || trap != api.TrapIllegal {
		t.Errorf("Run: %v, %d, %d", got, n, trap)
	}
}
