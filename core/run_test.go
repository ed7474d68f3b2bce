package core

import (
	"maps"
	"math"
	"math/rand"
	"slices"
	"testing"

	"carryall/api"
	"carryall/frames"
	"carryall/isa"
	"carryall/space"
)

func program(t *testing.T, s string) *plain {
	t.Helper()
	words, line, e := isa.Assemble(s)
	if e != api.OK {
		t.Fatalf("line %d: %v", line, e)
	}
	return newPlain().with(0, words...)
}

func runs(t *testing.T, c api.Cpu, m Memory, most int, want api.Cpu, steps, trap int) {
	t.Helper()
	got, n, x := Run(c, m, most)
	if !same(got, want) || n != steps || x != trap {
		t.Errorf("Run of %d: %v, %d, %d, not %v, %d, %d", most, got, n, x, want, steps, trap)
	}
}

func TestP7_2_RunOfMost(t *testing.T) {
	for s, trap := range map[string]int{"li 1 5\naddi 1 1\naddi 1 2\nsys\n": api.TrapSys, "li 1 5\naddi 1 1\naddi 1 2\nlw 3 1 1\n": api.TrapFault, "li 1 5\naddi 1 1\naddi 1 2\nword 1\n": api.TrapIllegal, "li 1 5\naddi 1 1\naddi 1 2\n": api.TrapFault} {
		r1 := []uint32{0, 5, 6, 8}
		for _, most := range []int{math.MinInt, -2, -1, 0, 1, 2, 3, 4, 5, 100, math.MaxInt} {
			n, x := min(max(most, 0), 3), 0
			if most > 3 {
				x = trap
			}
			want := api.Cpu{R: [8]uint32{1: r1[n]}, Pc: 4 * uint32(n)}
			runs(t, api.Cpu{}, program(t, s), most, want, n, x)
		}
	}
}

func TestP7_2_RunAtATrap(t *testing.T) {
	for _, most := range []int{-1, 0, 1, 2} {
		trap := func(n int) int {
			if most > 0 {
				return n
			}
			return 0
		}
		runs(t, filled(0), program(t, "sys\n"), most, filled(0), 0, trap(api.TrapSys))
		runs(t, filled(0), program(t, "word 1\n"), most, filled(0), 0, trap(api.TrapIllegal))
		runs(t, filled(2), program(t, "nop\n"), most, filled(2), 0, trap(api.TrapFault))
		runs(t, filled(4), program(t, "nop\n"), most, filled(4), 0, trap(api.TrapFault))
		runs(t, filled(0), nil, most, filled(0), 0, trap(api.TrapFault))
	}
}

// TestP7_2_RunAsksNoMore: no step is begun beyond the most, or behind a trap.
func TestP7_2_RunAsksNoMore(t *testing.T) {
	for most := range 7 {
		m := program(t, "nop\nnop\nnop\nsys\nnop\n")
		Run(api.Cpu{}, m, most)
		var want []ask
		for i := range min(most, 4) {
			want = append(want, ask{"Word", uint32(4 * i), 0})
		}
		if !slices.Equal(m.asked, want) {
			t.Errorf("Run of %d asked for %v, not %v", most, m.asked, want)
		}
	}
}

func TestP7_2_RunOfLoops(t *testing.T) {
	m := program(t, "li 1 1000\na:\nadd 2 1\naddi 1 -1\njnz 1 a\nsys\n")
	runs(t, api.Cpu{}, m, 100000, api.Cpu{R: [8]uint32{2: 500500}, Pc: 16}, 3001, api.TrapSys)
	runs(t, api.Cpu{}, m, 3001, api.Cpu{R: [8]uint32{2: 500500}, Pc: 16}, 3001, api.TrapNone)
	runs(t, api.Cpu{}, m, 3000, api.Cpu{R: [8]uint32{2: 500500}, Pc: 12}, 3000, api.TrapNone)
	runs(t, filled(0), program(t, "jmp -1\n"), 5000, filled(0), 5000, api.TrapNone)
}

// TestP7_2_RunsAreSteps holds Run of any programs against as many steps as are meant.
func TestP7_2_RunsAreSteps(t *testing.T) {
	r := rand.New(rand.NewSource(77))
	for range 2000 {
		m := newPlain()
		for i := range uint32(12) {
			op := r.Intn(30)
			n := table[op]
			w := word(op, r.Intn(n.a+1), r.Intn(n.b+1), 0)
			if n.imm {
				w |= uint32(r.Intn(40)-16) & 0xffff
			}
			m.with(4*i, w)
		}
		c := api.Cpu{R: [8]uint32{0, 4, 8, 12, 40, 3, 0, 1}}
		most := r.Intn(40)
		want, other, n, trap := c, m.copy(), 0, 0
		for n < most {
			want, trap = meant(want, other)
			if trap != 0 {
				break
			}
			n++
		}
		runs(t, c, m, most, want, n, trap)
		if !maps.Equal(m.bytes, other.bytes) || !slices.Equal(m.asked, other.asked) {
			t.Fatalf("memory is %v, not %v", m.bytes, other.bytes)
		}
	}
}

func TestP7_2_NoMemory(t *testing.T) {
	var none *Ram
	var s *space.Space
	for _, m := range []Memory{nil, none, &Ram{}, s, &space.Space{}} {
		for _, pc := range []uint32{0, 1, 4, 4294967292} {
			if c, trap := Step(filled(pc), m); !same(c, filled(pc)) || trap != api.TrapFault {
				t.Errorf("Step: %v, %d", c, trap)
			}
			runs(t, filled(pc), m, 3, filled(pc), 0, api.TrapFault)
			if a, n, w := Touches(filled(pc), m); a != 0 || n != 0 || w {
				t.Errorf("Touches: %d, %d, %t", a, n, w)
			}
		}
	}
}

func TestP7_2_MemoryThatPanics(t *testing.T) {
	for line, long := range map[string]int{"lw 1 2 0": 4, "sw 1 2 0": 4, "lb 1 2 0": 1, "sb 1 2 0": 1} {
		m := newPlain().with(0, code(t, line))
		nobody := struct{ Memory }{}
		c := filled(0)
		c.R[2] = 16
		for _, x := range []Memory{nobody, (*onlyWords)(nil), onlyWords{m}} {
			if got, trap := Step(c, x); !same(got, c) || trap != api.TrapFault {
				t.Errorf("Step: %v, %d", got, trap)
			}
			runs(t, c, x, 5, c, 0, api.TrapFault)
		}
		if a, n, w := Touches(c, nobody); a != 0 || n != 0 || w {
			t.Errorf("Touches: %d, %d, %t", a, n, w)
		}
		if a, n, w := Touches(c, onlyWords{m}); a != 16 || n != long || w != (line[0] == 's') {
			t.Errorf("Touches: %d, %d, %t", a, n, w)
		}
	}
}

// onlyWords is one that panics for all but its first word.
type onlyWords struct{ m *plain }

func (o onlyWords) Word(a uint32) (uint32, bool) {
	if a > 0 {
		panic("no word")
	}
	return o.m.Word(a)
}

func (o onlyWords) Byte(uint32) (byte, bool) { panic("no byte") }

func (o onlyWords) SetWord(a, v uint32) bool { panic("no word") }

func (o onlyWords) SetByte(uint32, byte) bool { panic("no byte") }

// TestP7_2_Space: a space is a memory, too.
func TestP7_2_Space(t *testing.T) {
	f, _ := frames.New(3)
	s := space.New(f)
	words, _, _ := isa.Assemble("li 1 70\nli 3 -2\nsw 3 1 2\nlb 4 1 5\nsw 3 0 0\n")
	if s.Map(0, 2, true, false) != 0 || s.Write(0, isa.Bytes(words)) != 0 || s.Map(3, 1, false, false) != 0 {
		t.Fatal(f.Free())
	}
	c := api.Cpu{R: [8]uint32{0: 192}}
	want := api.Cpu{R: [8]uint32{0: 192, 1: 70, 3: 4294967294, 4: 255}, Pc: 16}
	runs(t, c, s, 9, want, 4, api.TrapFault)
	if w, ok := s.Word(72); w != 4294967294 || !ok {
		t.Errorf("Word(72) = %d, %t", w, ok)
	}
}

func TestP7_3_Touches(t *testing.T) {
	for _, x := range []struct {
		line  string
		b     uint32
		addr  uint32
		long  int
		write bool
	}{
		{"lw 1 2 0", 8, 8, 4, false}, {"lw 1 2 -4", 8, 4, 4, false}, {"lw 1 2 4", 4294967292, 0, 4, false}, {"lw 1 2 -32768", 0, 4294934528, 4, false},
		{"lb 1 2 0", 9, 9, 1, false}, {"lb 1 2 -1", 0, 4294967295, 1, false}, {"lb 1 2 32767", 4294967295, 32766, 1, false},
		{"sw 1 2 12", 8, 20, 4, true}, {"sw 1 2 1", 4294967295, 0, 4, true}, {"sb 1 2 5", 1 << 31, 1<<31 + 5, 1, true}, {"sb 1 2 -1", 1 << 31, 1<<31 - 1, 1, true},
		// Where a step is a fault, the instruction is one of the four even so.
		{"lw 1 2 1", 8, 9, 4, false}, {"sw 1 2 3", 0, 3, 4, true}, {"lw 1 2 0", 999996, 999996, 4, false}, {"sb 1 2 0", 999999, 999999, 1, true},
		{"lw 2 2 4", 8, 12, 4, false}, {"sw 2 2 4", 8, 12, 4, true},
	} {
		c := filled(400)
		c.R[2] = x.b
		m := newPlain().with(400, code(t, x.line))
		touches(t, c, m)
		if a, n, w := Touches(c, m); a != x.addr || n != x.long || w != x.write {
			t.Errorf("Touches of %s: %d, %d, %t", x.line, a, n, w)
		}
	}
}

func nothingTouched(t *testing.T, c api.Cpu, m *plain) {
	t.Helper()
	touches(t, c, m)
	if a, n, w := Touches(c, m); a != 0 || n != 0 || w {
		t.Errorf("Touches of %v: %d, %d, %t", c, a, n, w)
	}
}

func TestP7_3_NothingTouched(t *testing.T) {
	for op, n := range table {
		if op >= 15 && op <= 18 {
			continue
		}
		for a := range n.a + 1 {
			for b := range n.b + 1 {
				nothingTouched(t, filled(400), newPlain().with(400, word(op, a, b, 0)))
				if n.imm {
					nothingTouched(t, filled(400), newPlain().with(400, word(op, a, b, -1)))
				}
			}
		}
	}
	for _, w := range []uint32{1, 0x0f820000, 0x0f280000, 0x10890000, 0x11080000, 0x12f00000, 0x1e000000, 0x8f120000, 0xffffffff} {
		nothingTouched(t, filled(400), newPlain().with(400, w))
	}
	lw := code(t, "lw 1 2 0")
	for _, pc := range []uint32{1, 2, 3, 8, 4294967292, 4294967295} {
		nothingTouched(t, filled(pc), newPlain().with(0, lw, lw))
	}
	if a, n, w := Touches(filled(0), nil); a != 0 || n != 0 || w {
		t.Errorf("Touches: %d, %d, %t", a, n, w)
	}
}

// TestP7_4_OtherPlaces holds all that Step asks for against Pc's word and what Touches tells.
func TestP7_4_OtherPlaces(t *testing.T) {
	r := rand.New(rand.NewSource(74))
	for range 20000 {
		m := newPlain().with(0, r.Uint32(), r.Uint32(), r.Uint32()).with(4294967288, r.Uint32(), r.Uint32())
		c := filled(4 * uint32(r.Intn(3)))
		c.R[r.Intn(8)], c.R[r.Intn(8)] = uint32(r.Intn(12)), -uint32(r.Intn(12))
		op := r.Intn(30)
		if r.Intn(2) == 0 {
			op = 15 + r.Intn(4)
		}
		m.with(c.Pc, word(op, r.Intn(table[op].a+1), r.Intn(table[op].b+1), 0))
		addr, long, write := Touches(c, m.copy())
		was := m.copy()
		after, trap := Step(c, m)
		for i, x := range m.asked {
			one := map[bool]map[int]string{false: {1: "Byte", 4: "Word"}, true: {1: "SetByte", 4: "SetWord"}}[write][long]
			if i == 0 && (x.what != "Word" || x.a != c.Pc) || i == 1 && (x.what != one || x.a != addr) || i > 1 {
				t.Fatalf("%v asked for %v, with %d, %d, %t touched", c, m.asked, addr, long, write)
			}
		}
		for a, b := range m.bytes {
			if was.bytes[a] != b && (!write || a-addr >= uint32(long)) {
				t.Fatalf("%v wrote at %d", c, a)
			}
		}
		if trap != 0 && (!same(after, c) || !maps.Equal(m.bytes, was.bytes)) {
			t.Fatalf("%v with trap %d: %v", c, trap, after)
		}
		again, trapAgain := Step(c, was)
		if !same(again, after) || trapAgain != trap || !maps.Equal(was.bytes, m.bytes) {
			t.Fatalf("%v, again: %v, %d, not %v, %d", c, again, trapAgain, after, trap)
		}
	}
}

// TestP7_4_NothingIsKept: a step hangs on what it is given, not on steps ahead of it.
func TestP7_4_NothingIsKept(t *testing.T) {
	m := program(t, "lw 1 0 8\nsw 1 0 12\nword 5\nword 6\n")
	for range 3 {
		other := m.copy()
		runs(t, api.Cpu{}, other, 2, api.Cpu{R: [8]uint32{1: 5}, Pc: 8}, 2, 0)
		runs(t, api.Cpu{}, m, 1, api.Cpu{R: [8]uint32{1: 5}, Pc: 4}, 1, 0)
	}
}
