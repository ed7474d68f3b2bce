package core

import (
	"maps"
	"slices"
	"testing"

	"carryall/api"
)

// ask is what a memory was asked for. Of what is only read v is 0.
type ask struct {
	what string
	a, v uint32
}

// plain is a memory that has some bytes, wherever they are, of which some may only be read. It takes note of what it is asked for, and it has no word anywhere but at multiples of 4.
type plain struct {
	bytes map[uint32]byte
	fixed map[uint32]bool
	asked []ask
}

func newPlain() *plain {
	return &plain{bytes: map[uint32]byte{}, fixed: map[uint32]bool{}}
}

// with are words, from an address on.
func (p *plain) with(a uint32, words ...uint32) *plain {
	for i, w := range words {
		for k := range uint32(4) {
			p.bytes[a+4*uint32(i)+k] = byte(w >> (8 * k))
		}
	}
	return p
}

// fix lets n bytes only be read.
func (p *plain) fix(a, n uint32) *plain {
	for k := range n {
		p.fixed[a+k] = true
	}
	return p
}

func (p *plain) copy() *plain {
	return &plain{bytes: maps.Clone(p.bytes), fixed: maps.Clone(p.fixed)}
}

func (p *plain) get(a, n uint32) (v uint32, ok bool) {
	if n == 4 && a%4 != 0 {
		return 0xbad0bad0, false
	}
	for k := range n {
		b, is := p.bytes[a+k]
		if !is {
			// A number beside false is no answer: whoever takes it is found out.
			return 0xbad0bad0, false
		}
		v |= uint32(b) << (8 * k)
	}
	return v, true
}

func (p *plain) set(a, n, v uint32) bool {
	if _, ok := p.get(a, n); !ok || p.fixed[a] {
		return false
	}
	for k := range n {
		p.bytes[a+k] = byte(v >> (8 * k))
	}
	return true
}

func (p *plain) note(what string, a, v uint32) {
	p.asked = append(p.asked, ask{what, a, v})
}

func (p *plain) Word(a uint32) (uint32, bool) {
	p.note("Word", a, 0)
	return p.get(a, 4)
}

func (p *plain) Byte(a uint32) (byte, bool) {
	p.note("Byte", a, 0)
	v, ok := p.get(a, 1)
	return byte(v), ok
}

func (p *plain) SetWord(a, v uint32) bool {
	p.note("SetWord", a, v)
	return p.set(a, 4, v)
}

func (p *plain) SetByte(a uint32, v byte) bool {
	p.note("SetByte", a, uint32(v))
	return p.set(a, 1, uint32(v))
}

// names are how far A and B go, by what each instruction names of them in isa's table, and whether Imm is named.
type names struct {
	a, b int
	imm  bool
}

var table = [30]names{
	1: {7, 0, true}, 2: {7, 0, true}, 3: {7, 7, false},
	4: {7, 7, false}, 5: {7, 7, false}, 6: {7, 7, false}, 7: {7, 7, false},
	8: {7, 7, false}, 9: {7, 7, false}, 10: {7, 7, false}, 11: {7, 7, false},
	12: {7, 0, true}, 13: {7, 7, false}, 14: {7, 7, false},
	15: {7, 7, true}, 16: {7, 7, true}, 17: {7, 7, true}, 18: {7, 7, true},
	19: {0, 0, true}, 20: {7, 0, true}, 21: {7, 0, true}, 22: {7, 0, true}, 23: {7, 0, false},
	25: {1, 6, false}, 26: {1, 6, false}, 27: {1, 1, false}, 28: {1, 1, false}, 29: {1, 0, false},
}

func word(op, a, b, imm int) uint32 {
	return uint32(op)<<24 | uint32(a)<<20 | uint32(b)<<16 | uint32(imm)&0xffff
}

// taken are a word's parts, and whether it is an instruction.
func taken(w uint32) (op, a, b, imm int, ok bool) {
	op, a, b, imm = int(w>>24), int(w>>20&15), int(w>>16&15), int(w&0xffff)
	if imm >= 32768 {
		imm -= 65536
	}
	if op >= len(table) {
		return 0, 0, 0, 0, false
	}
	n := table[op]
	return op, a, b, imm, a <= n.a && b <= n.b && (imm == 0 || n.imm)
}

// mod is a number modulo 2^32, as a word.
func mod(n int64) uint32 {
	const all = 1 << 32
	return uint32((n%all + all) % all)
}

// signed is a word as a number with a sign.
func signed(w uint32) int64 {
	if w >= 1<<31 {
		return int64(w) - 1<<32
	}
	return int64(w)
}

// wrapped is the number from -2^19 to 2^19 - 1 that differs by a multiple of 2^20.
func wrapped(n int64) int64 {
	const all = 1 << 20
	n = (n%all + all) % all
	if n >= all/2 {
		n -= all
	}
	return n
}

// parts are those of a Gaussian register: noughts, if it is no number.
func parts(z complex128) (re, im int64) {
	for _, p := range []float64{real(z), imag(z)} {
		if !(p >= -524288 && p <= 524287) || p != float64(int64(p)) {
			return 0, 0
		}
	}
	return int64(real(z)), int64(imag(z))
}

func gaussian(re, im int64) complex128 {
	return complex(float64(wrapped(re)), float64(wrapped(im)))
}

// shifted goes bit by bit: to the left, or to the right.
func shifted(w, by uint32, left bool) uint32 {
	for range by % 32 {
		if left {
			w = mod(2 * int64(w))
		} else {
			w /= 2
		}
	}
	return w
}

func count(is bool) uint32 {
	if is {
		return 1
	}
	return 0
}

// meantOf is A behind an instruction of two registers.
func meantOf(op int, a, b uint32) uint32 {
	switch op {
	case 3:
		return b
	case 4:
		return mod(int64(a) + int64(b))
	case 5:
		return mod(int64(a) - int64(b))
	case 6:
		return uint32(uint64(a) * uint64(b) % (1 << 32))
	case 10, 11:
		return shifted(a, b, op == 10)
	case 13:
		return count(signed(a) < signed(b))
	case 14:
		return count(a == b)
	}
	var v uint32
	for k := range 32 {
		p, q := a>>k&1, b>>k&1
		v |= count(op == 7 && p+q == 2 || op == 8 && p+q > 0 || op == 9 && p != q) << k
	}
	return v
}

// meantGauss is what the Gaussian registers' instructions do.
func meantGauss(c *api.Cpu, op, a, b int) {
	re, im := parts(c.Z[a])
	switch op {
	case 25:
		c.Z[a] = gaussian(signed(c.R[b]), signed(c.R[b+1]))
	case 26:
		c.R[b], c.R[b+1] = mod(re), mod(im)
	case 27:
		x, y := parts(c.Z[b])
		c.Z[a] = gaussian(re+x, im+y)
	case 28:
		x, y := parts(c.Z[b])
		c.Z[a] = gaussian(re*x-im*y, re*y+im*x)
	case 29:
		c.Z[a] = gaussian(re, -im)
	}
}

// meantMemory is what lw, sw, lb and sb do; whether they may.
func meantMemory(c *api.Cpu, p *plain, op, a int, at uint32) bool {
	long := uint32(4)
	if op == 17 || op == 18 {
		long = 1
	}
	if long == 4 && at%4 != 0 {
		return false
	}
	what := map[int]string{15: "Word", 16: "SetWord", 17: "Byte", 18: "SetByte"}[op]
	if op == 16 || op == 18 {
		v := c.R[a]
		if long == 1 {
			v %= 256
		}
		p.note(what, at, v)
		return p.set(at, long, v)
	}
	p.note(what, at, 0)
	v, ok := p.get(at, long)
	if ok {
		c.R[a] = v
	}
	return ok
}

// meant is a step, as the chapter's words say it, done to a memory of the test's own.
func meant(c api.Cpu, p *plain) (api.Cpu, int) {
	if c.Pc%4 != 0 {
		return c, 2
	}
	p.note("Word", c.Pc, 0)
	w, ok := p.get(c.Pc, 4)
	if !ok {
		return c, 2
	}
	op, a, b, imm, ok := taken(w)
	if !ok {
		return c, 3
	}
	was, next := c, mod(int64(c.Pc)+4)
	far := mod(int64(next) + 4*int64(imm))
	switch {
	case op == 0:
	case op == 1:
		c.R[a] = mod(int64(imm))
	case op == 2:
		c.R[a] = mod(int64(imm)*65536) + c.R[a]%65536
	case op <= 11, op == 13, op == 14:
		c.R[a] = meantOf(op, c.R[a], c.R[b])
	case op == 12:
		c.R[a] = mod(int64(c.R[a]) + int64(imm))
	case op <= 18:
		if !meantMemory(&c, p, op, a, mod(int64(c.R[b])+int64(imm))) {
			return was, 2
		}
	case op == 19, op == 20 && c.R[a] == 0, op == 21 && c.R[a] != 0:
		next = far
	case op == 22:
		c.R[a], next = next, far
	case op == 23:
		next = c.R[a]
	case op == 24:
		return was, 1
	case op >= 25:
		meantGauss(&c, op, a, b)
	}
	c.Pc = next
	return c, 0
}

// same holds Cpus against each other; what is not a number is the same as itself.
func same(x, y api.Cpu) bool {
	for i := range x.Z {
		if !sameFloat(real(x.Z[i]), real(y.Z[i])) || !sameFloat(imag(x.Z[i]), imag(y.Z[i])) {
			return false
		}
	}
	return x.R == y.R && x.Pc == y.Pc
}

func sameFloat(x, y float64) bool {
	return x == y || x != x && y != y
}

// stepsAsMeant holds a step, what it leaves in memory, and what it asks that for against what is meant, and Touches against what is asked. It tells the step, so that a test can say what it has to be, besides.
func stepsAsMeant(t *testing.T, c api.Cpu, p *plain) (api.Cpu, int) {
	t.Helper()
	got, want := p.copy(), p.copy()
	touches(t, c, p)
	wantCpu, wantTrap := meant(c, want)
	gotCpu, trap := Step(c, got)
	if !same(gotCpu, wantCpu) || trap != wantTrap {
		w, _ := p.get(c.Pc, 4)
		t.Fatalf("%08x of %v: %v, %d, not %v, %d", w, c, gotCpu, trap, wantCpu, wantTrap)
	}
	if !maps.Equal(got.bytes, want.bytes) || !slices.Equal(got.asked, want.asked) {
		t.Fatalf("Step of %v: asked for %v, not %v; memory %v, not %v", c, got.asked, want.asked, got.bytes, want.bytes)
	}
	return gotCpu, trap
}

// touches holds Touches against the instruction at Pc. Of the memory it only reads that.
func touches(t *testing.T, c api.Cpu, p *plain) {
	t.Helper()
	m := p.copy()
	var addr uint32
	var long int
	var write bool
	var asked []ask
	if c.Pc%4 == 0 {
		asked = []ask{{"Word", c.Pc, 0}}
		w, ok := p.get(c.Pc, 4)
		op, _, b, imm, is := taken(w)
		if ok && is && op >= 15 && op <= 18 {
			addr, long, write = mod(int64(c.R[b])+int64(imm)), 4, op == 16 || op == 18
			if op >= 17 {
				long = 1
			}
		}
	}
	a, n, w := Touches(c, m)
	if a != addr || n != long || w != write {
		t.Fatalf("Touches of %v: %d, %d, %t, not %d, %d, %t", c, a, n, w, addr, long, write)
	}
	if !maps.Equal(m.bytes, p.bytes) || !slices.Equal(m.asked, asked) {
		t.Fatalf("Touches of %v asked for %v, not %v", c, m.asked, asked)
	}
}
