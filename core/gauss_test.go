package core

import (
	"math"
	"strconv"
	"testing"

	"carryall/api"
)

const (
	least    = -524288
	greatest = 524287
)

// halves has the numbers that some tests need in its Gaussian registers.
func halves(x, y complex128) api.Cpu {
	c := filled(400)
	c.Z = [2]complex128{x, y}
	return c
}

// turns does a line that is to turn the Gaussian registers alone.
func turns(t *testing.T, line string, x, y, wantX, wantY complex128) {
	t.Helper()
	after := halves(wantX, wantY)
	after.Pc = 404
	becomes(t, line, halves(x, y), after)
}

func TestP7_2_Zset(t *testing.T) {
	for b := range 7 {
		for _, x := range []struct {
			re, im uint32
			want   complex128
		}{
			{0, 0, 0}, {2, 3, 2 + 3i}, {math.MaxUint32, 1, -1 + 1i}, {5, math.MaxUint32 - 1, 5 - 2i},
			{greatest, greatest, complex(greatest, greatest)}, {1 << 19, 1<<19 + 1, complex(least, least+1)}, {0xfff80000, 0xfff7ffff, complex(least, greatest)},
			{1 << 20, 1<<20 - 1, complex(0, -1)}, {1 << 31, math.MaxInt32, complex(0, -1)}, {0x12345678, 0x89abcdef, complex(0x45678, -0x43211)},
		} {
			c := filled(400)
			c.R[b], c.R[b+1] = x.re, x.im
			for z := range 2 {
				after := c
				after.Pc, after.Z[z] = 404, x.want
				becomes(t, "zset "+strconv.Itoa(z)+" "+strconv.Itoa(b), c, after)
			}
		}
	}
}

func TestP7_2_Zget(t *testing.T) {
	for b := range 7 {
		for _, x := range []struct {
			z      complex128
			re, im uint32
		}{
			{0, 0, 0}, {2 + 3i, 2, 3}, {-1 + 1i, math.MaxUint32, 1}, {5 - 2i, 5, math.MaxUint32 - 1}, {complex(greatest, least), greatest, 0xfff80000}, {complex(least, greatest), 0xfff80000, greatest},
			{complex(greatest+1, 0), 0, 0}, {complex(7, 0.5), 0, 0}, {complex(math.NaN(), 3), 0, 0}, {complex(3, math.Inf(-1)), 0, 0},
		} {
			for z := range 2 {
				c := filled(400)
				c.Z[z] = x.z
				after := c
				after.Pc, after.R[b], after.R[b+1] = 404, x.re, x.im
				becomes(t, "zget "+strconv.Itoa(z)+" "+strconv.Itoa(b), c, after)
			}
		}
	}
}

func TestP7_2_ZaddZmulZconj(t *testing.T) {
	turns(t, "zadd 0 1", 2+3i, 4-1i, 6+2i, 4-1i)
	turns(t, "zadd 1 0", 2+3i, 4-1i, 2+3i, 6+2i)
	turns(t, "zadd 0 0", 2+3i, 4-1i, 4+6i, 4-1i)
	turns(t, "zadd 1 1", 2+3i, 4-1i, 2+3i, 8-2i)
	turns(t, "zmul 0 1", 2+3i, 4-1i, 11+10i, 4-1i)
	turns(t, "zmul 1 0", 2+3i, 4-1i, 2+3i, 11+10i)
	turns(t, "zmul 0 0", 2+3i, 4-1i, -5+12i, 4-1i)
	turns(t, "zmul 1 1", 2+3i, 4-1i, 2+3i, 15-8i)
	turns(t, "zconj 0", 2+3i, 4-1i, 2-3i, 4-1i)
	turns(t, "zconj 1", 2+3i, 4-1i, 2+3i, 4+1i)
}

func TestP7_2_GaussWraps(t *testing.T) {
	top, low := complex(greatest, greatest), complex(least, least)
	turns(t, "zadd 0 1", top, 1+1i, low, 1+1i)
	turns(t, "zadd 1 0", -1-1i, low, -1-1i, top)
	turns(t, "zadd 0 0", top, 0, -2-2i, 0)
	turns(t, "zadd 0 0", low, 0, 0, 0)
	turns(t, "zadd 0 1", top, low, -1-1i, low)
	turns(t, "zmul 0 1", complex(least, 0), -1, complex(least, 0), -1)
	turns(t, "zmul 0 1", low, 1i, complex(least, least), 1i)
	turns(t, "zmul 0 0", complex(greatest, 0), 0, 1, 0)
	turns(t, "zmul 0 0", top, 0, complex(0, 2), 0)
	turns(t, "zmul 0 0", 1024, 0, 0, 0)
	turns(t, "zmul 0 1", 1024, complex(512, 511), complex(least, 523264), complex(512, 511))
	turns(t, "zmul 1 0", complex(0, 1024), 1025, complex(0, 1024), complex(0, 1024))
	turns(t, "zconj 0", complex(3, least), 0, complex(3, least), 0)
	turns(t, "zconj 1", 0, complex(least, greatest), 0, complex(least, -greatest))
}

func TestP7_2_NoNumbersAreNoughts(t *testing.T) {
	nan, inf := math.NaN(), math.Inf(1)
	for _, z := range []complex128{complex(nan, 1), complex(1, nan), complex(inf, 1), complex(1, -inf), complex(0.5, 1), complex(1, -0.25), complex(greatest+1, 1), complex(1, least-1), complex(1e300, 0), negativeZeros()} {
		turns(t, "zadd 0 1", z, 4-1i, 4-1i, 4-1i)
		turns(t, "zadd 0 1", 4-1i, z, 4-1i, z)
		turns(t, "zadd 1 1", 7, z, 7, 0)
		turns(t, "zmul 0 1", z, 4-1i, 0, 4-1i)
		turns(t, "zmul 0 1", 4-1i, z, 0, z)
		turns(t, "zmul 1 1", 7, z, 7, 0)
		turns(t, "zconj 1", 7, z, 7, 0)
		turns(t, "zconj 0", 7, z, 7, z)
		turns(t, "nop", z, z, z, z)
	}
}

func negativeZeros() complex128 {
	return complex(math.Copysign(0, -1), math.Copysign(0, -1))
}

// TestP7_2_ManyNumbers holds the Gaussian registers' instructions against what is meant.
func TestP7_2_ManyNumbers(t *testing.T) {
	m := newPlain()
	parts := []float64{least, least + 1, -1025, -3, 0, 1, 2, 1024, 70001, greatest - 1, greatest, greatest + 1, 0.5}
	for op := 25; op < 30; op++ {
		for a := range table[op].a + 1 {
			for b := range table[op].b + 1 {
				m.with(400, word(op, a, b, 0))
				for i, re := range parts {
					for k, im := range parts {
						stepsAsMeant(t, halves(complex(re, im), complex(parts[(i+k)%13], parts[(3*i+5*k)%13])), m)
					}
				}
			}
		}
	}
}
