package word

import (
	"math"
	"slices"
	"strings"
	"testing"

	"carryall/api"
)

// samples are words with bits at both ends, in the middle, alone and all together.
func samples() []uint32 {
	l := []uint32{0, 258, 65535, 32767, 32768, 305419896, 0x01020304, 0xfedcba98, 0xdeadbeef, 0x7fffffff, 0x55555555, 0xaaaaaaaa, math.MaxUint32}
	for i := range 32 {
		l = append(l, 1<<i, ^uint32(1<<i))
	}
	return l
}

type byteCase struct {
	w uint32
	b []byte
}

func byteCases() []byteCase {
	return []byteCase{
		{0, []byte{0, 0, 0, 0}},
		{1, []byte{1, 0, 0, 0}},
		{258, []byte{2, 1, 0, 0}},
		{0x01020304, []byte{4, 3, 2, 1}},
		{0xfedcba98, []byte{0x98, 0xba, 0xdc, 0xfe}},
		{1 << 31, []byte{0, 0, 0, 128}},
		{math.MaxUint32, []byte{255, 255, 255, 255}},
	}
}

func TestP1_1_BytesAndRead(t *testing.T) {
	for _, x := range byteCases() {
		if b := Bytes(x.w); !slices.Equal(b, x.b) {
			t.Errorf("Bytes(%d) = %v, not %v", x.w, b, x.b)
		}
		if w, e := Read(x.b); w != x.w || e != api.OK {
			t.Errorf("Read(%v) = %d, %v", x.b, w, e)
		}
	}
}

func TestP1_1_ReadOfOtherLengths(t *testing.T) {
	for _, n := range []int{0, 1, 2, 3, 5, 7, 8, 9, 400} {
		b := slices.Repeat([]byte{7}, n)
		if w, e := Read(b); w != 0 || e != api.ErrWord {
			t.Errorf("Read of %d bytes = %d, %v", n, w, e)
		}
	}
	if w, e := Read(nil); w != 0 || e != api.ErrWord {
		t.Errorf("Read(nil) = %d, %v", w, e)
	}
	if w, e := Read(make([]byte, 3, 8)); w != 0 || e != api.ErrWord {
		t.Errorf("Read of three bytes with room behind them = %d, %v", w, e)
	}
}

func TestP1_1_AllAndWords(t *testing.T) {
	var l []uint32
	var b []byte
	for _, x := range byteCases() {
		l, b = append(l, x.w), append(b, x.b...)
		if got := All(l); !slices.Equal(got, b) {
			t.Errorf("All(%v) = %v, not %v", l, got, b)
		}
		if got, e := Words(b); !slices.Equal(got, l) || e != api.OK {
			t.Errorf("Words(%v) = %v, %v, not %v", b, got, e, l)
		}
	}
}

func TestP1_1_NothingAtAll(t *testing.T) {
	for _, l := range [][]uint32{nil, {}} {
		if b := All(l); len(b) != 0 {
			t.Errorf("All of nothing = %v", b)
		}
	}
	for _, b := range [][]byte{nil, {}} {
		if l, e := Words(b); len(l) != 0 || e != api.OK {
			t.Errorf("Words of nothing = %v, %v", l, e)
		}
	}
}

func TestP1_1_WordsOfNoMultipleOfFour(t *testing.T) {
	for n := range 70 {
		l, e := Words(slices.Repeat([]byte{9}, n))
		if n%4 != 0 {
			if len(l) != 0 || e != api.ErrWord {
				t.Errorf("Words of %d bytes = %v, %v", n, l, e)
			}
			continue
		}
		if len(l) != n/4 || e != api.OK {
			t.Errorf("Words of %d bytes = %v, %v", n, l, e)
		}
	}
}

func TestP1_2_Field(t *testing.T) {
	for _, x := range []struct {
		w          uint32
		from, bits int
		want       uint32
	}{
		{305419896, 8, 12, 1110},
		{305419896, 0, 32, 305419896},
		{305419896, 0, 8, 0x78},
		{305419896, 24, 8, 0x12},
		{305419896, 4, 28, 0x1234567},
		{1, 0, 1, 1},
		{2, 0, 1, 0},
		{1 << 31, 31, 1, 1},
		{math.MaxInt32, 31, 1, 0},
		{math.MaxUint32, 0, 32, math.MaxUint32},
		{math.MaxUint32, 1, 31, math.MaxInt32},
		{math.MaxUint32, 0, 31, math.MaxInt32},
		{0, 5, 6, 0},
	} {
		if n, e := Field(x.w, x.from, x.bits); n != x.want || e != api.OK {
			t.Errorf("Field(%d, %d, %d) = %d, %v, not %d", x.w, x.from, x.bits, n, e, x.want)
		}
	}
}

func TestP1_2_Put(t *testing.T) {
	for _, x := range []struct {
		w          uint32
		from, bits int
		v, want    uint32
	}{
		{0, 4, 4, 15, 240},
		{0, 0, 1, 1, 1},
		{0, 31, 1, 1, 1 << 31},
		{math.MaxUint32, 31, 1, 0, math.MaxInt32},
		{math.MaxUint32, 0, 1, 0, math.MaxUint32 - 1},
		{math.MaxUint32, 8, 12, 0, 0xfff000ff},
		{math.MaxUint32, 8, 12, 0xabc, 0xfffabcff},
		{305419896, 0, 32, 7, 7},
		{305419896, 0, 32, math.MaxUint32, math.MaxUint32},
		{305419896, 1, 31, 0, 0},
		{305419896, 1, 31, math.MaxInt32, math.MaxUint32 - 1},
		{305419896, 24, 8, 255, 0xff345678},
	} {
		if w, e := Put(x.w, x.from, x.bits, x.v); w != x.want || e != api.OK {
			t.Errorf("Put(%d, %d, %d, %d) = %d, %v, not %d", x.w, x.from, x.bits, x.v, w, e, x.want)
		}
	}
}

func TestP1_2_PutOfWhatDoesNotFit(t *testing.T) {
	for bits := 1; bits <= 32; bits++ {
		for _, from := range []int{0, 32 - bits, (32 - bits) / 2} {
			least := uint64(1) << bits
			if w, e := Put(0, from, bits, uint32(least-1)); w != uint32(least-1)<<from || e != api.OK {
				t.Errorf("Put of the greatest of %d bits from %d = %d, %v", bits, from, w, e)
			}
			if bits == 32 {
				continue
			}
			for _, v := range []uint32{uint32(least), uint32(least) + 1, 1 << 31, math.MaxUint32} {
				if w, e := Put(5, from, bits, v); w != 0 || e != api.ErrWord {
					t.Errorf("Put(5, %d, %d, %d) = %d, %v", from, bits, v, w, e)
				}
			}
		}
	}
}

func TestP1_2_WhatIsAField(t *testing.T) {
	for from := -3; from <= 36; from++ {
		for bits := -3; bits <= 36; bits++ {
			want := api.ErrArg
			if from >= 0 && from <= 31 && bits >= 1 && bits <= 32 && from+bits <= 32 {
				want = api.OK
			}
			n, e := Field(math.MaxUint32, from, bits)
			if e != want || e != api.OK && n != 0 {
				t.Errorf("Field(all, %d, %d) = %d, %v", from, bits, n, e)
			}
			w, e := Put(math.MaxUint32, from, bits, 1)
			if e != want || e != api.OK && w != 0 {
				t.Errorf("Put(all, %d, %d, 1) = %d, %v", from, bits, w, e)
			}
		}
	}
}

func TestP1_2_NumbersFarOut(t *testing.T) {
	far := []int{math.MinInt, math.MinInt + 1, math.MinInt32, -32, 33, 64, math.MaxInt32, math.MaxInt - 1, math.MaxInt}
	for _, x := range far {
		for _, y := range append(far, 0, 1, 31, 32) {
			for _, p := range [][2]int{{x, y}, {y, x}} {
				if n, e := Field(3, p[0], p[1]); n != 0 || e != api.ErrArg {
					t.Errorf("Field(3, %d, %d) = %d, %v", p[0], p[1], n, e)
				}
				if w, e := Put(3, p[0], p[1], 0); w != 0 || e != api.ErrArg {
					t.Errorf("Put(3, %d, %d, 0) = %d, %v", p[0], p[1], w, e)
				}
			}
		}
		if n, e := Sign(3, x); n != 0 || e != api.ErrArg {
			t.Errorf("Sign(3, %d) = %d, %v", x, n, e)
		}
	}
}

func TestP1_2_PutNamesNoFieldFirst(t *testing.T) {
	for _, p := range [][2]int{{30, 3}, {0, 0}, {-1, 4}, {32, 1}} {
		if w, e := Put(0, p[0], p[1], math.MaxUint32); w != 0 || e != api.ErrArg {
			t.Errorf("Put(0, %d, %d, all) = %d, %v", p[0], p[1], w, e)
		}
	}
}

func TestP1_2_Sign(t *testing.T) {
	for _, x := range []struct {
		w    uint32
		bits int
		want int32
	}{
		{65535, 16, -1},
		{32767, 16, 32767},
		{32768, 16, -32768},
		{0x12340005, 16, 5},
		{0x1234fffe, 16, -2},
		{0, 1, 0},
		{1, 1, -1},
		{2, 1, 0},
		{3, 2, -1},
		{2, 2, -2},
		{1, 2, 1},
		{math.MaxUint32, 32, -1},
		{1 << 31, 32, math.MinInt32},
		{math.MaxInt32, 32, math.MaxInt32},
		{1 << 30, 31, -1 << 30},
		{1<<30 - 1, 31, 1<<30 - 1},
		{1 << 31, 31, 0},
	} {
		if n, e := Sign(x.w, x.bits); n != x.want || e != api.OK {
			t.Errorf("Sign(%d, %d) = %d, %v, not %d", x.w, x.bits, n, e, x.want)
		}
	}
	for _, bits := range []int{0, -1, 33} {
		if n, e := Sign(1, bits); n != 0 || e != api.ErrArg {
			t.Errorf("Sign(1, %d) = %d, %v", bits, n, e)
		}
	}
}

func TestP1_3_TextAndParse(t *testing.T) {
	for _, x := range []struct {
		w uint32
		s string
	}{
		{0, "00000000"},
		{1, "00000001"},
		{258, "00000102"},
		{305419896, "12345678"},
		{0x90abcdef, "90abcdef"},
		{0xfedcba98, "fedcba98"},
		{1 << 31, "80000000"},
		{0x0110ffff, "0110ffff"},
		{math.MaxUint32, "ffffffff"},
	} {
		if s := Text(x.w); s != x.s {
			t.Errorf("Text(%d) = %q, not %q", x.w, s, x.s)
		}
		if w, e := Parse(x.s); w != x.w || e != api.OK {
			t.Errorf("Parse(%q) = %d, %v, not %d", x.s, w, e, x.w)
		}
	}
}

func TestP1_3_ParseOfOtherLengths(t *testing.T) {
	for n := range 20 {
		w, e := Parse(strings.Repeat("1", n))
		if n == 8 {
			continue
		}
		if w != 0 || e != api.ErrWord {
			t.Errorf("Parse of %d digits = %d, %v", n, w, e)
		}
	}
}

func TestP1_3_ParseOfAnyByteAtAnyPlace(t *testing.T) {
	for c := range 256 {
		for at := range 8 {
			b := []byte("00000000")
			b[at] = byte(c)
			w, e := Parse(string(b))
			v := strings.IndexByte("0123456789abcdef", byte(c))
			if v < 0 {
				if w != 0 || e != api.ErrWord {
					t.Errorf("Parse(%q) = %d, %v", b, w, e)
				}
				continue
			}
			if want := uint32(v) << (4 * (7 - at)); w != want || e != api.OK {
				t.Errorf("Parse(%q) = %d, %v, not %d", b, w, e, want)
			}
		}
	}
}

func TestP1_3_ParseOfWhatIsNearlyAText(t *testing.T) {
	for _, s := range []string{"", "0000010A", "ABCDEF01", "0x123456", "+1234567", "-1234567", "1234_678", " 1234567", "1234567 ", "1234567g", "1234567\n", "12345678\n", "0000000\x00", "ééé12", "éééé", "１2345"} {
		if w, e := Parse(s); w != 0 || e != api.ErrWord {
			t.Errorf("Parse(%q) = %d, %v", s, w, e)
		}
	}
}

func TestP1_4_WhatIsHandedInIsOnlyRead(t *testing.T) {
	back := []byte{1, 2, 3, 4, 5, 6, 7, 8, 9, 10, 11, 12}
	b := slices.Clone(back)
	Words(b)
	Words(b[:8])
	Words(b[:7])
	Read(b[:4])
	Read(b[:3])
	if !slices.Equal(b, back) {
		t.Errorf("bytes are %v now", b)
	}
	wall := []uint32{1, 2, 3, 4}
	l := slices.Clone(wall)
	All(l[:2])
	if !slices.Equal(l, wall) {
		t.Errorf("words are %v now", l)
	}
}

func TestP1_4_WhatIsAnsweredIsNewMemory(t *testing.T) {
	first := Bytes(258)
	clear(first)
	if b := Bytes(258); !slices.Equal(b, []byte{2, 1, 0, 0}) {
		t.Errorf("Bytes(258) = %v, behind a change of an earlier answer", b)
	}
	l := []uint32{1, 2}
	all, other := All(l), All(l)
	clear(all)
	if !slices.Equal(other, []byte{1, 0, 0, 0, 2, 0, 0, 0}) || !slices.Equal(l, []uint32{1, 2}) {
		t.Errorf("a change of what All answered shows: %v, %v", other, l)
	}
	words, e := Words(other)
	again, _ := Words(other)
	if e != api.OK {
		t.Fatal(e)
	}
	clear(words)
	if !slices.Equal(again, l) || other[0] != 1 {
		t.Errorf("a change of what Words answered shows: %v, %v", again, other)
	}
	clear(other)
	if !slices.Equal(again, l) {
		t.Errorf("a change of the bytes shows in Words' answer: %v", again)
	}
}

func TestP1_5_BytesAndBack(t *testing.T) {
	for _, w := range samples() {
		if r, e := Read(Bytes(w)); r != w || e != api.OK {
			t.Errorf("Read(Bytes(%d)) = %d, %v", w, r, e)
		}
		b := []byte(Text(w)[4:])
		r, e := Read(b)
		if e != api.OK || !slices.Equal(Bytes(r), b) {
			t.Errorf("Bytes(Read(%v)) = %v, %v", b, Bytes(r), e)
		}
	}
	l := samples()
	if r, e := Words(All(l)); !slices.Equal(r, l) || e != api.OK {
		t.Errorf("Words(All(%v)) = %v, %v", l, r, e)
	}
	b := []byte("bytes of which there are 32 here")
	r, e := Words(b)
	if e != api.OK || !slices.Equal(All(r), b) {
		t.Errorf("All(Words(%v)) = %v, %v", b, All(r), e)
	}
}

func TestP1_5_TextAndBack(t *testing.T) {
	for _, w := range samples() {
		if r, e := Parse(Text(w)); r != w || e != api.OK {
			t.Errorf("Parse(Text(%d)) = %d, %v", w, r, e)
		}
	}
	for _, s := range []string{"00000000", "0a1b2c3d", "ffff0000", "deadbeef", "98765432"} {
		if w, e := Parse(s); e != api.OK || Text(w) != s {
			t.Errorf("Text(Parse(%q)) = %q, %v", s, Text(w), e)
		}
	}
}

// bitsOf looks at a field bit by bit, by other means than the program.
func bitsOf(w uint32, from, bits int) uint64 {
	n := uint64(w) >> from
	return n % (1 << bits)
}

func TestP1_5_FieldOfPut(t *testing.T) {
	for _, w := range samples() {
		for from := range 32 {
			for bits := 1; from+bits <= 32; bits++ {
				for _, v := range []uint32{0, 1, uint32(1<<bits - 1), uint32(bitsOf(0x9e3779b9, 0, bits))} {
					checkPut(t, w, from, bits, v)
				}
			}
		}
	}
}

func checkPut(t *testing.T, w uint32, from, bits int, v uint32) {
	t.Helper()
	p, e := Put(w, from, bits, v)
	if e != api.OK {
		t.Fatalf("Put(%d, %d, %d, %d): %v", w, from, bits, v, e)
	}
	if n, e := Field(p, from, bits); n != v || e != api.OK {
		t.Fatalf("Field of Put(%d, %d, %d, %d) = %d, %v", w, from, bits, v, n, e)
	}
	if bitsOf(p, 0, from) != bitsOf(w, 0, from) || uint64(p)>>(from+bits) != uint64(w)>>(from+bits) {
		t.Fatalf("Put(%d, %d, %d, %d) = %d: other bits are not as they were", w, from, bits, v, p)
	}
}

func TestP1_5_SignIsTheFieldWithASign(t *testing.T) {
	for _, w := range samples() {
		for bits := 1; bits <= 32; bits++ {
			want := int64(bitsOf(w, 0, bits))
			if want >= 1<<(bits-1) {
				want -= 1 << bits
			}
			if n, e := Sign(w, bits); int64(n) != want || e != api.OK {
				t.Fatalf("Sign(%d, %d) = %d, %v, not %d", w, bits, n, e, want)
			}
		}
	}
}

// The examples' table of the chapter, where it is not among the cases above.
func TestExamples(t *testing.T) {
	if w, e := Read([]byte{1, 2, 3}); w != 0 || e != api.ErrWord {
		t.Errorf("Read(1 2 3) = %d, %v", w, e)
	}
	if w, e := Put(0, 4, 4, 16); w != 0 || e != api.ErrWord {
		t.Errorf("Put(0, 4, 4, 16) = %d, %v", w, e)
	}
	if n, e := Sign(1, 0); n != 0 || e != api.ErrArg {
		t.Errorf("Sign(1, 0) = %d, %v", n, e)
	}
}

func TestQuadsEndWhereTheyAreLeft(t *testing.T) {
	told := 0
	for n := range quads(make([]byte, 12)) {
		told += n
		break
	}
	if told != 4 {
		t.Errorf("%d bytes were told", told)
	}
}
