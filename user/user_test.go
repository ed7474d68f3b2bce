package user_test

import (
	"math"
	"math/rand"
	"slices"
	"strconv"
	"strings"
	"testing"

	"carryall/api"
	"carryall/frames"
	"carryall/space"
	"carryall/user"
)

// state is all that is seen of a space: whether pages are mapped, their entries, their bytes, and how many have their frames.
type state struct {
	mapped  [64]bool
	entries [64]api.Entry
	bytes   [4096]byte
	refs    [64]int
}

// world are spaces over one memory.
type world struct {
	t      *testing.T
	frames *frames.Frames
	spaces []*space.Space
}

// over is one with n spaces without pages.
func over(t *testing.T, size, n int) *world {
	t.Helper()
	f, e := frames.New(size)
	if e != api.OK {
		t.Fatal(e)
	}
	w := &world{t: t, frames: f}
	for range n {
		w.spaces = append(w.spaces, space.New(f))
	}
	return w
}

func (w *world) state(s int) state {
	var x state
	for _, m := range w.spaces[s].List() {
		x.mapped[m.Page], x.entries[m.Page] = true, m.Entry
		copy(x.bytes[m.Page*64:], w.spaces[s].Page(m.Page))
		x.refs[m.Page] = w.frames.Refs(m.Entry.Frame)
	}
	return x
}

func (w *world) states() []state {
	var l []state
	for s := range w.spaces {
		l = append(l, w.state(s))
	}
	return l
}

// page maps one that has these bytes, whether it is Write or not.
func (w *world) page(s, page int, write, shared bool, b []byte) {
	w.t.Helper()
	maker := space.New(w.frames)
	if code := maker.Map(page, 1, true, false); code != 0 {
		w.t.Fatal(code)
	}
	if code := maker.Write(uint32(page*64), b); code != 0 {
		w.t.Fatal(code)
	}
	k, _ := maker.Frame(uint32(page * 64))
	if code := w.spaces[s].Attach(page, api.Entry{Frame: k, Write: write, Shared: shared}); code != 0 {
		w.t.Fatal(code)
	}
	maker.Drop()
}

// leave leaves so many frames free.
func (w *world) leave(free int) {
	w.t.Helper()
	for w.frames.Free() > free {
		if _, e := w.frames.Take(); e != api.OK {
			w.t.Fatal(e)
		}
	}
}

// some are n bytes, none of them a nought, that follow from one.
func some(n, from int) []byte {
	b := make([]byte, n)
	for i := range b {
		b[i] = byte(1 + (from+i*7)%255)
	}
	return b
}

// whole has all pages mapped, Write, and no byte that is 0.
func whole(t *testing.T) *world {
	t.Helper()
	w := over(t, 256, 1)
	if code := w.spaces[0].Map(0, 64, true, false); code != 0 {
		t.Fatal(code)
	}
	if code := w.spaces[0].Write(0, some(4096, 0)); code != 0 {
		t.Fatal(code)
	}
	return w
}

// mixed has pages of each kind: 0 and 1 are Write; 2 is not; 3 is Write and Shared; 4 is Shared alone; 5 is not mapped; 6 and 7 are Write and Cow, as are 62 and 63: the space 1 has them, too. No byte is 0. So many frames are free.
func mixed(t *testing.T, free int) *world {
	t.Helper()
	w := over(t, 64, 1)
	for _, page := range []int{6, 7, 62, 63} {
		w.page(0, page, true, false, some(64, page))
	}
	w.spaces = append(w.spaces, w.spaces[0].Clone())
	w.page(0, 0, true, false, some(64, 0))
	w.page(0, 1, true, false, some(64, 1))
	w.page(0, 2, false, false, some(64, 2))
	w.page(0, 3, true, true, some(64, 3))
	w.page(0, 4, false, true, some(64, 4))
	w.leave(free)
	return w
}

// none are spaces that New did not make.
func none() []*space.Space {
	return []*space.Space{nil, {}, new(space.Space)}
}

// addresses are those at which something is another thing than beside them.
func addresses() []uint32 {
	l := []uint32{4097, 4100, 8192, 1 << 31, 1<<32 - 4096, 1<<32 - 64, 1<<32 - 5, 1<<32 - 4, 1<<32 - 3, 1<<32 - 2, 1<<32 - 1}
	for page := range uint32(65) {
		for _, off := range []uint32{0, 1, 2, 3, 4, 31, 59, 60, 61, 62, 63} {
			l = append(l, page*64+off)
		}
	}
	return l
}

// few are some of them, about the pages that mixed has.
func few() []uint32 {
	l := []uint32{4097, 1<<32 - 64, 1<<32 - 4, 1<<32 - 1}
	for _, page := range []uint32{0, 1, 2, 3, 4, 5, 6, 7, 8, 61, 62, 63, 64} {
		for _, off := range []uint32{0, 1, 32, 60, 61, 63} {
			l = append(l, page*64+off)
		}
	}
	return l
}

// read are bytes as the words say them.
func (x *state) read(a uint32, n int) ([]byte, int) {
	var b []byte
	for i := range n {
		at := int64(a) + int64(i)
		if at > 4095 || !x.mapped[at/64] {
			return nil, 14
		}
		b = append(b, x.bytes[at])
	}
	return b, 0
}

func (x *state) words(a uint32, n int) ([]uint32, int) {
	if n < 0 || n > 1024 {
		return nil, 22
	}
	b, code := x.read(a, 4*n)
	var l []uint32
	for i := range len(b) / 4 {
		l = append(l, uint32(b[4*i])+256*uint32(b[4*i+1])+65536*uint32(b[4*i+2])+16777216*uint32(b[4*i+3]))
	}
	return l, code
}

func (x *state) text(a uint32, most int) (string, int) {
	if most < 1 || most > 4096 {
		return "", 22
	}
	t := ""
	for n := range most {
		at := int64(a) + int64(n)
		switch {
		case at > 4095 || !x.mapped[at/64]:
			return "", 14
		case x.bytes[at] == 0:
			return t, 0
		}
		t += string(x.bytes[at : at+1])
	}
	return "", 22
}

// bytesOf are words' bytes.
func bytesOf(l []uint32) []byte {
	var b []byte
	for _, w := range l {
		b = append(b, byte(w%256), byte(w/256%256), byte(w/65536%256), byte(w/16777216))
	}
	return b
}

// words holds what Words answers against what it has to be, and that nothing is turned.
func (w *world) words(s int, a uint32, n int) {
	w.t.Helper()
	x := w.state(s)
	l, code := user.Words(w.spaces[s], a, n)
	want, wantCode := x.words(a, n)
	if !slices.Equal(l, want) || code != wantCode {
		w.t.Fatalf("Words(%d, %d): %v, %d, not %v, %d", a, n, l, code, want, wantCode)
	}
	if w.state(s) != x {
		w.t.Fatalf("Words(%d, %d) turned something", a, n)
	}
}

func (w *world) text(s int, a uint32, most int) {
	w.t.Helper()
	x := w.state(s)
	l, code := user.Text(w.spaces[s], a, most)
	want, wantCode := x.text(a, most)
	if l != want || code != wantCode {
		w.t.Fatalf("Text(%d, %d): %q, %d, not %q, %d", a, most, l, code, want, wantCode)
	}
	if w.state(s) != x {
		w.t.Fatalf("Text(%d, %d) turned something", a, most)
	}
}

// anyCode is told where a call's code is another world's alone.
const anyCode = -1

// pair are two worlds that are the same: one is written into by package user, the other one by Write of the bytes that the words ask for.
type pair struct {
	w, plain *world
}

func twice(t *testing.T, build func(*testing.T) *world) pair {
	t.Helper()
	return pair{build(t), build(t)}
}

func mixedTwice(t *testing.T, free int) pair {
	t.Helper()
	return pair{mixed(t, free), mixed(t, free)}
}

// put holds a code, and all spaces, against what they have to be; may says whether the bytes come to be written at all, and want is the code, unless it is any.
func (p pair) put(what string, s int, got int, a uint32, b []byte, may bool, want int) {
	p.w.t.Helper()
	before := p.plain.states()
	code := 22
	if may {
		code = p.plain.spaces[s].Write(a, b)
	}
	if got != code || want != anyCode && got != want {
		p.w.t.Fatalf("%s at %d: %d, not %d (plainly %d)", what, a, got, want, code)
	}
	after := p.w.states()
	if !slices.Equal(after, p.plain.states()) || p.w.frames.Free() != p.plain.frames.Free() {
		p.w.t.Fatalf("%s at %d: the spaces are not what they have to be", what, a)
	}
	if code != 0 && !slices.Equal(after, before) {
		p.w.t.Fatalf("%s at %d is refused by %d, and turned something", what, a, code)
	}
	if code != 0 {
		return
	}
	for i := range after {
		p.beside(what, after[i], before[i], i == s, int(a), len(b))
	}
}

// beside looks at all but those bytes that were written, in this space, or in another one's Shared pages: nothing of it is turned.
func (p pair) beside(what string, after, before state, isIt bool, a, n int) {
	p.w.t.Helper()
	if after.mapped != before.mapped {
		p.w.t.Fatalf("%s at %d: pages are mapped, or unmapped", what, a)
	}
	for page := range 64 {
		x, y := after.entries[page], before.entries[page]
		if x.Write != y.Write || x.Shared != y.Shared {
			p.w.t.Fatalf("%s at %d: page %d was %v, and is %v", what, a, page, y, x)
		}
	}
	for at := a; at < a+n; at++ { // none, where a is no address of the space
		if isIt || before.entries[at/64].Shared {
			before.bytes[at] = after.bytes[at]
		}
	}
	if after.bytes != before.bytes {
		p.w.t.Fatalf("%s at %d, %d bytes: others are turned", what, a, n)
	}
}

func (p pair) putWords(s int, a uint32, l []uint32, want int) {
	p.w.t.Helper()
	kept := slices.Clone(l)
	code := user.PutWords(p.w.spaces[s], a, l)
	p.put("PutWords of "+strconv.Itoa(len(l)), s, code, a, bytesOf(l), len(l) <= 1024, want)
	if !slices.Equal(l, kept) {
		p.w.t.Fatal("PutWords wrote into what was handed in")
	}
	if code != 0 {
		return
	}
	if told, again := user.Words(p.w.spaces[s], a, len(l)); again != 0 || !slices.Equal(told, l) {
		p.w.t.Fatalf("Words(%d, %d): %v, %d, not %v", a, len(l), told, again, l)
	}
}

func (p pair) putText(s int, a uint32, t string, want int) {
	p.w.t.Helper()
	code := user.PutText(p.w.spaces[s], a, t)
	p.put("PutText of "+strconv.Itoa(len(t)), s, code, a, []byte(t+"\x00"), len(t) <= 4095 && !strings.Contains(t, "\x00"), want)
	if code != 0 {
		return
	}
	if told, again := user.Text(p.w.spaces[s], a, len(t)+1); again != 0 || told != t {
		p.w.t.Fatalf("Text(%d, %d): %q, %d, not %q", a, len(t)+1, told, again, t)
	}
	if told, again := user.Text(p.w.spaces[s], a, 4096); again != 0 || told != t {
		p.w.t.Fatalf("Text(%d, 4096): %q, %d, not %q", a, told, again, t)
	}
}

func (p pair) fill(s int, a uint32, n int, c byte, want int) {
	p.w.t.Helper()
	may := n >= 0 && n <= 4096
	var b []byte
	for len(b) < n && may {
		b = append(b, c)
	}
	p.put("Fill of "+strconv.Itoa(n), s, user.Fill(p.w.spaces[s], a, n, c), a, b, may, want)
}

// wordsOf are n of them that follow from one; no byte of them is 0.
func wordsOf(n, from int) []uint32 {
	var l []uint32
	b := some(4*n, from)
	for i := range n {
		l = append(l, uint32(b[4*i])|uint32(b[4*i+1])<<8|uint32(b[4*i+2])<<16|uint32(b[4*i+3])<<24)
	}
	return l
}

// wild are numbers far from those that may be; some of them make a small one times 4, or cut to 32 bits.
func wild() []int {
	return []int{math.MinInt, math.MinInt + 1, math.MinInt / 2, math.MinInt/2 + 1, math.MinInt/4 + 1, -1 << 32, 1 - 1<<32, -4096, -1025, -1024, -2, -1,
		4097, 4098, 8192, 1 << 16, 1<<16 + 1, 1 << 30, 1<<30 + 1, 1<<31 - 1, 1 << 31, 1 << 32, 1<<32 + 1, 1<<32 + 64, 1 << 60, 1 << 61, 1<<62 - 1, 1 << 62, 1<<62 + 1, 1<<62 + 1024, math.MaxInt - 1, math.MaxInt}
}

func TestP17_1_WordsByHand(t *testing.T) {
	w := over(t, 4, 1)
	s := w.spaces[0]
	s.Map(1, 2, true, false)
	s.Write(64, []byte{1, 2, 3, 4, 5, 6, 7, 8, 0, 0, 0, 128, 255, 255, 255, 255})
	s.Write(126, []byte{9, 8, 7, 6})
	for _, c := range []struct {
		a    uint32
		n    int
		l    []uint32
		code int
	}{
		{64, 0, nil, 0}, {64, 1, []uint32{0x04030201}, 0}, {64, 2, []uint32{0x04030201, 0x08070605}, 0},
		{65, 1, []uint32{0x05040302}, 0}, {66, 1, []uint32{0x06050403}, 0}, {67, 2, []uint32{0x07060504, 0x00000008}, 0},
		{72, 2, []uint32{0x80000000, 0xffffffff}, 0}, {76, 1, []uint32{0xffffffff}, 0}, {77, 1, []uint32{0x00ffffff}, 0},
		{126, 1, []uint32{0x06070809}, 0}, {123, 2, []uint32{0x09000000, 0x00060708}, 0}, {125, 1, []uint32{0x07080900}, 0}, {127, 1, []uint32{0x00060708}, 0},
		{188, 1, []uint32{0}, 0}, {189, 1, nil, 14}, {188, 2, nil, 14}, {191, 1, nil, 14}, {192, 1, nil, 14}, {63, 1, nil, 14}, {60, 1, nil, 14}, {0, 1, nil, 14},
		{0, 0, nil, 0}, {4095, 0, nil, 0}, {4096, 0, nil, 0}, {1<<32 - 1, 0, nil, 0}, {1<<32 - 1, 1, nil, 14}, {1<<32 - 4, 1, nil, 14},
		{64, -1, nil, 22}, {0, -1, nil, 22}, {0, 1024, nil, 14}, {0, 1025, nil, 22}, {1<<32 - 1, 1025, nil, 22},
	} {
		if l, code := user.Words(s, c.a, c.n); !slices.Equal(l, c.l) || code != c.code {
			t.Errorf("Words(%d, %d): %x, %d, not %x, %d", c.a, c.n, l, code, c.l, c.code)
		}
		w.words(0, c.a, c.n)
	}
}

func TestP17_1_WordsOfAnyCount(t *testing.T) {
	w := whole(t)
	for _, n := range append(wild(), 1025, 1026, 2048, 4096) {
		for _, a := range []uint32{0, 1, 4095, 4096, 1<<32 - 1} {
			if l, code := user.Words(w.spaces[0], a, n); len(l) != 0 || code != 22 {
				t.Errorf("Words(%d, %d): %v, %d", a, n, l, code)
			}
		}
	}
	for _, n := range []int{0, 1, 2, 15, 16, 17, 1022, 1023, 1024} {
		for _, a := range []uint32{0, 1, 2, 3, 4, 5, 8, 4096 - 4*uint32(n), 4097 - 4*uint32(n)} {
			w.words(0, a, n)
		}
	}
	if l, code := user.Words(w.spaces[0], 0, 1024); code != 0 || !slices.Equal(l, wordsOf(1024, 0)) {
		t.Errorf("all words: %v, %d", l, code)
	}
}

func TestP17_1_WordsAtEachAddress(t *testing.T) {
	w := whole(t)
	for a := range uint32(4200) {
		w.words(0, a, 1)
	}
	for _, a := range addresses() {
		for _, n := range []int{0, 1, 2, 3, 16, 17} {
			w.words(0, a, n)
		}
	}
}

func TestP17_1_WordsOfEachKindOfPage(t *testing.T) {
	w := mixed(t, 0)
	for _, a := range few() {
		for _, n := range []int{-1, 0, 1, 2, 16, 17, 33, 1024, 1025} {
			w.words(0, a, n)
			w.words(1, a, n)
		}
	}
}

func TestP17_1_PutWordsByHand(t *testing.T) {
	w := over(t, 4, 1)
	s := w.spaces[0]
	s.Map(1, 2, true, false)
	if code := user.PutWords(s, 125, []uint32{0x04030201, 0xfffefdfc}); code != 0 {
		t.Fatal(code)
	}
	if b, _ := s.Read(124, 10); !slices.Equal(b, []byte{0, 1, 2, 3, 4, 0xfc, 0xfd, 0xfe, 0xff, 0}) {
		t.Errorf("what is there: %v", b)
	}
	for _, c := range []struct {
		a    uint32
		n    int
		code int
	}{
		{64, 32, 0}, {64, 33, 14}, {65, 32, 14}, {65, 31, 0}, {63, 1, 14}, {188, 1, 0}, {189, 1, 14}, {192, 1, 14}, {0, 1, 14}, {1<<32 - 1, 1, 14}, {1<<32 - 4, 1, 14}, {1<<32 - 4, 2, 14},
		{0, 0, 0}, {192, 0, 0}, {4096, 0, 0}, {1<<32 - 1, 0, 0}, {64, 1024, 14}, {64, 1025, 22}, {0, 5000, 22}, {1<<32 - 1, 1025, 22},
	} {
		if code := user.PutWords(s, c.a, wordsOf(c.n, 9)); code != c.code {
			t.Errorf("PutWords(%d, %d words): %d, not %d", c.a, c.n, code, c.code)
		}
	}
}

func TestP17_1_PutWordsOfAnyCount(t *testing.T) {
	p := twice(t, whole)
	for _, n := range []int{0, 1, 2, 15, 16, 17, 1023, 1024} {
		p.putWords(0, 0, wordsOf(n, n), 0)
		p.putWords(0, 4096-4*uint32(n), wordsOf(n, n+1), 0)
		if n > 0 {
			p.putWords(0, 4097-4*uint32(n), wordsOf(n, n+2), 14)
		}
	}
	for _, n := range []int{1025, 1026, 2048, 1 << 16} {
		for _, a := range []uint32{0, 1, 4095, 4096, 1<<32 - 1} {
			p.putWords(0, a, wordsOf(n, n), 22)
		}
	}
}

func TestP17_1_PutWordsAtEachAddress(t *testing.T) {
	p := twice(t, whole)
	for i, a := range addresses() {
		for _, n := range []int{0, 1, 17} {
			want := 0
			if n > 0 && int(a)+4*n > 4096 {
				want = 14
			}
			p.putWords(0, a, wordsOf(n, i), want)
		}
	}
}

func TestP17_1_PutWordsIntoEachKindOfPage(t *testing.T) {
	for _, free := range []int{0, 1, 2, 10} {
		p := mixedTwice(t, free)
		for i, a := range few() {
			for _, n := range []int{0, 1, 16, 33} {
				p.putWords(0, a, wordsOf(n, i), anyCode)
				p.putWords(1, a, wordsOf(n, i+1), anyCode)
			}
		}
	}
}

func TestP17_1_PutWordsWithoutFrames(t *testing.T) {
	p := mixedTwice(t, 0)
	for s := range 2 {
		p.putWords(s, 6*64, wordsOf(1, 0), 12)
		p.putWords(s, 6*64+61, wordsOf(1, 0), 12)
		p.putWords(s, 7*64+60, wordsOf(1, 0), 12)
		p.putWords(s, 7*64+61, wordsOf(1, 0), 14)
		p.putWords(s, 7*64, wordsOf(1025, 0), 22)
		p.putWords(s, 7*64, nil, 0)
	}
	p = mixedTwice(t, 1)
	p.putWords(0, 6*64, wordsOf(32, 0), 12)
	p.putWords(0, 6*64, wordsOf(17, 0), 12)
	p.putWords(0, 6*64, wordsOf(16, 0), 0)
	p.putWords(0, 7*64, wordsOf(16, 0), 12)
	p.putWords(1, 6*64, wordsOf(16, 5), 0)
	p.putWords(1, 6*64, wordsOf(32, 5), 12)
}

func TestP17_1_PutWordsIntoKinds(t *testing.T) {
	p := mixedTwice(t, 9)
	for _, c := range []struct{ page, code int }{{0, 0}, {1, 0}, {2, 14}, {3, 0}, {4, 14}, {5, 14}, {6, 0}, {7, 0}, {8, 14}, {61, 14}, {62, 0}, {63, 0}, {64, 14}} {
		p.putWords(0, uint32(64*c.page), wordsOf(16, c.page), c.code)
		p.putText(0, uint32(64*c.page), "carry", c.code)
		p.fill(0, uint32(64*c.page), 64, 7, c.code)
	}
	p.putWords(0, 124, wordsOf(2, 0), 14)
	p.putWords(0, 2*64-1, wordsOf(1, 0), 14)
	p.putWords(0, 4*64-1, wordsOf(1, 0), 14)
	p.putWords(0, 63, wordsOf(1, 0), 0)
}

func TestP17_1_NoSpace(t *testing.T) {
	for _, s := range none() {
		for _, a := range []uint32{0, 1, 64, 4095, 4096, 1<<32 - 1} {
			for _, n := range []int{0, 1, 2, 1024} {
				if l, code := user.Words(s, a, n); len(l) != 0 || code != 14 {
					t.Errorf("Words(%d, %d): %v, %d", a, n, l, code)
				}
				if code := user.PutWords(s, a, wordsOf(n, 0)); code != 14 {
					t.Errorf("PutWords(%d, %d words): %d", a, n, code)
				}
			}
			for _, n := range append(wild(), 1025) {
				if l, code := user.Words(s, a, n); len(l) != 0 || code != 22 {
					t.Errorf("Words(%d, %d): %v, %d", a, n, l, code)
				}
			}
			if code := user.PutWords(s, a, wordsOf(1025, 0)); code != 22 {
				t.Errorf("PutWords(%d, 1025 words): %d", a, code)
			}
		}
	}
}

func TestP17_2_TextByHand(t *testing.T) {
	w := over(t, 4, 1)
	s := w.spaces[0]
	s.Map(1, 1, true, false)
	s.Map(63, 1, true, false)
	s.Write(64, []byte("carry\x00all\x00\xff\xfe\x01\x00"))
	s.Write(120, []byte("the end."))
	s.Write(4032, []byte(strings.Repeat("x", 60)+"one\x00"))
	for _, c := range []struct {
		a    uint32
		most int
		t    string
		code int
	}{
		{64, 4096, "carry", 0}, {64, 7, "carry", 0}, {64, 6, "carry", 0}, {64, 5, "", 22}, {64, 1, "", 22},
		{65, 5, "arry", 0}, {65, 4, "", 22}, {69, 1, "", 0}, {69, 4096, "", 0}, {70, 4, "all", 0}, {70, 3, "", 22},
		{74, 4, "\xff\xfe\x01", 0}, {74, 3, "", 22}, {77, 1, "", 0}, {78, 1, "", 0}, {119, 1, "", 0},
		{120, 8, "", 22}, {120, 9, "", 14}, {120, 4096, "", 14}, {120, 7, "", 22}, {127, 1, "", 22}, {127, 2, "", 14}, {128, 1, "", 14}, {128, 4096, "", 14}, {63, 1, "", 14}, {63, 9, "", 14}, {0, 1, "", 14},
		{4092, 4, "one", 0}, {4092, 3, "", 22}, {4092, 5, "one", 0}, {4092, 4096, "one", 0}, {4095, 1, "", 0}, {4095, 2, "", 0}, {4095, 4096, "", 0},
		{4096, 1, "", 14}, {4096, 4096, "", 14}, {1<<32 - 1, 1, "", 14}, {1<<32 - 1, 4096, "", 14}, {1<<32 - 64, 100, "", 14},
		{64, 0, "", 22}, {64, -1, "", 22}, {64, 4097, "", 22}, {0, 0, "", 22}, {0, -1, "", 22}, {0, 4097, "", 22}, {1<<32 - 1, 4097, "", 22},
	} {
		if l, code := user.Text(s, c.a, c.most); l != c.t || code != c.code {
			t.Errorf("Text(%d, %d): %q, %d, not %q, %d", c.a, c.most, l, code, c.t, c.code)
		}
		w.text(0, c.a, c.most)
	}
}

func TestP17_2_TextOfAnyMost(t *testing.T) {
	w := whole(t)
	w.spaces[0].SetByte(9, 0)
	for _, most := range append(wild(), 0) {
		for _, a := range []uint32{0, 9, 4095, 4096, 1<<32 - 1} {
			if l, code := user.Text(w.spaces[0], a, most); l != "" || code != 22 {
				t.Errorf("Text(%d, %d): %q, %d", a, most, l, code)
			}
		}
	}
	for _, most := range []int{1, 2, 8, 9, 10, 11, 64, 65, 4095, 4096} {
		w.text(0, 0, most)
		w.text(0, 9, most)
		w.text(0, 10, most)
	}
}

func TestP17_2_TextOfTheWholeSpace(t *testing.T) {
	w := whole(t)
	s := w.spaces[0]
	if l, code := user.Text(s, 0, 4096); l != "" || code != 22 {
		t.Errorf("a space without a byte 0: %q, %d", l, code)
	}
	if l, code := user.Text(s, 1, 4096); l != "" || code != 14 {
		t.Errorf("from 1 on: %q, %d", l, code)
	}
	if l, code := user.Text(s, 1, 4095); l != "" || code != 22 {
		t.Errorf("from 1 on, up to the end: %q, %d", l, code)
	}
	s.SetByte(4095, 0)
	if l, code := user.Text(s, 0, 4096); l != string(some(4095, 0)) || code != 0 {
		t.Errorf("with its last byte 0: %q, %d", l, code)
	}
	if l, code := user.Text(s, 0, 4095); l != "" || code != 22 {
		t.Errorf("ahead of it: %q, %d", l, code)
	}
	if l, code := user.Text(s, 1, 4096); l != string(some(4095, 0))[1:] || code != 0 {
		t.Errorf("from 1 on: %q, %d", l, code)
	}
}

// A text is ended at each place, and looked for with as many bytes, one fewer and one more.
func TestP17_2_TextEndsAnywhere(t *testing.T) {
	w := whole(t)
	for _, from := range []uint32{0, 1, 60, 63, 64, 100, 4000} {
		for _, n := range []int{0, 1, 2, 3, 31, 62, 63, 64, 65, 95} {
			end := from + uint32(n)
			was, _ := w.spaces[0].Byte(end)
			w.spaces[0].SetByte(end, 0)
			for most := n - 1; most <= n+2; most++ {
				w.text(0, from, most)
			}
			w.text(0, from, 4096)
			w.spaces[0].SetByte(end, was)
		}
	}
}

func TestP17_2_TextGoesOnIntoNoPage(t *testing.T) {
	for _, end := range []int{-1, 0, 1, 30, 62, 63} {
		w := over(t, 2, 1)
		b := some(64, 0)
		if end >= 0 {
			b[end] = 0
		}
		w.page(0, 5, false, false, b)
		for _, a := range []uint32{319, 320, 321, 350, 351, 382, 383, 384} {
			for most := range 70 {
				w.text(0, a, most)
			}
		}
	}
}

func TestP17_2_TextOfEachKindOfPage(t *testing.T) {
	for _, zeros := range [][]uint32{nil, {63}, {100, 200}, {6 * 64, 7*64 + 63, 4095}} {
		w := mixed(t, 9)
		for _, a := range zeros {
			w.spaces[0].SetByte(a, 0)
		}
		for _, a := range few() {
			for _, most := range []int{-1, 0, 1, 2, 63, 64, 65, 129, 4096, 4097} {
				w.text(0, a, most)
			}
		}
	}
}

func TestP17_2_PutTextByHand(t *testing.T) {
	w := over(t, 4, 1)
	s := w.spaces[0]
	s.Map(1, 2, true, false)
	s.Write(64, []byte(strings.Repeat("-", 128)))
	for _, c := range []struct {
		a    uint32
		t    string
		code int
	}{
		{64, "", 0}, {70, "carry", 0}, {80, "é", 0}, {90, "\xff\xfe", 0}, {126, "all", 0}, {191, "", 0}, {188, "end", 0}, {188, "end.", 14}, {191, "x", 14}, {192, "", 14}, {63, "", 14}, {62, "ab", 14}, {0, "", 14},
		{4095, "", 14}, {4096, "", 14}, {1<<32 - 1, "", 14}, {1<<32 - 1, "a", 14}, {64, "\x00", 22}, {64, "a\x00", 22}, {64, "\x00a", 22}, {64, "a\x00b", 22}, {0, "\x00", 22}, {1<<32 - 1, "\x00", 22},
	} {
		if code := user.PutText(s, c.a, c.t); code != c.code {
			t.Errorf("PutText(%d, %q): %d, not %d", c.a, c.t, code, c.code)
		}
	}
	b, _ := s.Read(64, 128)
	want := "\x00-----carry\x00----é\x00-------\xff\xfe\x00" + strings.Repeat("-", 33) + "all\x00" + strings.Repeat("-", 58) + "end\x00"
	if string(b) != want {
		t.Errorf("what is there: %q, not %q", b, want)
	}
}

func TestP17_2_PutTextWithAByte0(t *testing.T) {
	p := twice(t, whole)
	for _, n := range []int{1, 2, 3, 64, 65, 4095, 4096} {
		b := some(n, n)
		for i := range n {
			kept := b[i]
			b[i] = 0
			if code := user.PutText(p.w.spaces[0], 0, string(b)); code != 22 {
				t.Fatalf("PutText of %d bytes with a byte 0 at %d: %d", n, i, code)
			}
			b[i] = kept
		}
		p.putText(0, 0, "\x00"+string(b), 22)
	}
	p.putText(0, 0, "\x00", 22)
	p.putText(0, 1<<32-1, "\x00\x00", 22)
}

func TestP17_2_PutTextOfAnyLength(t *testing.T) {
	p := twice(t, whole)
	for _, n := range []int{0, 1, 2, 62, 63, 64, 65, 127, 128, 4093, 4094, 4095} {
		l := string(some(n, n))
		p.putText(0, 0, l, 0)
		p.putText(0, 4095-uint32(n), l, 0)
		p.putText(0, 4096-uint32(n), l, 14)
	}
	for _, n := range []int{4096, 4097, 5000, 1 << 16, 1<<16 + 1} {
		for _, a := range []uint32{0, 1, 4095, 4096, 1<<32 - 1} {
			p.putText(0, a, string(some(n, n)), 22)
		}
	}
}

func TestP17_2_PutTextAtEachAddress(t *testing.T) {
	p := twice(t, whole)
	for i, a := range addresses() {
		for _, n := range []int{0, 1, 70} {
			want := 0
			if int(a)+n > 4095 {
				want = 14
			}
			p.putText(0, a, string(some(n, i)), want)
		}
	}
}

// The byte 0 behind a text lies in a page that may not be written, or that needs a frame.
func TestP17_2_PutTextWhoseEndHasNoRoom(t *testing.T) {
	p := mixedTwice(t, 0)
	p.putText(0, 124, "ab", 0)
	p.putText(0, 124, "abc", 0)
	p.putText(0, 124, "abcd", 14)
	p.putText(0, 4*64-1, "", 0)
	p.putText(0, 4*64-1, "a", 14)
	p.putText(0, 8*64-1, "", 12)
	p.putText(0, 8*64-1, "a", 14)
	p = mixedTwice(t, 1)
	p.putText(0, 7*64-4, "abcd", 12)
	p.putText(0, 7*64-4, "abc", 0)
	p.putText(0, 7*64-4, "abcd", 12)
	p.putText(0, 7*64-4, "abc", 0)
	p.putText(1, 7*64-4, "abcd", 12)
}

func TestP17_2_PutTextIntoEachKindOfPage(t *testing.T) {
	for _, free := range []int{0, 1, 2, 10} {
		p := mixedTwice(t, free)
		for i, a := range few() {
			for _, n := range []int{0, 1, 63, 64, 129} {
				p.putText(0, a, string(some(n, i)), anyCode)
				p.putText(1, a, string(some(n, i+1)), anyCode)
			}
		}
	}
}

func TestP17_2_FillByHand(t *testing.T) {
	w := over(t, 4, 1)
	s := w.spaces[0]
	s.Map(1, 2, true, false)
	for _, c := range []struct {
		a    uint32
		n    int
		c    byte
		code int
	}{
		{64, 128, 1, 0}, {126, 4, 9, 0}, {70, 1, 255, 0}, {71, 1, 0, 0}, {80, 0, 7, 0}, {0, 0, 7, 0}, {1<<32 - 1, 0, 7, 0}, {191, 1, 3, 0},
		{191, 2, 4, 14}, {192, 1, 4, 14}, {63, 1, 4, 14}, {63, 2, 4, 14}, {64, 129, 4, 14}, {0, 4096, 4, 14}, {1<<32 - 1, 1, 4, 14}, {1<<32 - 1, 66, 4, 14},
		{64, -1, 4, 22}, {0, -1, 4, 22}, {64, 4097, 4, 22}, {0, 4097, 0, 22}, {1<<32 - 1, 4097, 4, 22}, {64, math.MinInt, 4, 22}, {64, math.MaxInt, 4, 22},
	} {
		if code := user.Fill(s, c.a, c.n, c.c); code != c.code {
			t.Errorf("Fill(%d, %d, %d): %d, not %d", c.a, c.n, c.c, code, c.code)
		}
	}
	one := strings.Repeat("\x01", 128)
	want := one[:6] + "\xff\x00" + one[:54] + "\x09\x09\x09\x09" + one[:61] + "\x03"
	if b, _ := s.Read(64, 128); string(b) != want {
		t.Errorf("what is there: %q, not %q", b, want)
	}
}

func TestP17_2_FillOfAnyCount(t *testing.T) {
	p := twice(t, whole)
	for _, n := range wild() {
		for _, a := range []uint32{0, 1, 4095, 4096, 1<<32 - 1} {
			p.fill(0, a, n, 1, 22)
		}
	}
	for i, n := range []int{0, 1, 2, 63, 64, 65, 4094, 4095, 4096} {
		for _, c := range []byte{0, 1, 127, 128, 255, byte(i)} {
			p.fill(0, 0, n, c, 0)
			p.fill(0, 4096-uint32(n), n, c+1, 0)
			if n > 0 {
				p.fill(0, 4097-uint32(n), n, c+2, 14)
			}
		}
	}
}

func TestP17_2_FillOfEachKindOfPage(t *testing.T) {
	for _, free := range []int{0, 1, 2, 10} {
		p := mixedTwice(t, free)
		for i, a := range few() {
			for _, n := range []int{-1, 0, 1, 64, 129, 4096, 4097} {
				p.fill(0, a, n, byte(i), anyCode)
				p.fill(1, a, n, byte(i+1), anyCode)
			}
		}
	}
	p := mixedTwice(t, 1)
	p.fill(0, 7*64-1, 2, 1, 12)
	p.fill(0, 7*64-1, 1, 1, 0)
	p.fill(0, 7*64-1, 2, 1, 12)
	p.fill(0, 7*64-1, 66, 1, 14)
	p.fill(1, 7*64, 0, 1, 0)
}

func TestP17_2_NoSpace(t *testing.T) {
	for _, s := range none() {
		for _, a := range []uint32{0, 1, 64, 4095, 4096, 1<<32 - 1} {
			for _, n := range []int{1, 2, 4095, 4096} {
				if l, code := user.Text(s, a, n); l != "" || code != 14 {
					t.Errorf("Text(%d, %d): %q, %d", a, n, l, code)
				}
				if code := user.PutText(s, a, string(some(n-1, 0))); code != 14 {
					t.Errorf("PutText(%d, %d bytes): %d", a, n-1, code)
				}
				if code := user.Fill(s, a, n, 1); code != 14 {
					t.Errorf("Fill(%d, %d): %d", a, n, code)
				}
			}
			if code := user.Fill(s, a, 0, 1); code != 14 {
				t.Errorf("Fill(%d, 0): %d", a, code)
			}
			for _, n := range wild() {
				l, code := user.Text(s, a, n)
				if filled := user.Fill(s, a, n, 1); l != "" || code != 22 || filled != 22 {
					t.Errorf("Text and Fill(%d, %d): %q, %d, %d", a, n, l, code, filled)
				}
			}
			for _, l := range []string{"\x00", "a\x00", string(some(4096, 0))} {
				if code := user.PutText(s, a, l); code != 22 {
					t.Errorf("PutText(%d, %q): %d", a, l, code)
				}
			}
		}
	}
}

// alikes holds Alike and First of two spaces, both ways round, against a page.
func alikes(t *testing.T, what string, s, o *space.Space, first int) {
	t.Helper()
	if n := user.First(s, o); n != first {
		t.Errorf("%s: First %d, not %d", what, n, first)
	}
	if n := user.First(o, s); n != first {
		t.Errorf("%s, the other way round: First %d, not %d", what, n, first)
	}
	if user.Alike(s, o) != (first == -1) || user.Alike(o, s) != (first == -1) {
		t.Errorf("%s: Alike %v, %v", what, user.Alike(s, o), user.Alike(o, s))
	}
}

// oneMapped are worlds of two spaces with a page each, as they are told; each is over a memory by itself.
func oneMapped(t *testing.T, page int, write, shared bool, b []byte) *space.Space {
	t.Helper()
	w := over(t, 2, 1)
	w.page(0, page, write, shared, b)
	return w.spaces[0]
}

func TestP17_3_AlikeByMapping(t *testing.T) {
	empty := over(t, 1, 2)
	alikes(t, "no pages", empty.spaces[0], empty.spaces[1], -1)
	alikes(t, "no pages, and itself", empty.spaces[0], empty.spaces[0], -1)
	for page := range 64 {
		s := oneMapped(t, page, true, false, nil)
		alikes(t, "a page and none", s, empty.spaces[0], page)
		alikes(t, "a page and itself", s, s, -1)
		alikes(t, "a page twice", s, oneMapped(t, page, true, false, nil), -1)
		if page > 0 {
			alikes(t, "another page", s, oneMapped(t, page-1, true, false, nil), page-1)
			alikes(t, "page 0", s, oneMapped(t, 0, true, false, nil), 0)
		}
	}
}

func TestP17_3_AlikeByWriteAndShared(t *testing.T) {
	kinds := [][2]bool{{false, false}, {true, false}, {false, true}, {true, true}}
	for _, page := range []int{0, 1, 7, 8, 31, 62, 63} {
		for _, x := range kinds {
			for _, y := range kinds {
				first := page
				if x == y {
					first = -1
				}
				b := some(64, page)
				alikes(t, "Write and Shared", oneMapped(t, page, x[0], x[1], b), oneMapped(t, page, y[0], y[1], b), first)
			}
		}
	}
}

func TestP17_3_AlikeByBytes(t *testing.T) {
	for _, page := range []int{0, 5, 63} {
		b := some(64, page)
		s := oneMapped(t, page, true, false, b)
		for i := range b {
			for _, by := range []byte{1, 128, b[i]} {
				c := slices.Clone(b)
				c[i] ^= by
				alikes(t, "one byte", s, oneMapped(t, page, true, false, c), page)
			}
		}
		swapped := slices.Clone(b)
		swapped[3], swapped[4] = swapped[4], swapped[3]
		alikes(t, "the same sum", s, oneMapped(t, page, true, false, swapped), page)
	}
}

func TestP17_3_FirstOfSeveral(t *testing.T) {
	for _, pages := range [][]int{{0, 63}, {1, 2, 3}, {9, 40}, {30, 31, 62}, {63}} {
		s, o := whole(t), whole(t)
		for _, page := range slices.Backward(pages) {
			o.spaces[0].SetByte(uint32(page*64+page), 0)
			alikes(t, "bytes", s.spaces[0], o.spaces[0], page)
		}
		s, o = whole(t), whole(t)
		for _, page := range slices.Backward(pages) {
			o.spaces[0].Unmap(page, 1)
			alikes(t, "mapping", s.spaces[0], o.spaces[0], page)
		}
		s, o = whole(t), whole(t)
		for _, page := range slices.Backward(pages) {
			o.spaces[0].Unmap(page, 1)
			o.page(0, page, true, true, s.spaces[0].Page(page))
			alikes(t, "Shared", s.spaces[0], o.spaces[0], page)
		}
	}
	s, o := whole(t).spaces[0], whole(t).spaces[0]
	s.Unmap(50, 1)
	o.SetByte(40*64, 0)
	alikes(t, "a byte ahead of a page", s, o, 40)
	o.Unmap(60, 2)
	alikes(t, "a page behind", s, o, 40)
	s.Unmap(3, 1)
	alikes(t, "a page ahead", s, o, 3)
}

func TestP17_3_FramesCowAndDirtyMakeNoDifference(t *testing.T) {
	w := over(t, 8, 4)
	k, _ := w.frames.Take()
	other, _ := w.frames.Double(k)
	for i, x := range []api.Entry{
		{Frame: k, Write: true}, {Frame: other, Write: true, Cow: true},
		{Frame: k, Write: true, Dirty: true}, {Frame: other, Write: true, Cow: true, Dirty: true},
	} {
		if code := w.spaces[i].Attach(9, x); code != 0 {
			t.Fatal(code)
		}
	}
	for _, s := range w.spaces {
		for _, o := range w.spaces {
			alikes(t, "Cow, Dirty and frames", s, o, -1)
		}
	}
	w.spaces[1].SetByte(9*64, 0)
	alikes(t, "the same byte written", w.spaces[0], w.spaces[1], -1)
	w.spaces[1].SetByte(9*64, 4)
	alikes(t, "another one", w.spaces[0], w.spaces[1], 9)
	w.spaces[0].SetByte(9*64, 4)
	alikes(t, "that one in both", w.spaces[0], w.spaces[1], -1)
}

func TestP17_3_AlikeOfClones(t *testing.T) {
	w := mixed(t, 9)
	s := w.spaces[0]
	c := s.Clone()
	alikes(t, "its clone", s, c, -1)
	alikes(t, "its clone's clone", s, c.Clone(), -1)
	c.SetByte(3*64, 0)
	alikes(t, "a Shared page is written", s, c, -1)
	was, _ := c.Byte(7 * 64)
	c.SetByte(7*64, was)
	alikes(t, "a Cow page is written, the same", s, c, -1)
	c.SetByte(7*64, was+1)
	alikes(t, "a Cow page is written", s, c, 7)
	s.SetByte(0, 0)
	alikes(t, "here, too", s, c, 0)
	c.SetByte(0, 0)
	alikes(t, "there, too", s, c, 7)
	s.SetByte(7*64, was+1)
	alikes(t, "both the same", s, c, -1)
	c.Clean()
	alikes(t, "cleaned", s, c, -1)
	c.Drop()
	alikes(t, "dropped", s, c, 0)
}

func TestP17_3_AlikeOfNone(t *testing.T) {
	empty := over(t, 1, 1).spaces[0]
	s := oneMapped(t, 17, true, false, nil)
	for _, n := range none() {
		for _, m := range none() {
			alikes(t, "none and none", n, m, -1)
		}
		alikes(t, "none and no pages", n, empty, -1)
		alikes(t, "none and a page", n, s, 17)
	}
}

func TestP17_3_AlikeTurnsNothing(t *testing.T) {
	w := mixed(t, 0)
	before, free := w.states(), w.frames.Free()
	for _, s := range w.spaces {
		for _, o := range w.spaces {
			user.Alike(s, o)
			user.First(s, o)
			user.Sum(o)
		}
	}
	if !slices.Equal(w.states(), before) || w.frames.Free() != free {
		t.Error("something is turned")
	}
}

func TestP17_3_SumByHand(t *testing.T) {
	w := over(t, 16, 1)
	s := w.spaces[0]
	if l := user.Sum(s); len(l) != 0 {
		t.Errorf("no pages: %q", l)
	}
	full := []byte(strings.Repeat("\xff", 64))
	w.page(0, 63, true, false, full)
	w.page(0, 9, false, false, nil)
	w.page(0, 10, false, false, full)
	w.page(0, 2, true, true, []byte{1, 2, 3})
	w.page(0, 40, false, true, append(make([]byte, 63), 7))
	w.page(0, 0, true, false, nil)
	w.page(0, 41, true, true, full)
	w.page(0, 42, false, true, full)
	w.page(0, 11, true, false, []byte{200, 100})
	want := []string{"0 w 0", "2 ws 6", "9 r 0", "10 r 16320", "11 w 300", "40 rs 7", "41 ws 16320", "42 rs 16320", "63 w 16320"}
	if l := user.Sum(s); !slices.Equal(l, want) {
		t.Errorf("%q, not %q", l, want)
	}
	s.Unmap(10, 1)
	s.SetByte(700, 0)
	if l := user.Sum(s); !slices.Equal(l, []string{"0 w 0", "2 ws 6", "9 r 0", "11 w 300", "40 rs 7", "41 ws 16320", "42 rs 16320", "63 w 16320"}) {
		t.Errorf("one page is gone: %q", l)
	}
	if l := user.Sum(s.Clone()); !slices.Equal(l, user.Sum(s)) {
		t.Errorf("its clone's: %q", l)
	}
	s.Drop()
	if l := user.Sum(s); len(l) != 0 {
		t.Errorf("dropped: %q", l)
	}
}

// sum is Sum, as the words say it.
func (x *state) sum() []string {
	var l []string
	for page := range 64 {
		if !x.mapped[page] {
			continue
		}
		kind := map[[2]bool]string{{false, false}: "r", {true, false}: "w", {false, true}: "rs", {true, true}: "ws"}[[2]bool{x.entries[page].Write, x.entries[page].Shared}]
		n := 0
		for i := range 64 {
			n += int(x.bytes[page*64+i])
		}
		l = append(l, strings.Join([]string{strconv.Itoa(page), kind, strconv.Itoa(n)}, " "))
	}
	return l
}

// alike is Alike, as the words say it.
func (x *state) alike(y *state, page int) bool {
	if x.mapped[page] != y.mapped[page] {
		return false
	}
	u, v := x.entries[page], y.entries[page]
	return u.Write == v.Write && u.Shared == v.Shared && slices.Equal(x.bytes[page*64:page*64+64], y.bytes[page*64:page*64+64])
}

func (x *state) first(y *state) int {
	for page := range 64 {
		if !x.alike(y, page) {
			return page
		}
	}
	return -1
}

func TestP17_3_SumOfEachByte(t *testing.T) {
	w := over(t, 4, 1)
	w.spaces[0].Map(20, 1, true, false)
	for i := range uint32(64) {
		w.spaces[0].SetByte(20*64+i, byte(1+3*i))
		x := w.state(0)
		if l := user.Sum(w.spaces[0]); !slices.Equal(l, x.sum()) {
			t.Errorf("%q, not %q", l, x.sum())
		}
	}
	all := whole(t)
	x := all.state(0)
	if l := user.Sum(all.spaces[0]); len(l) != 64 || !slices.Equal(l, x.sum()) {
		t.Errorf("%q, not %q", l, x.sum())
	}
}

func TestP17_3_SumOfNone(t *testing.T) {
	for _, s := range none() {
		if l := user.Sum(s); len(l) != 0 {
			t.Errorf("%q", l)
		}
	}
}

func TestP17_4_WhatIsAnsweredIsNew(t *testing.T) {
	w := whole(t)
	s := w.spaces[0]
	before := w.state(0)
	l, _ := user.Words(s, 0, 1024)
	again, _ := user.Words(s, 0, 1024)
	clear(l)
	lines, sums := user.Sum(s), user.Sum(s)
	clear(lines)
	if w.state(0) != before || !slices.Equal(again, wordsOf(1024, 0)) || !slices.Equal(sums, before.sum()) {
		t.Error("what is answered is somebody else's, too")
	}
	s.SetByte(99, 0)
	text, _ := user.Text(s, 0, 4096)
	s.SetByte(5, 77)
	if text != string(some(99, 0)) {
		t.Errorf("a text is turned: %q", text)
	}
}

func TestP17_4_WordsHandedInAreOnlyRead(t *testing.T) {
	p := mixedTwice(t, 1)
	l := make([]uint32, 33, 40)
	copy(l, wordsOf(33, 3))
	behind := l[:40]
	for _, a := range []uint32{0, 1, 64, 128, 6 * 64, 63 * 64, 4096} {
		p.putWords(0, a, l, anyCode)
	}
	if slices.Max(behind[33:]) != 0 {
		t.Error("what lies behind the words is turned")
	}
	code := user.PutWords(p.w.spaces[0], 0, l[:2])
	clear(l)
	if told, _ := user.Words(p.w.spaces[0], 0, 2); code != 0 || !slices.Equal(told, wordsOf(2, 3)) {
		t.Errorf("words are kept: %d, %v", code, told)
	}
}

// do does one call, whichever.
func (p pair) do(r *rand.Rand) {
	p.w.t.Helper()
	s := r.Intn(len(p.w.spaces))
	a := uint32(r.Intn(600))
	if r.Intn(6) == 0 {
		a = uint32(3900 + r.Intn(300))
	}
	n := r.Intn(150)
	switch r.Intn(12) {
	case 0, 1:
		p.w.words(s, a, n/4-1)
	case 2, 3:
		p.putWords(s, a, wordsOf(n/4, n), anyCode)
	case 4:
		p.w.text(s, a, n-1)
	case 5:
		b := some(n, n)
		if n > 0 && r.Intn(6) == 0 {
			b[r.Intn(n)] = 0
		}
		p.putText(s, a, string(b), anyCode)
	case 6:
		p.fill(s, a, n-1, byte(r.Intn(3)), anyCode)
	case 7:
		page, many, write, shared := r.Intn(10), 1+r.Intn(2), r.Intn(4) > 0, r.Intn(3) == 0
		p.w.spaces[s].Map(page, many, write, shared)
		p.plain.spaces[s].Map(page, many, write, shared)
	case 8:
		page := r.Intn(10)
		p.w.spaces[s].Unmap(page, 1)
		p.plain.spaces[s].Unmap(page, 1)
	case 9:
		if len(p.w.spaces) < 4 {
			p.w.spaces = append(p.w.spaces, p.w.spaces[s].Clone())
			p.plain.spaces = append(p.plain.spaces, p.plain.spaces[s].Clone())
			alikes(p.w.t, "a clone", p.w.spaces[s], p.w.spaces[len(p.w.spaces)-1], -1)
		}
	default:
		o := r.Intn(len(p.w.spaces))
		x, y := p.w.state(s), p.w.state(o)
		alikes(p.w.t, "any two", p.w.spaces[s], p.w.spaces[o], x.first(&y))
		if l := user.Sum(p.w.spaces[s]); !slices.Equal(l, x.sum()) {
			p.w.t.Fatalf("Sum: %q, not %q", l, x.sum())
		}
	}
}

func TestP17_5_AnyCalls(t *testing.T) {
	for seed := range 30 {
		r := rand.New(rand.NewSource(int64(seed)))
		p := mixedTwice(t, seed%12)
		for range 300 {
			p.do(r)
		}
	}
}

// Of a text, and of words, that are put one into the other, the one that was put last is told.
func TestP17_5_WhatWasPutLast(t *testing.T) {
	w := over(t, 4, 1)
	s := w.spaces[0]
	s.Map(0, 2, true, false)
	if user.PutText(s, 60, "carryall") != 0 || user.PutWords(s, 64, []uint32{0x64656e65}) != 0 {
		t.Fatal("refused")
	}
	if l, code := user.Text(s, 60, 9); l != "carrened" || code != 0 {
		t.Errorf("%q, %d", l, code)
	}
	if user.PutText(s, 61, "") != 0 {
		t.Fatal("refused")
	}
	l, code := user.Text(s, 60, 9)
	n, again := user.Words(s, 60, 2)
	if l != "c" || code != 0 || again != 0 || !slices.Equal(n, []uint32{0x72720063, 0x64656e65}) {
		t.Errorf("%q, %d, %x, %d", l, code, n, again)
	}
}

func TestExamplesOfLayer17(t *testing.T) {
	w := over(t, 4, 1)
	s := w.spaces[0]
	if code := s.Map(0, 1, true, false); code != 0 {
		t.Fatal(code)
	}
	if code := user.PutText(s, 60, "ab"); code != 0 {
		t.Error(code)
	}
	if code := user.PutText(s, 62, "ab"); code != api.EFAULT {
		t.Error(code)
	}
	if l, code := user.Text(s, 60, 9); l != "ab" || code != 0 {
		t.Error(l, code)
	}
	if l, code := user.Text(s, 60, 2); l != "" || code != api.EINVAL {
		t.Error(l, code)
	}
	if code := user.PutWords(s, 1, []uint32{258, 1}); code != 0 {
		t.Error(code)
	}
	if l, code := user.Words(s, 1, 2); !slices.Equal(l, []uint32{258, 1}) || code != 0 {
		t.Error(l, code)
	}
	if l, code := user.Words(s, 0, 1); !slices.Equal(l, []uint32{66048}) || code != 0 {
		t.Error(l, code)
	}
	if l := user.Sum(s); !slices.Equal(l, []string{"0 w 199"}) {
		t.Error(l)
	}
}
