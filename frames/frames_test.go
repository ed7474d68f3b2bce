package frames

import (
	"bytes"
	"math"
	"math/rand"
	"slices"
	"testing"

	"carryall/api"
)

// memory is one of n frames, of which some are taken.
func memory(t *testing.T, n, taken int) *Frames {
	t.Helper()
	f, e := New(n)
	if e != api.OK {
		t.Fatalf("New(%d): %v", n, e)
	}
	for want := range taken {
		takes(t, f, want)
	}
	return f
}

func takes(t *testing.T, f *Frames, want int) {
	t.Helper()
	if k, e := f.Take(); k != want || e != api.OK {
		t.Fatalf("Take: %d %v, not %d", k, e, want)
	}
}

func shares(t *testing.T, f *Frames, k int) {
	t.Helper()
	if e := f.Share(k); e != api.OK {
		t.Fatalf("Share(%d): %v", k, e)
	}
}

func drops(t *testing.T, f *Frames, k, want int) {
	t.Helper()
	if n, e := f.Drop(k); n != want || e != api.OK {
		t.Fatalf("Drop(%d): %d %v, not %d", k, n, e, want)
	}
}

func writes(t *testing.T, f *Frames, k, off int, b []byte) {
	t.Helper()
	if e := f.Write(k, off, b); e != api.OK {
		t.Fatalf("Write(%d, %d, %v): %v", k, off, b, e)
	}
}

func reads(t *testing.T, f *Frames, k, off int, want []byte) {
	t.Helper()
	if b, e := f.Read(k, off, len(want)); !bytes.Equal(b, want) || e != api.OK {
		t.Fatalf("Read(%d, %d, %d): %v %v, not %v", k, off, len(want), b, e, want)
	}
}

// page is a frame's content, another one of each seed, without noughts.
func page(seed int) []byte {
	b := make([]byte, api.PageSize)
	for i := range b {
		b[i] = byte(1 + (seed*37+i*3)%255)
	}
	return b
}

func noughts() []byte {
	return make([]byte, api.PageSize)
}

// counts holds all that is counted against the counts that there have to be.
func counts(t *testing.T, f *Frames, want []int) {
	t.Helper()
	var used []int
	for k, n := range want {
		if f.Refs(k) != n {
			t.Fatalf("Refs(%d): %d, not %d", k, f.Refs(k), n)
		}
		if n > 0 {
			used = append(used, k)
		}
	}
	if f.Len() != len(want) || f.Free() != len(want)-len(used) || !slices.Equal(f.Used(), used) {
		t.Fatalf("Len %d, Free %d, Used %v of counts %v", f.Len(), f.Free(), f.Used(), want)
	}
}

// others are numbers of no frames of a memory of n.
func others(n int) []int {
	return []int{-1, n, n + 1, api.MaxFrame + 1, -n, math.MaxInt, math.MinInt}
}

// unmade are those that New did not make, and none.
func unmade() []*Frames {
	var zero Frames
	return []*Frames{nil, &zero, new(Frames), {}}
}

func TestP4_1_New(t *testing.T) {
	for _, n := range []int{1, 2, 3, 64, 100, api.MaxFrame - 1, api.MaxFrame} {
		f := memory(t, n, 0)
		counts(t, f, make([]int, n))
		for k := range n {
			takes(t, f, k)
			reads(t, f, k, 0, noughts())
		}
	}
}

func TestP4_1_NewOfNone(t *testing.T) {
	for _, n := range []int{0, -1, -2, -api.MaxFrame, api.MaxFrame + 1, 2 * api.MaxFrame, math.MaxInt, math.MinInt} {
		if f, e := New(n); f != nil || e != api.ErrArg {
			t.Errorf("New(%d): %v %v", n, f, e)
		}
	}
}

func TestP4_1_Counts(t *testing.T) {
	f := memory(t, 5, 4)
	counts(t, f, []int{1, 1, 1, 1, 0})
	shares(t, f, 3)
	shares(t, f, 3)
	shares(t, f, 0)
	drops(t, f, 1, 0)
	counts(t, f, []int{2, 0, 1, 3, 0})
	for _, k := range others(5) {
		if n := f.Refs(k); n != 0 {
			t.Errorf("Refs(%d): %d", k, n)
		}
	}
}

func TestP4_1_UsedIsLeftEarly(t *testing.T) {
	f := memory(t, 4, 4)
	drops(t, f, 0, 0)
	for k := range f.used() {
		if k != 1 {
			t.Fatalf("the first one used: %d", k)
		}
		break
	}
}

func TestP4_1_TwoMemoriesAreApart(t *testing.T) {
	f, g := memory(t, 3, 2), memory(t, 3, 1)
	writes(t, f, 0, 0, page(1))
	shares(t, f, 0)
	counts(t, f, []int{2, 1, 0})
	counts(t, g, []int{1, 0, 0})
	reads(t, g, 0, 0, noughts())
}

func TestP4_1_Copy(t *testing.T) {
	f := memory(t, 4, 3)
	writes(t, f, 0, 0, page(1))
	writes(t, f, 2, 0, page(2))
	shares(t, f, 2)
	drops(t, f, 1, 0)
	g := f.Copy()
	for _, x := range []*Frames{f, g} {
		counts(t, x, []int{1, 0, 2, 0})
		reads(t, x, 0, 0, page(1))
		reads(t, x, 2, 0, page(2))
	}
}

func TestP4_1_CopiesAreApart(t *testing.T) {
	for _, turned := range []int{0, 1} {
		f := memory(t, 4, 2)
		writes(t, f, 0, 0, page(1))
		writes(t, f, 1, 0, page(2))
		pair := []*Frames{f, f.Copy()}
		one, other := pair[turned], pair[1-turned]
		writes(t, one, 0, 10, []byte("turned"))
		shares(t, one, 0)
		drops(t, one, 1, 0)
		takes(t, one, 1)
		takes(t, one, 2)
		counts(t, one, []int{2, 1, 1, 0})
		counts(t, other, []int{1, 1, 0, 0})
		reads(t, other, 0, 0, page(1))
		reads(t, other, 1, 0, page(2))
		takes(t, other, 2)
		counts(t, one, []int{2, 1, 1, 0})
	}
}

func TestP4_1_CopiesOfGreatAndSmall(t *testing.T) {
	for _, n := range []int{1, api.MaxFrame} {
		f := memory(t, n, n)
		writes(t, f, n-1, 0, page(n))
		g := f.Copy().Copy()
		drops(t, f, n-1, 0)
		reads(t, g, n-1, 0, page(n))
		if k, e := g.Take(); k != 0 || e != api.ErrFrames {
			t.Errorf("Take of a copy of %d: %d %v", n, k, e)
		}
	}
}

func TestP4_2_TakeTakesTheLeast(t *testing.T) {
	f := memory(t, 5, 5)
	if k, e := f.Take(); k != 0 || e != api.ErrFrames {
		t.Fatalf("Take, full: %d %v", k, e)
	}
	for _, k := range []int{3, 1, 4} {
		drops(t, f, k, 0)
	}
	for _, k := range []int{1, 3, 4} {
		takes(t, f, k)
		if f.Refs(k) != 1 {
			t.Errorf("Refs(%d) of one taken: %d", k, f.Refs(k))
		}
	}
	if k, e := f.Take(); k != 0 || e != api.ErrFrames {
		t.Fatalf("Take, full again: %d %v", k, e)
	}
	counts(t, f, []int{1, 1, 1, 1, 1})
}

func TestP4_2_TakeOfAll(t *testing.T) {
	for _, n := range []int{1, 2, api.MaxFrame} {
		f := memory(t, n, n)
		if k, e := f.Take(); k != 0 || e != api.ErrFrames {
			t.Errorf("Take of %d, full: %d %v", n, k, e)
		}
		drops(t, f, n-1, 0)
		takes(t, f, n-1)
	}
}

func TestP4_2_ShareAndDrop(t *testing.T) {
	f := memory(t, 3, 3)
	const often = 1000
	for range often {
		shares(t, f, 2)
	}
	counts(t, f, []int{1, 1, often + 1})
	for n := often; n >= 0; n-- {
		drops(t, f, 2, n)
	}
	counts(t, f, []int{1, 1, 0})
}

func TestP4_2_DropKeepsBytesTillTheLast(t *testing.T) {
	f := memory(t, 2, 2)
	writes(t, f, 0, 0, page(1))
	writes(t, f, 1, 0, page(2))
	shares(t, f, 0)
	drops(t, f, 0, 1)
	reads(t, f, 0, 0, page(1))
	drops(t, f, 0, 0)
	reads(t, f, 1, 0, page(2))
	takes(t, f, 0)
	reads(t, f, 0, 0, noughts())
}

func TestP4_2_Double(t *testing.T) {
	f := memory(t, 4, 3)
	writes(t, f, 2, 0, page(1))
	shares(t, f, 2)
	drops(t, f, 0, 0)
	for _, want := range []int{0, 3} {
		if k, e := f.Double(2); k != want || e != api.OK {
			t.Fatalf("Double(2): %d %v, not %d", k, e, want)
		}
		reads(t, f, want, 0, page(1))
	}
	counts(t, f, []int{1, 1, 2, 1})
	if k, e := f.Double(2); k != 0 || e != api.ErrFrames {
		t.Errorf("Double(2), full: %d %v", k, e)
	}
	counts(t, f, []int{1, 1, 2, 1})
}

func TestP4_2_DoublesAreApart(t *testing.T) {
	f := memory(t, 2, 1)
	writes(t, f, 0, 0, page(1))
	if k, e := f.Double(0); k != 1 || e != api.OK {
		t.Fatalf("Double(0): %d %v", k, e)
	}
	writes(t, f, 0, 0, page(2))
	reads(t, f, 1, 0, page(1))
	writes(t, f, 1, 0, page(3))
	reads(t, f, 0, 0, page(2))
	drops(t, f, 1, 0)
	reads(t, f, 0, 0, page(2))
}

// refused holds every call on a frame against the error that there has to be.
func refused(t *testing.T, f *Frames, k int, want api.Errno) {
	t.Helper()
	if e := f.Share(k); e != want {
		t.Errorf("Share(%d): %v, not %v", k, e, want)
	}
	if n, e := f.Drop(k); n != 0 || e != want {
		t.Errorf("Drop(%d): %d %v, not %v", k, n, e, want)
	}
	if n, e := f.Double(k); n != 0 || e != want {
		t.Errorf("Double(%d): %d %v, not %v", k, n, e, want)
	}
	for _, off := range []int{0, api.PageSize, api.PageSize + 1, -1, math.MaxInt, math.MinInt} {
		for _, n := range []int{0, 1, api.PageSize, -1, math.MaxInt, math.MinInt} {
			if b, e := f.Read(k, off, n); len(b) != 0 || e != want {
				t.Errorf("Read(%d, %d, %d): %v %v, not %v", k, off, n, b, e, want)
			}
		}
		for _, b := range [][]byte{nil, {}, {1}, page(9), append(page(9), 1)} {
			if e := f.Write(k, off, b); e != want {
				t.Errorf("Write(%d, %d) of %d bytes: %v, not %v", k, off, len(b), e, want)
			}
		}
	}
}

func TestP4_2_FramesThatAreNone(t *testing.T) {
	for _, n := range []int{1, 2, api.MaxFrame} {
		for _, taken := range []int{0, n - 1, n} {
			f := memory(t, n, taken)
			for _, k := range others(n) {
				refused(t, f, k, api.ErrFrame)
			}
			if f.Free() != n-taken {
				t.Errorf("of %d with %d taken, free: %d", n, taken, f.Free())
			}
		}
	}
}

func TestP4_2_FramesThatAreFree(t *testing.T) {
	f := memory(t, 4, 3)
	writes(t, f, 1, 0, page(1))
	drops(t, f, 1, 0)
	refused(t, f, 1, api.ErrFrame)
	refused(t, f, 3, api.ErrFrame)
	counts(t, f, []int{1, 0, 1, 0})
	takes(t, f, 1)
	reads(t, f, 1, 0, noughts())
}

func TestP4_2_DoubleOfNoneWhileNoneIsFree(t *testing.T) {
	f := memory(t, 3, 3)
	for _, k := range others(3) {
		if n, e := f.Double(k); n != 0 || e != api.ErrFrame {
			t.Errorf("Double(%d), full: %d %v", k, n, e)
		}
	}
	drops(t, f, 1, 0)
	if n, e := f.Double(1); n != 0 || e != api.ErrFrame {
		t.Errorf("Double of a free one: %d %v", n, e)
	}
}

// Every stretch of a page, and those that go beyond, is written and read.
func TestP4_3_AllStretches(t *testing.T) {
	f := memory(t, 3, 3)
	writes(t, f, 0, 0, page(7))
	writes(t, f, 2, 0, page(8))
	for off := -2; off <= api.PageSize+2; off++ {
		for n := range api.PageSize + 3 {
			stretch(t, f, off, page(off + n + 5)[:min(n, api.PageSize)], n)
		}
	}
	reads(t, f, 0, 0, page(7))
	reads(t, f, 2, 0, page(8))
}

// stretch writes n bytes into frame 1, b and as many noughts as are wanting, and reads them.
func stretch(t *testing.T, f *Frames, off int, b []byte, n int) {
	t.Helper()
	writes(t, f, 1, 0, page(6))
	want, e := page(6), api.OK
	b = append(slices.Clone(b), make([]byte, n-len(b))...)
	if off < 0 || off+n > api.PageSize {
		e = api.ErrArg
	} else {
		copy(want[off:], b)
	}
	if got := f.Write(1, off, b); got != e {
		t.Fatalf("Write(1, %d) of %d bytes: %v, not %v", off, n, got, e)
	}
	reads(t, f, 1, 0, want)
	if e == api.OK {
		reads(t, f, 1, off, b)
		return
	}
	if got, e := f.Read(1, off, n); len(got) != 0 || e != api.ErrArg {
		t.Fatalf("Read(1, %d, %d): %v %v", off, n, got, e)
	}
}

func TestP4_3_EndsOfAPage(t *testing.T) {
	f := memory(t, 1, 1)
	writes(t, f, 0, 0, []byte("ab"))
	writes(t, f, 0, api.PageSize-2, []byte("yz"))
	want := append(append([]byte("ab"), make([]byte, api.PageSize-4)...), "yz"...)
	reads(t, f, 0, 0, want)
	reads(t, f, 0, api.PageSize-1, []byte("z"))
	for _, off := range []int{0, 1, api.PageSize - 1, api.PageSize} {
		for _, none := range [][]byte{nil, {}} {
			writes(t, f, 0, off, none)
			reads(t, f, 0, off, none)
		}
	}
	reads(t, f, 0, 0, want)
}

func TestP4_3_FarNumbers(t *testing.T) {
	f := memory(t, 1, 1)
	writes(t, f, 0, 0, page(1))
	far := []int{-1, math.MinInt, math.MinInt + 1, math.MaxInt, math.MaxInt - 1, math.MaxInt - api.PageSize, api.PageSize + 1}
	for _, off := range far {
		for _, n := range append(far, 0, 1, api.PageSize) {
			if b, e := f.Read(0, off, n); len(b) != 0 || e != api.ErrArg {
				t.Errorf("Read(0, %d, %d): %v %v", off, n, b, e)
			}
		}
		for _, b := range [][]byte{nil, {}, {1}, page(2)} {
			if e := f.Write(0, off, b); e != api.ErrArg {
				t.Errorf("Write(0, %d) of %d bytes: %v", off, len(b), e)
			}
		}
	}
	for _, n := range far {
		for _, off := range []int{0, 1, api.PageSize} {
			if b, e := f.Read(0, off, n); len(b) != 0 || e != api.ErrArg {
				t.Errorf("Read(0, %d, %d): %v %v", off, n, b, e)
			}
		}
	}
	reads(t, f, 0, 0, page(1))
}

func TestP4_3_UnmadeOnes(t *testing.T) {
	for i, f := range unmade() {
		for _, k := range []int{0, 1, -1, api.MaxFrame, math.MaxInt, math.MinInt} {
			refused(t, f, k, api.ErrNil)
			if n := f.Refs(k); n != 0 {
				t.Errorf("%d: Refs(%d): %d", i, k, n)
			}
		}
		if k, e := f.Take(); k != 0 || e != api.ErrNil {
			t.Errorf("%d: Take: %d %v", i, k, e)
		}
		if f.Len() != 0 || f.Free() != 0 || len(f.Used()) != 0 || f.Copy() != nil {
			t.Errorf("%d: Len %d, Free %d, Used %v, Copy %v", i, f.Len(), f.Free(), f.Used(), f.Copy())
		}
	}
}

func TestP4_4_WhatIsHandedInIsNotKept(t *testing.T) {
	f := memory(t, 2, 1)
	b := page(1)
	writes(t, f, 0, 0, b)
	if !bytes.Equal(b, page(1)) {
		t.Error("Write turned what was handed in")
	}
	clear(b)
	reads(t, f, 0, 0, page(1))
	b = page(2)
	if e := f.Write(0, 1, b); e != api.ErrArg || !bytes.Equal(b, page(2)) {
		t.Errorf("Write one byte too far: %v", e)
	}
}

func TestP4_4_WhatIsAnsweredIsNew(t *testing.T) {
	f := memory(t, 3, 2)
	writes(t, f, 0, 0, page(1))
	for _, n := range []int{1, 8, api.PageSize} {
		b, _ := f.Read(0, 0, n)
		clear(b)
		_ = append(b, 0, 0, 0)
		reads(t, f, 0, 0, page(1))
	}
	b, _ := f.Read(0, 0, api.PageSize)
	writes(t, f, 0, 0, page(2))
	if !bytes.Equal(b, page(1)) {
		t.Error("Write turned what had been read")
	}
	u := f.Used()
	clear(u)
	_ = append(u[:1], 7)
	counts(t, f, []int{1, 1, 0})
}

func TestP4_5_WithoutATrace(t *testing.T) {
	f := memory(t, 6, 3)
	for k := range 3 {
		writes(t, f, k, 0, page(k))
	}
	for _, often := range []int{0, 1, 7} {
		takes(t, f, 3)
		if k, e := f.Double(1); k != 4 || e != api.OK {
			t.Fatalf("Double(1): %d %v", k, e)
		}
		for _, k := range []int{3, 4} {
			writes(t, f, k, 5, []byte("trace"))
			for range often {
				shares(t, f, k)
			}
			for n := often; n >= 0; n-- {
				drops(t, f, k, n)
			}
		}
		counts(t, f, []int{1, 1, 1, 0, 0, 0})
		for k := range 3 {
			reads(t, f, k, 0, page(k))
		}
	}
}

func TestP4_5_TakenAgain(t *testing.T) {
	f := memory(t, 2, 2)
	for seed := range 5 {
		writes(t, f, 1, 0, page(seed))
		drops(t, f, 1, 0)
		takes(t, f, 1)
		reads(t, f, 1, 0, noughts())
	}
	writes(t, f, 0, 0, page(3))
	drops(t, f, 1, 0)
	if k, e := f.Double(0); k != 1 || e != api.OK {
		t.Fatalf("Double(0): %d %v", k, e)
	}
	drops(t, f, 1, 0)
	takes(t, f, 1)
	reads(t, f, 1, 0, noughts())
}

// plain is a memory as the chapter's words say it: counts, and what is in the frames that have some.
type plain struct {
	counts []int
	bytes  map[int][]byte
}

func (p *plain) least() int {
	return slices.Index(p.counts, 0)
}

func (p *plain) has(k int) bool {
	return k >= 0 && k < len(p.counts) && p.counts[k] > 0
}

func (p *plain) take(b []byte) (int, api.Errno) {
	k := p.least()
	if k < 0 {
		return 0, api.ErrFrames
	}
	p.counts[k], p.bytes[k] = 1, slices.Clone(b)
	return k, api.OK
}

func (p *plain) drop(k int) (int, api.Errno) {
	if !p.has(k) {
		return 0, api.ErrFrame
	}
	p.counts[k]--
	if p.counts[k] == 0 {
		delete(p.bytes, k)
	}
	return p.counts[k], api.OK
}

func (p *plain) share(k int) (int, api.Errno) {
	if !p.has(k) {
		return 0, api.ErrFrame
	}
	p.counts[k]++
	return 0, api.OK
}

func (p *plain) double(k int) (int, api.Errno) {
	if !p.has(k) {
		return 0, api.ErrFrame
	}
	return p.take(p.bytes[k])
}

func (p *plain) write(k, off int, b []byte) (int, api.Errno) {
	switch {
	case !p.has(k):
		return 0, api.ErrFrame
	case off < 0 || off+len(b) > api.PageSize:
		return 0, api.ErrArg
	}
	copy(p.bytes[k][off:], b)
	return 0, api.OK
}

func (p *plain) copied() *plain {
	q := &plain{slices.Clone(p.counts), map[int][]byte{}}
	for k, b := range p.bytes {
		q.bytes[k] = slices.Clone(b)
	}
	return q
}

// agree holds all that a memory tells against what it has to.
func (p *plain) agree(t *testing.T, f *Frames) {
	t.Helper()
	counts(t, f, p.counts)
	if f.Free()+len(f.Used()) != f.Len() {
		t.Fatalf("Free %d, Used %v, Len %d", f.Free(), f.Used(), f.Len())
	}
	for k, b := range p.bytes {
		reads(t, f, k, 0, b)
	}
}

// both does the same to a memory and to what it has to be.
func both(t *testing.T, r *rand.Rand, f *Frames, p *plain) {
	t.Helper()
	k, off, b := r.Intn(f.Len()+2)-1, r.Intn(api.PageSize+3)-1, page(r.Intn(99))[:r.Intn(9)]
	var got, want int
	var e, we api.Errno
	kind := r.Intn(5)
	switch kind {
	case 0:
		got, e = f.Take()
		want, we = p.take(noughts())
	case 1:
		e = f.Share(k)
		want, we = p.share(k)
	case 2:
		got, e = f.Drop(k)
		want, we = p.drop(k)
	case 3:
		got, e = f.Double(k)
		want, we = p.double(k)
	case 4:
		e = f.Write(k, off, b)
		want, we = p.write(k, off, b)
	}
	if got != want || e != we {
		t.Fatalf("kind %d of %d, %d, %v: %d %v, not %d %v", kind, k, off, b, got, e, want, we)
	}
	p.agree(t, f)
}

func TestP4_5_AnyCalls(t *testing.T) {
	for seed, n := range []int{1, 2, 3, 5, 8, 21} {
		r := rand.New(rand.NewSource(int64(seed)))
		f, p := memory(t, n, 0), &plain{make([]int, n), map[int][]byte{}}
		for range 3000 {
			both(t, r, f, p)
			if r.Intn(50) == 0 {
				was := p.copied()
				old := f
				f = f.Copy()
				both(t, r, f, p)
				was.agree(t, old)
			}
		}
	}
}

func TestExamplesOfLayer4(t *testing.T) {
	f := memory(t, 2, 2)
	if k, e := f.Take(); k != 0 || e != api.ErrFrames {
		t.Errorf("Take: %d %v", k, e)
	}
	shares(t, f, 0)
	drops(t, f, 0, 1)
	drops(t, f, 0, 0)
	if n, e := f.Drop(0); n != 0 || e != api.ErrFrame {
		t.Errorf("Drop(0): %d %v", n, e)
	}
	takes(t, f, 0)
	if e := f.Write(1, 62, []byte("abc")); e != api.ErrArg {
		t.Errorf("Write(1, 62, abc): %v", e)
	}
	writes(t, f, 1, 62, []byte("ab"))
	if k, e := f.Double(1); k != 0 || e != api.ErrFrames {
		t.Errorf("Double(1): %d %v", k, e)
	}
}
