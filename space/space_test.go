package space

import (
	"bytes"
	"maps"
	"math"
	"math/rand"
	"slices"
	"testing"

	"carryall/api"
	"carryall/frames"
)

// plain are spaces over one memory, as the chapter's words say them: which pages have which entries, and frames' bytes. Counts are not kept: they are how many pages have a frame, and what the test itself took.
type plain struct {
	frames [][64]byte
	spaces []map[int]api.Entry
	held   []int
}

func (p *plain) copy() *plain {
	q := &plain{frames: slices.Clone(p.frames), held: slices.Clone(p.held)}
	for _, m := range p.spaces {
		q.spaces = append(q.spaces, maps.Clone(m))
	}
	return q
}

func (p *plain) refs(k int) int {
	n := 0
	for _, m := range p.spaces {
		for _, x := range m {
			if x.Frame == k {
				n++
			}
		}
	}
	for _, h := range p.held {
		if h == k {
			n++
		}
	}
	return n
}

func (p *plain) used() []int {
	var l []int
	for k := range p.frames {
		if p.refs(k) > 0 {
			l = append(l, k)
		}
	}
	return l
}

func (p *plain) free() int {
	return len(p.frames) - len(p.used())
}

// take is the least frame that is free; beyond them all, if none is.
func (p *plain) take() int {
	for k := range p.frames {
		if p.refs(k) == 0 {
			p.frames[k] = [64]byte{}
			return k
		}
	}
	p.frames = append(p.frames, [64]byte{})
	return len(p.frames) - 1
}

// all says whether n pages from page on are there, and mapped, or not.
func (p *plain) all(s, page, n int, mapped bool) bool {
	if n < 1 || n > 64 || page < 0 || page > 63 {
		return false
	}
	for k := page; k < page+n; k++ {
		if _, ok := p.spaces[s][k]; ok != mapped || k > 63 {
			return false
		}
	}
	return true
}

func (p *plain) mapping(s, page, n int, write, shared bool) int {
	if !p.all(s, page, n, false) {
		return 22
	}
	if p.free() < n {
		return 12
	}
	for k := page; k < page+n; k++ {
		p.spaces[s][k] = api.Entry{Frame: p.take(), Write: write, Shared: shared, Dirty: true}
	}
	return 0
}

func (p *plain) unmapping(s, page, n int) int {
	if !p.all(s, page, n, true) {
		return 22
	}
	for k := page; k < page+n; k++ {
		delete(p.spaces[s], k)
	}
	return 0
}

func (p *plain) read(s int, addr uint32, n int) ([]byte, int) {
	if n < 0 || n > 4096 {
		return nil, 14
	}
	var b []byte
	for i := range n {
		at := int64(addr) + int64(i)
		x, ok := p.spaces[s][int(at/64)]
		if !ok {
			return nil, 14
		}
		b = append(b, p.frames[x.Frame][at%64])
	}
	return b, 0
}

func (p *plain) write(s int, addr uint32, b []byte) int {
	for i := range b {
		if x, ok := p.spaces[s][int((int64(addr)+int64(i))/64)]; !ok || !x.Write {
			return 14
		}
	}
	q := p.copy()
	for i, v := range b {
		q.put(s, int(addr)+i, v)
	}
	if len(q.frames) > len(p.frames) {
		return 12
	}
	*p = *q
	return 0
}

func (p *plain) put(s, at int, v byte) {
	x := p.spaces[s][at/64]
	if x.Cow && p.refs(x.Frame) > 1 {
		k := p.take()
		p.frames[k] = p.frames[x.Frame]
		x.Frame = k
	}
	x.Cow, x.Dirty = false, true
	p.spaces[s][at/64] = x
	p.frames[x.Frame][at%64] = v
}

func (p *plain) clone(s int) {
	for page, x := range p.spaces[s] {
		if x.Write && !x.Shared {
			x.Cow = true
			p.spaces[s][page] = x
		}
	}
	p.spaces = append(p.spaces, maps.Clone(p.spaces[s]))
}

func (p *plain) attach(s, page int, x api.Entry) int {
	if !p.all(s, page, 1, false) || x.Frame < 0 || x.Frame >= len(p.frames) || x.Shared && x.Cow || p.refs(x.Frame) == 0 {
		return 22
	}
	p.spaces[s][page] = x
	return 0
}

func (p *plain) list(s int) []api.Mapped {
	var l []api.Mapped
	for page := range 64 {
		if x, ok := p.spaces[s][page]; ok {
			l = append(l, api.Mapped{Page: page, Entry: x})
		}
	}
	return l
}

func (p *plain) dirty(s int) []int {
	var l []int
	for _, m := range p.list(s) {
		if m.Entry.Dirty {
			l = append(l, m.Page)
		}
	}
	return l
}

func (p *plain) clean(s int) int {
	dirty := p.dirty(s)
	for _, page := range dirty {
		x := p.spaces[s][page]
		x.Dirty = false
		p.spaces[s][page] = x
	}
	return len(dirty)
}

// both are spaces over one memory, and what they have to be: each call of it is done to both, and held against the code that is told, and all that is seen then.
type both struct {
	t      *testing.T
	frames *frames.Frames
	spaces []*Space
	plain  *plain
}

// anyCode is told where a call's code is the plain one's alone.
const anyCode = -1

// over are n spaces without pages, over one memory.
func over(t *testing.T, size, n int) *both {
	t.Helper()
	f, e := frames.New(size)
	if e != api.OK {
		t.Fatal(e)
	}
	b := &both{t: t, frames: f, plain: &plain{frames: make([][64]byte, size)}}
	for range n {
		b.spaces = append(b.spaces, New(f))
		b.plain.spaces = append(b.plain.spaces, map[int]api.Entry{})
	}
	b.agree()
	return b
}

// agree holds all that is seen of the spaces and of their frames against what it has to be.
func (b *both) agree() {
	b.t.Helper()
	p := b.plain
	if !slices.Equal(b.frames.Used(), p.used()) || b.frames.Free() != p.free() {
		b.t.Fatalf("frames %v, %d free, not %v, %d", b.frames.Used(), b.frames.Free(), p.used(), p.free())
	}
	for _, k := range p.used() {
		if n := b.frames.Refs(k); n != p.refs(k) {
			b.t.Fatalf("frame %d's count is %d, not %d", k, n, p.refs(k))
		}
		if c, e := b.frames.Read(k, 0, 64); e != api.OK || !bytes.Equal(c, p.frames[k][:]) {
			b.t.Fatalf("frame %d: %v %v, not %v", k, c, e, p.frames[k])
		}
	}
	for s, x := range b.spaces {
		if !slices.Equal(x.List(), p.list(s)) || !slices.Equal(x.Dirty(), p.dirty(s)) {
			b.t.Fatalf("space %d: List %v, Dirty %v, not %v", s, x.List(), x.Dirty(), p.list(s))
		}
	}
}

func (b *both) code(what string, got, plain, want int) {
	b.t.Helper()
	if got != plain || want != anyCode && got != want {
		b.t.Fatalf("%s: %d, not %d (plainly %d)", what, got, want, plain)
	}
	b.agree()
}

func (b *both) maps(s, page, n int, write, shared bool, want int) {
	b.t.Helper()
	b.code("Map", b.spaces[s].Map(page, n, write, shared), b.plain.mapping(s, page, n, write, shared), want)
}

func (b *both) unmaps(s, page, n, want int) {
	b.t.Helper()
	b.code("Unmap", b.spaces[s].Unmap(page, n), b.plain.unmapping(s, page, n), want)
}

func (b *both) reads(s int, addr uint32, n, want int) {
	b.t.Helper()
	got, code := b.spaces[s].Read(addr, n)
	plain, pcode := b.plain.read(s, addr, n)
	if !bytes.Equal(got, plain) {
		b.t.Fatalf("Read(%d, %d): %v, not %v", addr, n, got, plain)
	}
	b.code("Read", code, pcode, want)
}

func (b *both) writes(s int, addr uint32, c []byte, want int) {
	b.t.Helper()
	b.code("Write", b.spaces[s].Write(addr, c), b.plain.write(s, addr, c), want)
	if want == 0 {
		b.reads(s, addr, len(c), 0)
	}
}

func (b *both) attaches(s, page int, x api.Entry, want int) {
	b.t.Helper()
	b.code("Attach", b.spaces[s].Attach(page, x), b.plain.attach(s, page, x), want)
}

// clones tells the number of the clone.
func (b *both) clones(s int) int {
	b.t.Helper()
	b.spaces = append(b.spaces, b.spaces[s].Clone())
	b.plain.clone(s)
	b.agree()
	return len(b.spaces) - 1
}

func (b *both) drops(s int) {
	b.t.Helper()
	b.spaces[s].Drop()
	clear(b.plain.spaces[s])
	b.agree()
}

func (b *both) cleans(s, want int) {
	b.t.Helper()
	b.code("Clean", b.spaces[s].Clean(), b.plain.clean(s), want)
}

// takes is a frame that no space has.
func (b *both) takes() int {
	b.t.Helper()
	k, e := b.frames.Take()
	if e != api.OK || k != b.plain.take() {
		b.t.Fatalf("Take: %d %v", k, e)
	}
	b.plain.held = append(b.plain.held, k)
	b.agree()
	return k
}

// gives counts one that was taken less.
func (b *both) gives(k int) {
	b.t.Helper()
	if _, e := b.frames.Drop(k); e != api.OK {
		b.t.Fatal(e)
	}
	at := slices.Index(b.plain.held, k)
	b.plain.held = slices.Delete(b.plain.held, at, at+1)
	b.agree()
}

// count holds a frame's count of a page against what is told.
func (b *both) count(s, page, want int) {
	b.t.Helper()
	k, _ := b.spaces[s].Frame(uint32(page * 64))
	if n := b.frames.Refs(k); n != want {
		b.t.Fatalf("space %d, page %d has frame %d, whose count is %d, not %d", s, page, k, n, want)
	}
}

func (b *both) frame(s, page int) int {
	k, _ := b.spaces[s].Frame(uint32(page * 64))
	return k
}

func (b *both) entry(s, page int) api.Entry {
	return b.plain.spaces[s][page]
}

// some are n bytes, none of them a nought, that follow from one.
func some(n int, from byte) []byte {
	c := make([]byte, n)
	for i := range c {
		c[i] = 1 + (from+byte(i*7))%250
	}
	return c
}

var far = []int{math.MinInt, math.MinInt + 1, math.MinInt + 64, -65, -64, -2, -1, 64, 65, 127, 128, 4096, math.MaxInt - 64, math.MaxInt - 63, math.MaxInt - 1, math.MaxInt}

func TestP6_1_New(t *testing.T) {
	f, _ := frames.New(3)
	s := New(f)
	if s == nil || len(s.List()) != 0 || len(s.Dirty()) != 0 || f.Free() != 3 {
		t.Errorf("New: %v, %d free", s, f.Free())
	}
	if New(f) == s {
		t.Error("New twice is one space")
	}
	if s := New(nil); s != nil {
		t.Errorf("New of none: %v", s)
	}
}

// Frames that nobody made are none that are free: a space over them maps nothing.
func TestP6_1_NewOverFramesThatNobodyMade(t *testing.T) {
	s := New(new(frames.Frames))
	if code := s.Map(0, 1, true, false); code != 12 {
		t.Errorf("Map: %d", code)
	}
	if code := s.Attach(0, api.Entry{}); code != 22 {
		t.Errorf("Attach: %d", code)
	}
	if code := s.Write(0, []byte{1}); code != 14 {
		t.Errorf("Write: %d", code)
	}
	if len(s.List()) != 0 {
		t.Errorf("List: %v", s.List())
	}
}

func TestP6_1_Map(t *testing.T) {
	for k := range 4 {
		write, shared := k&1 != 0, k&2 != 0
		b := over(t, 70, 1)
		b.maps(0, 5, 3, write, shared, 0)
		b.maps(0, 63, 1, write, shared, 0)
		b.maps(0, 0, 5, write, shared, 0)
		b.maps(0, 8, 55, write, shared, 0)
		want := api.Entry{Frame: 1, Write: write, Shared: shared, Dirty: true}
		if l := b.spaces[0].List(); len(l) != 64 || l[6] != (api.Mapped{Page: 6, Entry: want}) {
			t.Errorf("List: %v", l)
		}
		b.reads(0, 0, 4096, 0)
		if c, _ := b.spaces[0].Read(0, 4096); !bytes.Equal(c, make([]byte, 4096)) {
			t.Errorf("no noughts: %v", c)
		}
	}
}

// A frame that was written into, and is free again, has noughts when it is mapped.
func TestP6_1_MapOfAFrameThatWasUsed(t *testing.T) {
	b := over(t, 2, 2)
	b.maps(0, 3, 2, true, false, 0)
	b.writes(0, 192, some(128, 5), 0)
	b.unmaps(0, 3, 2, 0)
	b.maps(1, 60, 2, true, false, 0)
	if c, code := b.spaces[1].Read(60*64, 128); code != 0 || !bytes.Equal(c, make([]byte, 128)) {
		t.Errorf("Read: %v %d", c, code)
	}
}

func TestP6_1_FarStretches(t *testing.T) {
	for _, mapped := range []int{0, 1, 64} {
		b := over(t, 256, 1)
		if mapped > 0 {
			b.maps(0, 0, mapped, true, false, 0)
		}
		for _, page := range append(far, 0, 1, 63) {
			for _, n := range append(far, 0) {
				if n == 64 && page == 0 {
					continue
				}
				b.maps(0, page, n, true, false, 22)
				b.unmaps(0, page, n, 22)
			}
		}
		for _, page := range far {
			for _, n := range []int{1, 2, 64} {
				b.maps(0, page, n, true, false, 22)
				b.unmaps(0, page, n, 22)
			}
		}
	}
}

func TestP6_1_StretchesToTheEnd(t *testing.T) {
	for page := range 64 {
		b := over(t, 256, 1)
		b.maps(0, page, 65-page, true, false, 22)
		b.maps(0, page, 64-page, true, false, 0)
		b.unmaps(0, page, 65-page, 22)
		b.unmaps(0, page, 64-page, 0)
		b.maps(0, page, 1, true, false, 0)
		b.unmaps(0, page, 1, 0)
	}
}

func TestP6_1_OnePageAlone(t *testing.T) {
	for page := 10; page < 20; page++ {
		b := over(t, 256, 1)
		b.maps(0, page, 1, true, false, 0)
		b.maps(0, 10, 10, true, false, 22)
		b.unmaps(0, 10, 10, 22)
		b.maps(0, 10, page-10, true, false, map[bool]int{true: 22, false: 0}[page == 10])
		b.maps(0, page+1, 19-page, true, false, map[bool]int{true: 22, false: 0}[page == 19])
		b.maps(0, page, 1, true, false, 22)
		b.unmaps(0, page, 1, 0)
		b.maps(0, 10, 10, true, false, 22)
		b.unmaps(0, 10, 10, 22)
		b.maps(0, page, 1, true, false, 0)
		b.unmaps(0, 10, 10, 0)
	}
}

func TestP6_1_FramesThatAreFree(t *testing.T) {
	for size := 1; size < 9; size++ {
		b := over(t, size, 2)
		b.maps(0, 0, size+1, true, false, 12)
		b.maps(0, 0, size, true, false, 0)
		b.maps(0, 20, 1, true, false, 12)
		b.maps(1, 0, 1, true, false, 12)
		b.unmaps(0, size-1, 1, 0)
		b.maps(1, 0, 2, true, false, 12)
		b.maps(1, 0, 1, true, false, 0)
	}
}

// What is wrong with the stretch is said ahead of that there are no frames.
func TestP6_1_EinvalFirst(t *testing.T) {
	b := over(t, 1, 1)
	b.maps(0, 0, 1, true, false, 0)
	b.maps(0, 0, 1, true, false, 22)
	b.maps(0, 0, 65, true, false, 22)
	b.maps(0, 63, 2, true, false, 22)
	b.maps(0, 1, 0, true, false, 22)
	b.maps(0, 1, 63, true, false, 12)
}

func TestP6_1_UnmapCountsDown(t *testing.T) {
	b := over(t, 4, 1)
	b.maps(0, 0, 2, true, false, 0)
	b.maps(0, 2, 1, true, true, 0)
	c := b.clones(0)
	b.count(0, 0, 2)
	b.unmaps(0, 0, 3, 0)
	for page := range 3 {
		b.count(c, page, 1)
	}
	b.unmaps(c, 1, 1, 0)
	if b.frames.Free() != 2 {
		t.Errorf("free: %d", b.frames.Free())
	}
	b.unmaps(c, 0, 1, 0)
	b.unmaps(c, 2, 1, 0)
	if b.frames.Free() != 4 {
		t.Errorf("free: %d", b.frames.Free())
	}
}

// whole is a space all of which is mapped, and written.
func whole(t *testing.T) *both {
	t.Helper()
	b := over(t, 64, 1)
	b.maps(0, 0, 64, true, false, 0)
	b.writes(0, 0, some(4096, 3), 0)
	return b
}

func TestP6_2_ReadAll(t *testing.T) {
	b := whole(t)
	b.reads(0, 0, 4096, 0)
	for _, n := range []int{-1, 4097, 4098, -4096, math.MinInt, math.MaxInt, 1 << 31, 1<<31 - 1} {
		b.reads(0, 0, n, 14)
		b.reads(0, 1, n, 14)
		b.reads(0, 4095, n, 14)
	}
	b.reads(0, 1, 4095, 0)
	b.reads(0, 1, 4096, 14)
	b.reads(0, 4095, 1, 0)
	b.reads(0, 4095, 2, 14)
	b.reads(0, 4096, 1, 14)
	b.reads(0, 4096, 4096, 14)
	b.reads(0, math.MaxUint32, 1, 14)
	b.reads(0, math.MaxUint32, 2, 14)
	b.reads(0, math.MaxUint32-63, 65, 14)
	b.reads(0, 1<<31, 1, 14)
	b.reads(0, 1<<16, 1, 14)
}

func TestP6_2_ReadOverTheEndsOfPages(t *testing.T) {
	b := whole(t)
	for _, at := range []uint32{0, 1, 62, 63, 64, 65, 100, 127, 128, 4031, 4032, 4033} {
		for _, n := range []int{0, 1, 2, 63, 64, 65, 127, 128, 129, 192, 193} {
			want := 0
			if int(at)+n > 4096 {
				want = 14
			}
			b.reads(0, at, n, want)
		}
	}
}

// No bytes are read, and written, anywhere.
func TestP6_2_NoBytes(t *testing.T) {
	b := over(t, 2, 2)
	b.maps(0, 0, 1, false, false, 0)
	b.cleans(0, 1)
	for s := range b.spaces {
		for _, at := range []uint32{0, 63, 64, 4095, 4096, 1 << 31, math.MaxUint32} {
			b.reads(s, at, 0, 0)
			b.writes(s, at, nil, 0)
			b.writes(s, at, []byte{}, 0)
			b.reads(s, at, -1, 14)
		}
	}
	if len(b.spaces[0].Dirty()) != 0 {
		t.Errorf("Dirty: %v", b.spaces[0].Dirty())
	}
}

func TestP6_2_HoleOfOnePage(t *testing.T) {
	for page := range 4 {
		b := over(t, 64, 1)
		b.maps(0, 0, 4, true, false, 0)
		b.writes(0, 0, some(256, 9), 0)
		b.unmaps(0, page, 1, 0)
		b.cleans(0, 3)
		b.reads(0, 0, 256, 14)
		b.writes(0, 0, some(256, 11), 14)
		for at := range 256 {
			want := 0
			if at/64 == page {
				want = 14
			}
			b.reads(0, uint32(at), 1, want)
		}
		b.reads(0, uint32(page*64+64), 1, map[bool]int{true: 14, false: 0}[page == 3])
	}
}

func TestP6_2_OnePageIsNotWrite(t *testing.T) {
	for page := range 4 {
		b := over(t, 64, 1)
		for k := range 4 {
			b.maps(0, k, 1, k != page, false, 0)
		}
		b.cleans(0, 4)
		b.writes(0, 0, some(256, 11), 14)
		b.writes(0, uint32(page*64), some(1, 11), 14)
		b.writes(0, uint32(page*64+63), some(1, 11), 14)
		b.reads(0, 0, 256, 0)
		if len(b.spaces[0].Dirty()) != 0 {
			t.Errorf("Dirty: %v", b.spaces[0].Dirty())
		}
		if page > 0 {
			b.writes(0, 0, some(page*64+1, 4), 14)
			b.writes(0, 0, some(page*64, 4), 0)
		}
		if page < 3 {
			b.writes(0, uint32(page*64+63), some(2, 4), 14)
			b.writes(0, uint32(page*64+64), some((3-page)*64, 4), 0)
		}
	}
}

func TestP6_2_WriteAnywhere(t *testing.T) {
	b := whole(t)
	b.cleans(0, 64)
	b.writes(0, 64, some(64, 77), 0)
	if d := b.spaces[0].Dirty(); !slices.Equal(d, []int{1}) {
		t.Errorf("Dirty: %v", d)
	}
	b.writes(0, 255, some(2, 78), 0)
	if d := b.spaces[0].Dirty(); !slices.Equal(d, []int{1, 3, 4}) {
		t.Errorf("Dirty: %v", d)
	}
	b.writes(0, 100, some(1000, 79), 0)
	b.writes(0, 0, some(4096, 80), 0)
	b.writes(0, 4095, some(1, 81), 0)
	for n := range 5 {
		b.writes(0, 0, some(4097+n*n*1000, 82), 14)
	}
	b.writes(0, 1, some(4096, 82), 14)
	b.writes(0, 4095, some(2, 82), 14)
	b.writes(0, 4096, some(1, 82), 14)
	b.writes(0, math.MaxUint32, some(1, 82), 14)
	b.writes(0, math.MaxUint32, some(2, 82), 14)
	b.writes(0, math.MaxUint32-63, some(65, 82), 14)
}

// A page is Dirty, even if what is written was there.
func TestP6_2_TheSameBytesAgain(t *testing.T) {
	b := over(t, 1, 1)
	b.maps(0, 9, 1, true, false, 0)
	b.cleans(0, 1)
	b.writes(0, 576, []byte{0}, 0)
	b.cleans(0, 1)
}

func TestP6_2_Words(t *testing.T) {
	b := whole(t)
	s := b.spaces[0]
	for _, a := range []uint32{0, 1, 60, 61, 62, 63, 64, 4091, 4092} {
		c, _ := s.Read(a, 4)
		want := uint32(c[0]) + uint32(c[1])*256 + uint32(c[2])*65536 + uint32(c[3])*16777216
		if v, ok := s.Word(a); v != want || !ok {
			t.Errorf("Word(%d): %x %v, not %x", a, v, ok, want)
		}
		if !s.SetWord(a, 0x81020384) {
			t.Errorf("SetWord(%d)", a)
		}
		b.plain.write(0, a, []byte{0x84, 3, 2, 0x81})
		b.reads(0, 0, 4096, 0)
		if v, ok := s.Word(a); v != 0x81020384 || !ok {
			t.Errorf("Word(%d): %x %v", a, v, ok)
		}
	}
	for _, a := range []uint32{4093, 4094, 4095, 4096, math.MaxUint32, math.MaxUint32 - 3, 1 << 31} {
		if v, ok := s.Word(a); v != 0 || ok {
			t.Errorf("Word(%d): %x %v", a, v, ok)
		}
		if s.SetWord(a, 7) {
			t.Errorf("SetWord(%d)", a)
		}
		b.reads(0, 0, 4096, 0)
	}
}

func TestP6_2_Bytes(t *testing.T) {
	b := whole(t)
	s := b.spaces[0]
	for _, a := range []uint32{0, 1, 63, 64, 2000, 4094, 4095} {
		c, _ := s.Read(a, 1)
		if v, ok := s.Byte(a); v != c[0] || !ok {
			t.Errorf("Byte(%d): %x %v", a, v, ok)
		}
		if !s.SetByte(a, 0xfe) {
			t.Errorf("SetByte(%d)", a)
		}
		b.plain.write(0, a, []byte{0xfe})
		b.reads(0, 0, 4096, 0)
	}
	for _, a := range []uint32{4096, 4097, math.MaxUint32, 1 << 31} {
		if v, ok := s.Byte(a); v != 0 || ok {
			t.Errorf("Byte(%d): %x %v", a, v, ok)
		}
		if s.SetByte(a, 7) {
			t.Errorf("SetByte(%d)", a)
		}
	}
	b.reads(0, 0, 4096, 0)
}

// Words and bytes are refused where Read and Write would be: over a page that is not mapped, not Write, or has no frame to be doubled into.
func TestP6_2_WordsRefused(t *testing.T) {
	b := over(t, 4, 1)
	b.maps(0, 0, 2, true, false, 0)
	b.maps(0, 2, 1, false, false, 0)
	s := b.spaces[0]
	for _, a := range []uint32{125, 127, 128, 188} {
		if _, ok := s.Word(a); !ok || s.SetWord(a, 1) {
			t.Errorf("Word(%d): %v, or SetWord", a, ok)
		}
	}
	for _, a := range []uint32{189, 191, 192} {
		if v, ok := s.Word(a); v != 0 || ok || s.SetWord(a, 1) {
			t.Errorf("Word(%d): %v %v, or SetWord", a, v, ok)
		}
	}
	if _, ok := s.Byte(128); !ok || s.SetByte(128, 1) {
		t.Errorf("Byte(128): %v, or SetByte", ok)
	}
	if v, ok := s.Byte(192); v != 0 || ok || s.SetByte(192, 1) {
		t.Errorf("Byte(192): %v %v, or SetByte", v, ok)
	}
	b.agree()
	b.clones(0)
	if s.SetWord(62, 1) {
		t.Error("SetWord into two pages with one frame free")
	}
	b.agree()
	b.takes()
	if s.SetWord(60, 1) || s.SetByte(0, 1) {
		t.Error("SetWord, or SetByte, with no frame free")
	}
	b.agree()
}

func TestP6_2_ManyNeeded(t *testing.T) {
	for pages := 1; pages < 6; pages++ {
		for free := range 7 {
			b := over(t, pages+free, 1)
			b.maps(0, 10, pages, true, false, 0)
			b.writes(0, 640, some(pages*64, 1), 0)
			c := b.clones(0)
			b.cleans(c, pages)
			want := 0
			if pages > free {
				want = 12
			}
			b.writes(c, 640, some(pages*64, 2), want)
			b.writes(c, 640+63, some(pages*64-126+62, 3), anyCode)
			b.writes(0, 640, some(pages*64, 4), 0+want)
		}
	}
}

// A write that is refused as there are no frames changes no page of it, not even those that need none.
func TestP6_2_NothingIsChangedWithoutFrames(t *testing.T) {
	b := over(t, 4, 1)
	b.maps(0, 0, 2, true, false, 0)
	c := b.clones(0)
	b.maps(c, 2, 1, true, true, 0)
	b.cleans(c, 3)
	b.writes(c, 0, some(192, 8), 12)
	b.writes(c, 60, some(100, 8), 12)
	if d := b.spaces[c].Dirty(); len(d) != 0 {
		t.Errorf("Dirty: %v", d)
	}
	b.writes(c, 64, some(128, 8), 0)
	b.writes(c, 0, some(64, 8), 12)
	b.writes(c, 64, some(128, 9), 0)
}

// What may not be written is said ahead of that there are no frames.
func TestP6_2_EfaultFirst(t *testing.T) {
	b := over(t, 2, 1)
	b.maps(0, 0, 1, true, false, 0)
	b.maps(0, 1, 1, false, false, 0)
	c := b.clones(0)
	b.writes(c, 0, some(64, 8), 12)
	b.writes(c, 0, some(65, 8), 14)
	b.writes(c, 0, some(200, 8), 14)
	b.writes(c, 0, some(5000, 8), 14)
}

// A page that is Cow and whose frame is its own needs none, and is Cow no more.
func TestP6_2_CowOfACountOfOne(t *testing.T) {
	b := over(t, 1, 1)
	b.maps(0, 7, 1, true, false, 0)
	c := b.clones(0)
	b.cleans(c, 1)
	b.writes(c, 448, some(1, 3), 12)
	b.drops(0)
	if x := b.entry(c, 7); !x.Cow {
		t.Errorf("page 7: %v", x)
	}
	b.writes(c, 448, some(1, 3), 0)
	if l := b.spaces[c].List(); l[0].Entry != (api.Entry{Frame: 0, Write: true, Dirty: true}) {
		t.Errorf("List: %v", l)
	}
}

func TestP6_2_CowOfACountOfTwo(t *testing.T) {
	b := over(t, 2, 1)
	b.maps(0, 7, 1, true, false, 0)
	b.writes(0, 448, some(64, 50), 0)
	c := b.clones(0)
	b.writes(c, 450, some(3, 3), 0)
	b.count(0, 7, 1)
	b.count(c, 7, 1)
	if x, y := b.spaces[0].List()[0].Entry, b.spaces[c].List()[0].Entry; x != (api.Entry{Frame: 0, Write: true, Cow: true, Dirty: true}) || y != (api.Entry{Frame: 1, Write: true, Dirty: true}) {
		t.Errorf("%v, %v", x, y)
	}
	b.reads(0, 448, 64, 0)
	b.reads(c, 448, 64, 0)
	b.writes(0, 448, some(64, 80), 0)
	if x := b.spaces[0].List()[0].Entry; x != (api.Entry{Frame: 0, Write: true, Dirty: true}) {
		t.Errorf("%v", x)
	}
}

func TestP6_2_CowOfACountOfThree(t *testing.T) {
	for order := range 6 {
		b := over(t, 3, 1)
		b.maps(0, 7, 1, true, false, 0)
		b.writes(0, 448, some(64, 50), 0)
		b.clones(0)
		b.clones(1)
		b.count(0, 7, 3)
		l := [][]int{{0, 1, 2}, {0, 2, 1}, {1, 0, 2}, {1, 2, 0}, {2, 0, 1}, {2, 1, 0}}[order]
		for k, s := range l {
			b.writes(s, 448, some(2, byte(60+s)), 0)
			b.count(s, 7, 1)
			if k < 2 {
				b.count(l[2], 7, 2-k)
			}
			for other := range 3 {
				b.reads(other, 448, 64, 0)
			}
		}
		if b.frames.Free() != 0 {
			t.Errorf("free: %d", b.frames.Free())
		}
	}
}

// Two pages of one frame: the first that is written into takes a double, the other one then has the frame by itself.
func TestP6_2_TwoCowPagesOfOneFrame(t *testing.T) {
	for free := range 3 {
		b := over(t, 1+free, 1)
		b.maps(0, 4, 1, true, false, 0)
		b.writes(0, 256, some(64, 1), 0)
		b.clones(0)
		b.attaches(0, 5, b.entry(0, 4), 0)
		b.drops(1)
		b.count(0, 4, 2)
		b.cleans(0, 2)
		b.writes(0, 300, some(64, 30), map[bool]int{true: 0, false: 12}[free >= 1])
		if free == 0 {
			continue
		}
		l := b.spaces[0].List()
		if l[0].Entry != (api.Entry{Frame: 1, Write: true, Dirty: true}) || l[1].Entry != (api.Entry{Frame: 0, Write: true, Dirty: true}) {
			t.Errorf("List: %v", l)
		}
		if b.frames.Free() != free-1 {
			t.Errorf("free: %d", b.frames.Free())
		}
	}
}

// The same with a third page that is in another space, so that both are doubled.
func TestP6_2_TwoCowPagesOfOneFrameAndOneElsewhere(t *testing.T) {
	for free := range 4 {
		b := over(t, 1+free, 1)
		b.maps(0, 4, 1, true, false, 0)
		b.clones(0)
		b.attaches(0, 6, b.entry(0, 4), 0)
		b.count(0, 4, 3)
		b.maps(0, 5, 1, true, false, map[bool]int{true: 0, false: 12}[free >= 1])
		b.writes(0, 256, some(192, 30), map[bool]int{true: 0, false: map[bool]int{true: 12, false: 14}[free >= 1]}[free >= 3])
	}
}

// A page that has the frame, too, and is not Cow, is written into where it is; its count holds for the others.
func TestP6_2_CowBesideNotCow(t *testing.T) {
	for _, cow := range []int{0, 1} {
		for free := range 2 {
			b := over(t, 1+free, 1)
			k := b.takes()
			b.attaches(0, cow, api.Entry{Frame: k, Write: true, Cow: true}, 0)
			b.attaches(0, 1-cow, api.Entry{Frame: k, Write: true}, 0)
			b.gives(k)
			b.writes(0, 60, some(8, 1), map[bool]int{true: 0, false: 12}[free == 1])
		}
	}
}

func TestP6_2_AnyWriteThatNeedsFrames(t *testing.T) {
	for seed := range 300 {
		r := rand.New(rand.NewSource(int64(seed)))
		b := over(t, 3+r.Intn(8), 1)
		var held []int
		for range 1 + r.Intn(3) {
			held = append(held, b.takes())
		}
		for page := range 10 {
			b.attaches(0, page, api.Entry{Frame: held[r.Intn(len(held))], Write: r.Intn(20) > 0, Cow: r.Intn(4) > 0}, 0)
		}
		for _, k := range held {
			if r.Intn(2) == 0 {
				b.gives(k)
			}
		}
		for range 6 {
			b.writes(0, uint32(r.Intn(600)), some(r.Intn(500), byte(seed)), anyCode)
		}
	}
}

func TestP6_3_CloneOfEachKind(t *testing.T) {
	b := over(t, 20, 1)
	k := b.takes()
	page := 0
	for kind := range 16 {
		x := api.Entry{Frame: k, Write: kind&1 != 0, Shared: kind&2 != 0, Cow: kind&4 != 0, Dirty: kind&8 != 0}
		if x.Shared && x.Cow {
			continue
		}
		b.attaches(0, page, x, 0)
		page += 5
	}
	before := b.spaces[0].List()
	c := b.clones(0)
	after := b.spaces[0].List()
	if !slices.Equal(after, b.spaces[c].List()) || b.frames.Refs(k) != 25 {
		t.Fatalf("%v, %v, count %d", after, b.spaces[c].List(), b.frames.Refs(k))
	}
	for i, m := range before {
		want := m
		if m.Entry.Write && !m.Entry.Shared {
			want.Entry.Cow = true
		}
		if after[i] != want {
			t.Errorf("%v is %v then", m, after[i])
		}
	}
}

func TestP6_3_CloneOfNoPages(t *testing.T) {
	b := over(t, 2, 1)
	c := b.clones(0)
	if b.spaces[c] == nil || b.spaces[c] == b.spaces[0] {
		t.Fatal("no clone")
	}
	b.maps(c, 0, 1, true, false, 0)
	b.maps(0, 0, 1, true, false, 0)
	b.maps(0, 1, 1, true, false, 12)
}

// mixed is a space with a page of each kind that Map makes, written as far as may be.
func mixed(t *testing.T, size int) *both {
	t.Helper()
	b := over(t, size, 1)
	b.maps(0, 0, 1, true, false, 0)
	b.maps(0, 1, 1, true, true, 0)
	b.maps(0, 2, 1, false, false, 0)
	b.maps(0, 3, 1, false, true, 0)
	b.maps(0, 63, 1, true, false, 0)
	b.writes(0, 0, some(128, 10), 0)
	b.writes(0, 4032, some(64, 20), 0)
	return b
}

func TestP6_3_WrittenOnEitherSide(t *testing.T) {
	for order := range 2 {
		b := mixed(t, 16)
		c := b.clones(0)
		b.cleans(c, 5)
		sides := []int{order * c, c - order*c}
		for k, s := range sides {
			b.writes(s, 10, some(20, byte(90+k)), 0)
			b.writes(s, 4090, some(6, byte(100+k)), 0)
			b.writes(s, 64, some(5, byte(110+k)), 0)
			b.writes(s, 128, some(1, 1), 14)
			b.writes(s, 192, some(1, 1), 14)
			for other := range b.spaces {
				b.reads(other, 0, 256, 0)
				b.reads(other, 4032, 64, 0)
			}
		}
		one, _ := b.spaces[0].Read(64, 5)
		other, _ := b.spaces[c].Read(64, 5)
		if !bytes.Equal(one, some(5, 111)) || !bytes.Equal(other, some(5, 111)) {
			t.Errorf("Shared: %v, %v", one, other)
		}
		if one, _ := b.spaces[sides[0]].Read(10, 20); !bytes.Equal(one, some(20, 90)) {
			t.Errorf("not Shared: %v", one)
		}
		if other, _ := b.spaces[sides[1]].Read(10, 20); !bytes.Equal(other, some(20, 91)) {
			t.Errorf("not Shared: %v", other)
		}
	}
}

func TestP6_3_CloneOfAClone(t *testing.T) {
	for _, l := range [][]int{{0, 1, 2}, {0, 2, 1}, {1, 0, 2}, {1, 2, 0}, {2, 0, 1}, {2, 1, 0}} {
		b := mixed(t, 16)
		b.clones(0)
		b.clones(1)
		for page := range 4 {
			b.count(0, page, 3)
		}
		for k, s := range l {
			b.writes(s, 0, some(128, byte(40*k)), 0)
			for other := range 3 {
				b.reads(other, 0, 256, 0)
			}
		}
		b.count(0, 0, 1)
		b.count(0, 1, 3)
		b.count(0, 63, 3)
		for _, s := range l {
			b.drops(s)
		}
		if b.frames.Free() != 16 {
			t.Errorf("free: %d", b.frames.Free())
		}
	}
}

// A clone of what was written since the last one has a frame of its own again.
func TestP6_3_CloneAgain(t *testing.T) {
	b := over(t, 5, 1)
	b.maps(0, 0, 1, true, false, 0)
	b.writes(0, 0, some(64, 1), 0)
	one := b.clones(0)
	b.writes(0, 0, some(1, 2), 0)
	two := b.clones(0)
	b.writes(one, 1, some(1, 3), 0)
	b.writes(two, 2, some(1, 4), 0)
	b.writes(0, 3, some(1, 5), 0)
	for s := range 3 {
		b.reads(s, 0, 64, 0)
		b.count(s, 0, 1)
	}
	if b.frames.Free() != 2 {
		t.Errorf("free: %d", b.frames.Free())
	}
}

func TestP6_3_Drop(t *testing.T) {
	for _, first := range []int{0, 1} {
		b := mixed(t, 8)
		b.clones(0)
		b.writes(1, 0, some(1, 2), 0)
		b.drops(first)
		b.drops(first)
		b.reads(first, 0, 1, 14)
		b.reads(first, 0, 0, 0)
		b.unmaps(first, 0, 1, 22)
		b.reads(1-first, 0, 256, 0)
		b.count(1-first, 1, 1)
		b.maps(first, 1, 1, true, false, 0)
		b.drops(1 - first)
		b.drops(first)
		if b.frames.Free() != 8 {
			t.Errorf("free: %d", b.frames.Free())
		}
	}
}

// A space of one frame at many pages is dropped with each of them.
func TestP6_3_DropOfOneFrameAtManyPages(t *testing.T) {
	b := over(t, 3, 1)
	k := b.takes()
	for page := range 64 {
		b.attaches(0, page, api.Entry{Frame: k, Shared: true, Write: true}, 0)
	}
	b.gives(k)
	if b.frames.Refs(k) != 64 {
		t.Errorf("count: %d", b.frames.Refs(k))
	}
	b.writes(0, 0, some(64, 1), 0)
	b.writes(0, 4000, some(96, 1), 0)
	b.drops(0)
	if b.frames.Free() != 3 {
		t.Errorf("free: %d", b.frames.Free())
	}
}

func TestP6_3_Attach(t *testing.T) {
	b := over(t, 4, 2)
	b.maps(0, 8, 2, true, true, 0)
	b.writes(0, 512, some(128, 7), 0)
	for k, page := range []int{0, 63, 7, 8} {
		x := api.Entry{Frame: b.frame(0, 8), Write: k%2 == 0, Shared: k > 1, Cow: k == 1, Dirty: k == 2}
		b.attaches(1, page, x, 0)
		b.count(0, 8, 2+k)
		if !slices.Contains(b.spaces[1].List(), api.Mapped{Page: page, Entry: x}) {
			t.Errorf("List: %v", b.spaces[1].List())
		}
		b.reads(1, uint32(page*64), 64, 0)
	}
	b.attaches(0, 9, api.Entry{Frame: 0}, 22)
	b.attaches(0, 10, api.Entry{Frame: 1}, 0)
	b.drops(0)
	b.attaches(0, 9, api.Entry{Frame: 0}, 0)
	b.attaches(0, 10, api.Entry{Frame: 1}, 22)
}

func TestP6_3_AttachRefused(t *testing.T) {
	b := over(t, 4, 2)
	b.maps(0, 8, 1, true, true, 0)
	for _, page := range far {
		b.attaches(1, page, api.Entry{Frame: 0}, 22)
	}
	b.attaches(0, 8, api.Entry{Frame: 0}, 22)
	for _, k := range append(far, 1, 2, 3, 4, 5, 100, 255, 256, 257) {
		b.attaches(1, 0, api.Entry{Frame: k}, 22)
		b.attaches(1, 0, api.Entry{Frame: k, Shared: true, Cow: true}, 22)
	}
	for k := range 4 {
		b.attaches(1, 0, api.Entry{Frame: 0, Shared: true, Cow: true, Write: k&1 != 0, Dirty: k&2 != 0}, 22)
	}
	b.attaches(1, 0, api.Entry{Frame: 0}, 0)
}

// An entry whose frame another page has, too, is Cow only if it says so: else it is written into where it is.
func TestP6_3_AttachedIsWrittenAsItSays(t *testing.T) {
	b := over(t, 4, 2)
	b.maps(0, 8, 1, true, false, 0)
	b.attaches(1, 0, api.Entry{Frame: 0, Write: true, Cow: true}, 0)
	b.attaches(1, 1, api.Entry{Frame: 0, Write: true}, 0)
	b.attaches(1, 2, api.Entry{Frame: 0, Cow: true}, 0)
	b.writes(1, 64, some(4, 5), 0)
	b.reads(0, 512, 64, 0)
	b.writes(1, 0, some(4, 6), 0)
	b.writes(1, 128, some(4, 6), 14)
	b.reads(0, 512, 64, 0)
	b.count(0, 8, 3)
}

func TestP6_4_Frame(t *testing.T) {
	b := over(t, 8, 1)
	b.takes()
	b.maps(0, 3, 1, true, false, 0)
	b.maps(0, 63, 1, false, true, 0)
	for a := range uint32(4300) {
		frame, isShared := -1, false
		switch a / 64 {
		case 3:
			frame = 1
		case 63:
			frame, isShared = 2, true
		}
		if k, shared := b.spaces[0].Frame(a); k != frame || shared != isShared {
			t.Fatalf("Frame(%d): %d %v, not %d %v", a, k, shared, frame, isShared)
		}
	}
	for _, a := range []uint32{4096 + 192, 1<<31 + 192, 1 << 31, 1<<16 + 192, math.MaxUint32, math.MaxUint32 - 63} {
		if k, shared := b.spaces[0].Frame(a); k != -1 || shared {
			t.Fatalf("Frame(%d): %d %v", a, k, shared)
		}
	}
	b.unmaps(0, 63, 1, 0)
	if k, shared := b.spaces[0].Frame(4095); k != -1 || shared {
		t.Fatalf("Frame(4095): %d %v", k, shared)
	}
}

func TestP6_4_Page(t *testing.T) {
	b := over(t, 8, 1)
	b.maps(0, 0, 1, true, false, 0)
	b.maps(0, 62, 2, true, true, 0)
	b.writes(0, 0, some(64, 1), 0)
	b.writes(0, 62*64, some(128, 100), 0)
	for page := range 64 {
		want, _ := b.plain.read(0, uint32(page*64), 64)
		if c := b.spaces[0].Page(page); !bytes.Equal(c, want) {
			t.Errorf("Page(%d): %v, not %v", page, c, want)
		}
	}
	for _, page := range far {
		if c := b.spaces[0].Page(page); len(c) != 0 {
			t.Errorf("Page(%d): %v", page, c)
		}
	}
	b.unmaps(0, 63, 1, 0)
	if c := b.spaces[0].Page(63); len(c) != 0 {
		t.Errorf("Page(63): %v", c)
	}
}

func TestP6_4_DirtyAndClean(t *testing.T) {
	b := over(t, 16, 1)
	b.maps(0, 0, 3, true, false, 0)
	b.maps(0, 60, 2, false, false, 0)
	if d := b.spaces[0].Dirty(); !slices.Equal(d, []int{0, 1, 2, 60, 61}) {
		t.Errorf("Dirty: %v", d)
	}
	b.cleans(0, 5)
	b.cleans(0, 0)
	b.reads(0, 0, 192, 0)
	b.cleans(0, 0)
	b.writes(0, 130, some(3, 1), 0)
	c := b.clones(0)
	b.cleans(0, 1)
	if d := b.spaces[c].Dirty(); !slices.Equal(d, []int{2}) {
		t.Errorf("Dirty of the clone: %v", d)
	}
	b.writes(0, 0, some(1, 1), 0)
	b.cleans(c, 1)
	b.cleans(0, 1)
	b.attaches(0, 9, api.Entry{Frame: 0, Dirty: true}, 0)
	b.attaches(0, 10, api.Entry{Frame: 0}, 0)
	b.cleans(0, 1)
	b.writes(c, 0, some(64, 1), 0)
	b.unmaps(c, 0, 1, 0)
	b.cleans(c, 0)
}

func TestP6_5_BytesHandedInAreOnlyRead(t *testing.T) {
	b := over(t, 8, 1)
	b.maps(0, 0, 3, true, false, 0)
	c := some(150, 9)
	b.writes(0, 20, c, 0)
	if !bytes.Equal(c, some(150, 9)) {
		t.Error("they were turned")
	}
	clear(c)
	if d, _ := b.spaces[0].Read(20, 150); !bytes.Equal(d, some(150, 9)) {
		t.Error("they were kept")
	}
	b.writes(0, 0, c[:100:100], 0)
}

func TestP6_5_WhatIsAnsweredIsNew(t *testing.T) {
	b := mixed(t, 8)
	s := b.spaces[0]
	read, one, _ := func() ([]byte, []byte, int) {
		x, _ := s.Read(0, 128)
		y, code := s.Read(0, 64)
		return x, y, code
	}()
	page, list, dirty := s.Page(0), s.List(), s.Dirty()
	for range 2 {
		clear(read)
		clear(one)
		clear(page)
		clear(list)
		clear(dirty)
		_ = append(append(read[:1], 1), append(page[:1], 1)...)
		b.agree()
		b.reads(0, 0, 256, 0)
	}
	page, list, dirty = s.Page(0), s.List(), s.Dirty()
	was := slices.Clone(list)
	b.writes(0, 0, some(64, 200), 0)
	b.cleans(0, 5)
	b.unmaps(0, 63, 1, 0)
	if !bytes.Equal(page, some(64, 10)) || !slices.Equal(list, was) || len(dirty) != 5 {
		t.Error("what had been told was turned")
	}
}

// none are spaces that nobody made.
func none() []*Space {
	return []*Space{nil, {}, new(Space), new(Space).Clone()}
}

func TestP6_1_NoneMapsNothing(t *testing.T) {
	for _, s := range none() {
		for _, page := range append(far, 0, 1, 63) {
			for _, n := range append(far, 0, 1, 2) {
				if code := s.Map(page, n, true, false); code != 14 {
					t.Errorf("Map(%d, %d): %d", page, n, code)
				}
				if code := s.Unmap(page, n); code != 14 {
					t.Errorf("Unmap(%d, %d): %d", page, n, code)
				}
			}
		}
	}
}

func TestP6_2_NoneIsNotRead(t *testing.T) {
	for _, s := range none() {
		for _, a := range []uint32{0, 1, 64, 4095, 4096, math.MaxUint32} {
			for _, n := range []int{-1, 0, 1, 64, 4096, 4097, math.MaxInt, math.MinInt} {
				if c, code := s.Read(a, n); len(c) != 0 || code != 14 {
					t.Errorf("Read(%d, %d): %v %d", a, n, c, code)
				}
			}
			for _, n := range []int{0, 1, 64, 4097} {
				if code := s.Write(a, make([]byte, n)); code != 14 {
					t.Errorf("Write(%d, %d bytes): %d", a, n, code)
				}
			}
			v, ok := s.Word(a)
			c, bok := s.Byte(a)
			if v != 0 || ok || c != 0 || bok || s.SetWord(a, 1) || s.SetByte(a, 1) {
				t.Errorf("Word, Byte, SetWord or SetByte of %d: %v %v %v %v", a, v, ok, c, bok)
			}
		}
	}
}

func TestP6_3_NoneIsNotCloned(t *testing.T) {
	for _, s := range none() {
		s.Drop()
		if c := s.Clone(); c != nil {
			t.Errorf("Clone: %v", c)
		}
		for _, page := range append(far, 0, 63) {
			for _, k := range []int{-1, 0, 1, 255, 256} {
				if code := s.Attach(page, api.Entry{Frame: k}); code != 14 {
					t.Errorf("Attach(%d, frame %d): %d", page, k, code)
				}
			}
		}
	}
}

func TestP6_4_NoneHasNothing(t *testing.T) {
	for _, s := range none() {
		for _, a := range []uint32{0, 1, 64, 4095, 4096, math.MaxUint32} {
			if k, shared := s.Frame(a); k != -1 || shared {
				t.Errorf("Frame(%d): %d %v", a, k, shared)
			}
		}
		for _, page := range append(far, 0, 63) {
			if c := s.Page(page); len(c) != 0 {
				t.Errorf("Page(%d): %v", page, c)
			}
		}
		if len(s.List()) != 0 || len(s.Dirty()) != 0 || s.Clean() != 0 {
			t.Errorf("List %v, Dirty %v, Clean %d", s.List(), s.Dirty(), s.Clean())
		}
	}
}

// step does one call, whichever, to one of the spaces.
func (b *both) step(r *rand.Rand) {
	b.t.Helper()
	s := r.Intn(len(b.spaces))
	at, n := uint32(r.Intn(700)), r.Intn(200)
	if r.Intn(10) == 0 {
		at = uint32(3900 + r.Intn(300))
	}
	page := r.Intn(12) - 1
	switch kind := r.Intn(40); {
	case kind < 6:
		b.maps(s, page, r.Intn(4), r.Intn(4) > 0, r.Intn(3) == 0, anyCode)
	case kind < 9:
		b.unmaps(s, page, r.Intn(3), anyCode)
	case kind < 14:
		b.reads(s, at, n-1, anyCode)
	case kind < 27:
		b.writes(s, at, some(n, byte(at)), anyCode)
	case kind < 30 && len(b.spaces) < 6:
		b.clones(s)
	case kind < 31:
		b.drops(s)
	case kind < 33:
		b.cleans(s, anyCode)
	case kind < 36:
		b.attaches(s, page, api.Entry{Frame: r.Intn(14) - 1, Write: r.Intn(3) > 0, Shared: r.Intn(3) == 0, Cow: r.Intn(3) > 0, Dirty: r.Intn(2) == 0}, anyCode)
	default:
		b.reads(s, uint32(page+1)*64, 64, anyCode)
	}
}

func TestP6_6_AnyCalls(t *testing.T) {
	for seed := range 30 {
		r := rand.New(rand.NewSource(int64(seed)))
		b := over(t, 4+seed%20, 1+seed%3)
		for range 400 {
			b.step(r)
		}
		for s := range b.spaces {
			b.drops(s)
		}
		if b.frames.Free() != b.frames.Len() {
			t.Fatalf("frames that are used by nobody: %v", b.frames.Used())
		}
	}
}

// seen is all that a space's bytes are.
func seen(s *Space) [64][]byte {
	var all [64][]byte
	for page := range 64 {
		all[page] = s.Page(page)
	}
	return all
}

// Whatever is written by spaces that Map and Clone alone made, it is read there, and where Shared pages are; nothing else is turned.
func TestP6_6_NothingElseIsTurned(t *testing.T) {
	b := mixed(t, 40)
	b.clones(0)
	b.clones(1)
	b.clones(0)
	r := rand.New(rand.NewSource(1))
	for range 500 {
		s, page, off := r.Intn(4), []int{0, 1, 63}[r.Intn(3)], r.Intn(64)
		var before [4][64][]byte
		for k, x := range b.spaces {
			before[k] = seen(x)
		}
		b.writes(s, uint32(page*64+off), some(1, byte(r.Intn(250))), 0)
		c, _ := b.spaces[s].Byte(uint32(page*64 + off))
		for k, x := range b.spaces {
			if k == s || page == 1 {
				before[k][page][off] = c
			}
			now := seen(x)
			for p := range now {
				if !bytes.Equal(now[p], before[k][p]) {
					t.Fatalf("page %d of space %d: %v, not %v", p, k, now[p], before[k][p])
				}
			}
		}
	}
}

// Spaces that are no one's clones have nothing in common but their frames.
func TestP6_6_SpacesApart(t *testing.T) {
	b := over(t, 6, 3)
	for s := range 3 {
		b.maps(s, s, 2, true, s == 1, 0)
		b.writes(s, uint32(s*64), some(128, byte(50*s)), 0)
	}
	b.maps(2, 9, 1, true, false, 12)
	for s := range 3 {
		b.reads(s, uint32(s*64), 128, 0)
	}
	b.drops(1)
	b.maps(2, 9, 2, true, false, 0)
	b.reads(0, 0, 128, 0)
	b.reads(2, 128, 128, 0)
}

func TestP6_2_PiecesAreLeftEarly(t *testing.T) {
	for p := range pieces(130, 4096) {
		if p != (piece{page: 2, off: 2, from: 0, to: 62}) {
			t.Fatalf("the first piece: %v", p)
		}
		break
	}
}

func TestExamplesOfLayer6(t *testing.T) {
	b := over(t, 3, 1)
	b.maps(0, 0, 2, true, false, 0)
	b.maps(0, 1, 1, true, false, api.EINVAL)
	b.maps(0, 5, 2, true, false, api.ENOMEM)
	s := b.spaces[0]
	if !s.SetByte(64, 9) {
		t.Error("SetByte(64, 9)")
	}
	c := s.Clone()
	if v, ok := c.Byte(64); v != 9 || !ok {
		t.Errorf("Byte(64) of the clone: %v %v", v, ok)
	}
	if !c.SetByte(64, 8) || b.frames.Free() != 0 {
		t.Errorf("SetByte(64, 8) in the clone, %d free", b.frames.Free())
	}
	if v, ok := s.Byte(64); v != 9 || !ok {
		t.Errorf("Byte(64): %v %v", v, ok)
	}
	if s.SetByte(0, 1) {
		t.Error("SetByte(0, 1) with no frame free")
	}
	if c, code := s.Read(120, 9); len(c) != 0 || code != api.EFAULT {
		t.Errorf("Read(120, 9): %v %d", c, code)
	}
}
