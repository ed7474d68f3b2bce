package pipe

import (
	"bytes"
	"math"
	"math/rand"
	"slices"
	"testing"

	"carryall/api"
)

// plain is a pipe as the chapter's words say it: a capacity, a list of bytes, and two counts.
type plain struct {
	capacity int
	list     []byte
	readers  int
	writers  int
}

func (p *plain) clone() *plain {
	q := *p
	q.list = slices.Clone(p.list)
	return &q
}

func (p *plain) read(n int) ([]byte, int, api.Errno) {
	if p.readers == 0 || n < 0 {
		return nil, 0, api.ErrPipe
	}
	if n == 0 || len(p.list) > 0 {
		m := min(n, len(p.list))
		b := slices.Clone(p.list[:m])
		p.list = slices.Clone(p.list[m:])
		return b, api.PipeDone, api.OK
	}
	if p.writers > 0 {
		return nil, api.PipeWait, api.OK
	}
	return nil, api.PipeEnd, api.OK
}

func (p *plain) write(b []byte) (int, int, api.Errno) {
	if p.writers == 0 {
		return 0, 0, api.ErrPipe
	}
	if p.readers == 0 {
		return 0, api.PipeBreak, api.OK
	}
	if len(b) == 0 {
		return 0, api.PipeDone, api.OK
	}
	n := min(len(b), p.capacity-len(p.list))
	if n == 0 {
		return 0, api.PipeWait, api.OK
	}
	p.list = append(slices.Clone(p.list), b[:n]...)
	return n, api.PipeDone, api.OK
}

func (p *plain) side(write bool) *int {
	if write {
		return &p.writers
	}
	return &p.readers
}

func (p *plain) open(write bool) api.Errno {
	if n := *p.side(write); n < 1 || n > 63 {
		return api.ErrPipe
	}
	*p.side(write)++
	return api.OK
}

func (p *plain) close(write bool) (bool, api.Errno) {
	if *p.side(write) < 1 {
		return false, api.ErrPipe
	}
	*p.side(write)--
	return *p.side(write) == 0, api.OK
}

// ready goes by what a call would tell of one that is the same.
func (p *plain) ready(write bool) bool {
	var what int
	var e api.Errno
	if write {
		_, what, e = p.clone().write([]byte{0})
	} else {
		_, what, e = p.clone().read(1)
	}
	return e == api.OK && what != api.PipeWait
}

// agree holds all that a pipe tells without being turned against what it has to.
func (p *plain) agree(t *testing.T, q *Pipe) {
	t.Helper()
	if !bytes.Equal(q.All(), p.list) || q.Cap() != p.capacity {
		t.Fatalf("All %v, Cap %d, not %v, %d", q.All(), q.Cap(), p.list, p.capacity)
	}
	if q.Readers() != p.readers || q.Writers() != p.writers {
		t.Fatalf("Readers %d, Writers %d, not %d, %d", q.Readers(), q.Writers(), p.readers, p.writers)
	}
	if q.Gone() != (p.readers == 0 && p.writers == 0) {
		t.Fatalf("Gone %v of %v", q.Gone(), *p)
	}
	for _, write := range both {
		if q.Ready(write) != p.ready(write) {
			t.Fatalf("Ready(%v) %v of %v", write, q.Ready(write), *p)
		}
	}
}

// both are the sides, as calls name them: who reads, who writes.
var both = []bool{false, true}

func doRead(t *testing.T, q *Pipe, p *plain, n int) {
	t.Helper()
	was := *p
	wantB, wantWhat, wantE := p.read(n)
	if b, what, e := q.Read(n); !bytes.Equal(b, wantB) || what != wantWhat || e != wantE {
		t.Fatalf("Read(%d) of %v: %v %d %v, not %v %d %v", n, was, b, what, e, wantB, wantWhat, wantE)
	}
	p.agree(t, q)
}

func doWrite(t *testing.T, q *Pipe, p *plain, b []byte) {
	t.Helper()
	was := *p
	wantN, wantWhat, wantE := p.write(b)
	if n, what, e := q.Write(b); n != wantN || what != wantWhat || e != wantE {
		t.Fatalf("Write(%v) of %v: %d %d %v, not %d %d %v", b, was, n, what, e, wantN, wantWhat, wantE)
	}
	p.agree(t, q)
}

func doOpen(t *testing.T, q *Pipe, p *plain, write bool) {
	t.Helper()
	was := *p
	want := p.open(write)
	if e := q.Open(write); e != want {
		t.Fatalf("Open(%v) of %v: %v, not %v", write, was, e, want)
	}
	p.agree(t, q)
}

func doClose(t *testing.T, q *Pipe, p *plain, write bool) {
	t.Helper()
	was := *p
	wantLast, wantE := p.close(write)
	if last, e := q.Close(write); last != wantLast || e != wantE {
		t.Fatalf("Close(%v) of %v: %v %v, not %v %v", write, was, last, e, wantLast, wantE)
	}
	p.agree(t, q)
}

// far are numbers that no pipe has of anything, or has room for.
var far = []int{-2, -64, -65, math.MinInt, math.MinInt + 1, math.MinInt + 64, 66, 127, 128, 256, 1<<32 + 1, math.MaxInt, math.MaxInt - 1, math.MaxInt - 63}

// counts are those that a side may have, at the edges.
var counts = []int{0, 1, 2, 63, 64}

// edges are the numbers at which calls of n bytes change.
func edges(n int) []int {
	return []int{-1, 0, 1, n - 1, n, n + 1}
}

// count are n bytes, each another one than those beside it.
func count(from, n int) []byte {
	var b []byte
	for i := range n {
		b = append(b, byte(from+i))
	}
	return b
}

func made(t *testing.T, capacity int) (*Pipe, *plain) {
	t.Helper()
	q, e := New(capacity)
	if e != api.OK || q == nil {
		t.Fatalf("New(%d): %v %v", capacity, q, e)
	}
	return q, &plain{capacity, nil, 1, 1}
}

func of(t *testing.T, capacity int, b []byte, readers, writers int) (*Pipe, *plain) {
	t.Helper()
	q, e := Of(capacity, b, readers, writers)
	if e != api.OK || q == nil {
		t.Fatalf("Of(%d, %v, %d, %d): %v %v", capacity, b, readers, writers, q, e)
	}
	return q, &plain{capacity, slices.Clone(b), readers, writers}
}

// state is a pipe's, but for the values of its bytes.
type state struct{ capacity, had, readers, writers int }

// states are the pipes at the edges: with and without bytes and room, with and without somebody of each side; also gone ones.
func states() []state {
	var l []state
	for _, capacity := range []int{1, 2, 3, 63, 64} {
		for had := range capacity + 1 {
			if had > 2 && had < capacity-2 {
				continue
			}
			for _, readers := range counts {
				for _, writers := range counts {
					l = append(l, state{capacity, had, readers, writers})
				}
			}
		}
	}
	return l
}

// make is one that stands so. One that is gone can't be made: it was closed.
func (s state) make(t *testing.T) (*Pipe, *plain) {
	t.Helper()
	b := count(9, s.had)
	if s.readers > 0 || s.writers > 0 {
		return of(t, s.capacity, b, s.readers, s.writers)
	}
	q, p := of(t, s.capacity, b, 1, 1)
	doClose(t, q, p, false)
	doClose(t, q, p, true)
	return q, p
}

func refused(t *testing.T, want api.Errno, capacity int, b []byte, readers, writers int) {
	t.Helper()
	if q, e := Of(capacity, b, readers, writers); q != nil || e != want {
		t.Errorf("Of(%d, %d bytes, %d, %d): %v %v, not %v", capacity, len(b), readers, writers, q, e, want)
	}
}

func TestP9_1_New(t *testing.T) {
	for capacity := -70; capacity < 200; capacity++ {
		if capacity >= 1 && capacity <= 64 {
			q, p := made(t, capacity)
			p.agree(t, q)
			doWrite(t, q, p, count(7, 65))
			doRead(t, q, p, 65)
			doRead(t, q, p, 1)
			continue
		}
		if q, e := New(capacity); q != nil || e != api.ErrRing {
			t.Errorf("New(%d): %v %v", capacity, q, e)
		}
	}
}

func TestP9_1_NewRefused(t *testing.T) {
	for _, capacity := range append(far, -1, 0, 65) {
		if q, e := New(capacity); q != nil || e != api.ErrRing {
			t.Errorf("New(%d): %v %v", capacity, q, e)
		}
	}
}

func TestP9_1_Of(t *testing.T) {
	for capacity := 1; capacity <= 64; capacity++ {
		for _, b := range [][]byte{nil, {}, {0}, {255}, count(9, capacity-1), count(250, capacity)} {
			for _, readers := range counts {
				for _, writers := range counts {
					if readers == 0 && writers == 0 {
						continue
					}
					q, p := of(t, capacity, b, readers, writers)
					p.agree(t, q)
				}
			}
		}
	}
}

func TestP9_1_OfEachCount(t *testing.T) {
	for readers := -3; readers < 70; readers++ {
		for writers := -3; writers < 70; writers++ {
			ok := readers >= 0 && readers <= 64 && writers >= 0 && writers <= 64 && readers+writers > 0
			if !ok {
				refused(t, api.ErrPipe, 4, []byte{1, 2}, readers, writers)
				continue
			}
			q, p := of(t, 4, []byte{1, 2}, readers, writers)
			p.agree(t, q)
		}
	}
}

func TestP9_1_OfCountsRefused(t *testing.T) {
	for _, capacity := range []int{1, 63, 64} {
		for _, b := range [][]byte{nil, {}, {7}, count(1, capacity)} {
			for _, wrong := range append(far, -1, 65) {
				for _, right := range append(far, counts...) {
					refused(t, api.ErrPipe, capacity, b, wrong, right)
					refused(t, api.ErrPipe, capacity, b, right, wrong)
				}
			}
			refused(t, api.ErrPipe, capacity, b, 0, 0)
			refused(t, api.ErrPipe, capacity, b, -1, 1)
			refused(t, api.ErrPipe, capacity, b, 1, -1)
		}
	}
}

// The ring's error comes first, whatever the counts are.
func TestP9_1_OfRingRefused(t *testing.T) {
	all := [][2]int{{1, 1}, {0, 1}, {1, 0}, {64, 64}, {0, 0}, {-1, 1}, {1, -1}, {65, 1}, {1, 65}, {-1, -1}, {65, 65}, {math.MinInt, math.MaxInt}}
	for _, c := range all {
		for _, capacity := range append(far, -1, 0, 65) {
			for _, b := range [][]byte{nil, {}, {7}, count(0, 64), count(0, 65)} {
				refused(t, api.ErrRing, capacity, b, c[0], c[1])
			}
		}
		for capacity := 1; capacity <= 64; capacity++ {
			for _, more := range []int{1, 2, 64, 1000} {
				refused(t, api.ErrRing, capacity, count(0, capacity+more), c[0], c[1])
			}
		}
	}
}

func TestP9_2_Read(t *testing.T) {
	for _, s := range states() {
		for _, n := range append(edges(s.had), far...) {
			q, p := s.make(t)
			doRead(t, q, p, n)
			doRead(t, q, p, n)
			doRead(t, q, p, 1)
		}
	}
}

// What Read tells, by the chapter's words, case by case.
func TestP9_2_ReadTells(t *testing.T) {
	for _, c := range []struct {
		had, readers, writers, n int
		out                      string
		what                     int
		e                        api.Errno
	}{
		{3, 1, 1, 2, "ab", api.PipeDone, api.OK},
		{3, 1, 1, 3, "abc", api.PipeDone, api.OK},
		{3, 1, 1, 4, "abc", api.PipeDone, api.OK},
		{3, 1, 1, 0, "", api.PipeDone, api.OK},
		{3, 64, 0, 2, "ab", api.PipeDone, api.OK},
		{3, 1, 0, 0, "", api.PipeDone, api.OK},
		{0, 1, 1, 0, "", api.PipeDone, api.OK},
		{0, 1, 0, 0, "", api.PipeDone, api.OK},
		{0, 1, 1, 1, "", api.PipeWait, api.OK},
		{0, 1, 64, 9, "", api.PipeWait, api.OK},
		{0, 1, 0, 1, "", api.PipeEnd, api.OK},
		{0, 64, 0, math.MaxInt, "", api.PipeEnd, api.OK},
		{3, 1, 1, -1, "", 0, api.ErrPipe},
		{0, 1, 0, -1, "", 0, api.ErrPipe},
		{3, 0, 1, 1, "", 0, api.ErrPipe},
		{3, 0, 1, 0, "", 0, api.ErrPipe},
		{0, 0, 1, -1, "", 0, api.ErrPipe},
	} {
		q, p := of(t, 4, []byte("abc")[:c.had], c.readers, c.writers)
		if b, what, e := q.Read(c.n); string(b) != c.out || what != c.what || e != c.e {
			t.Errorf("%v: %s %d %v", c, b, what, e)
		}
		p.list = p.list[len(c.out):]
		p.agree(t, q)
	}
}

func TestP9_2_Write(t *testing.T) {
	for _, s := range states() {
		for _, n := range append(edges(s.capacity-s.had), 64, 65, 1000) {
			q, p := s.make(t)
			doWrite(t, q, p, count(100, n))
			doWrite(t, q, p, count(200, n))
			doWrite(t, q, p, []byte{})
			doRead(t, q, p, 64)
		}
	}
}

// What Write tells, by the chapter's words, case by case.
func TestP9_2_WriteTells(t *testing.T) {
	for _, c := range []struct {
		had, readers, writers int
		b                     []byte
		n, what               int
		e                     api.Errno
	}{
		{1, 1, 1, []byte("xy"), 2, api.PipeDone, api.OK},
		{1, 64, 64, []byte("xyz"), 3, api.PipeDone, api.OK},
		{1, 1, 1, []byte("xyzw"), 3, api.PipeDone, api.OK},
		{1, 1, 1, nil, 0, api.PipeDone, api.OK},
		{1, 1, 1, []byte{}, 0, api.PipeDone, api.OK},
		{4, 1, 1, nil, 0, api.PipeDone, api.OK},
		{4, 1, 1, []byte{}, 0, api.PipeDone, api.OK},
		{4, 1, 1, []byte("x"), 0, api.PipeWait, api.OK},
		{4, 64, 1, []byte("xyzwv"), 0, api.PipeWait, api.OK},
		{1, 0, 1, []byte("x"), 0, api.PipeBreak, api.OK},
		{4, 0, 64, []byte("x"), 0, api.PipeBreak, api.OK},
		{1, 0, 1, nil, 0, api.PipeBreak, api.OK},
		{4, 0, 1, []byte{}, 0, api.PipeBreak, api.OK},
		{1, 1, 0, []byte("x"), 0, 0, api.ErrPipe},
		{4, 1, 0, []byte("x"), 0, 0, api.ErrPipe},
		{1, 1, 0, nil, 0, 0, api.ErrPipe},
	} {
		q, p := of(t, 4, []byte("abcd")[:c.had], c.readers, c.writers)
		if n, what, e := q.Write(c.b); n != c.n || what != c.what || e != c.e {
			t.Errorf("%v: %d %d %v", c, n, what, e)
		}
		p.list = append(p.list, c.b[:c.n]...)
		p.agree(t, q)
	}
}

func TestP9_2_OfGone(t *testing.T) {
	for _, had := range []int{0, 1, 3, 4} {
		q, p := state{4, had, 0, 0}.make(t)
		for _, n := range append(edges(had), far...) {
			if b, what, e := q.Read(n); len(b) != 0 || what != 0 || e != api.ErrPipe {
				t.Errorf("Read(%d) of one that is gone: %v %d %v", n, b, what, e)
			}
		}
		for _, b := range [][]byte{nil, {}, {1}, count(1, 9)} {
			if n, what, e := q.Write(b); n != 0 || what != 0 || e != api.ErrPipe {
				t.Errorf("Write(%v) into one that is gone: %d %d %v", b, n, what, e)
			}
		}
		p.agree(t, q)
	}
}

// Ready is what a call of one byte, to a copy, tells; it turns nothing.
func TestP9_2_Ready(t *testing.T) {
	for _, s := range states() {
		q, p := s.make(t)
		_, what, e := q.Copy().Read(1)
		if want := e == api.OK && what != api.PipeWait; q.Ready(false) != want {
			t.Errorf("Ready(false) of %v: %v", s, q.Ready(false))
		}
		for _, x := range []byte{0, 1, 255} {
			_, what, e = q.Copy().Write([]byte{x})
			if want := e == api.OK && what != api.PipeWait; q.Ready(true) != want {
				t.Errorf("Ready(true) of %v: %v", s, q.Ready(true))
			}
		}
		p.agree(t, q)
	}
}

func TestP9_2_ReadyTells(t *testing.T) {
	for _, c := range []struct {
		had, readers, writers int
		read, write           bool
	}{
		{0, 1, 1, false, true}, {1, 1, 1, true, true}, {2, 1, 1, true, false}, {2, 64, 64, true, false},
		{0, 1, 0, true, false}, {1, 1, 0, true, false}, {2, 1, 0, true, false},
		{0, 0, 1, false, true}, {1, 0, 1, false, true}, {2, 0, 1, false, true},
		{0, 0, 0, false, false}, {1, 0, 0, false, false}, {2, 0, 0, false, false},
	} {
		q, _ := state{2, c.had, c.readers, c.writers}.make(t)
		if q.Ready(false) != c.read || q.Ready(true) != c.write {
			t.Errorf("%v: Ready %v, %v", c, q.Ready(false), q.Ready(true))
		}
	}
}

func TestP9_2_SidesAreLeftEarly(t *testing.T) {
	q, _ := made(t, 4)
	for s, wait := range q.waiting() {
		if s != reading || !wait {
			t.Fatalf("the first side: %d %v", s, wait)
		}
		break
	}
}

func TestP9_3_Open(t *testing.T) {
	for _, s := range states() {
		for _, write := range both {
			q, p := s.make(t)
			doOpen(t, q, p, write)
			doOpen(t, q, p, write)
			doOpen(t, q, p, !write)
		}
	}
}

// A side is opened up to 64, and no more; once it has nobody, nobody opens it again.
func TestP9_3_OpenEachCount(t *testing.T) {
	for _, write := range both {
		for had := range 65 {
			q, p := state{4, 2, had, 3}.make(t)
			if write {
				q, p = state{4, 2, 3, had}.make(t)
			}
			want, is := api.OK, had+1
			if had == 0 || had == 64 {
				want, is = api.ErrPipe, had
			}
			if e := q.Open(write); e != want {
				t.Errorf("Open(%v) of %v: %v", write, *p, e)
			}
			*p.side(write) = is
			p.agree(t, q)
		}
	}
}

func TestP9_3_Close(t *testing.T) {
	for _, s := range states() {
		for _, write := range both {
			q, p := s.make(t)
			doClose(t, q, p, write)
			doClose(t, q, p, write)
			doClose(t, q, p, !write)
			doOpen(t, q, p, write)
		}
	}
}

// The last one of a side is told just there, from each count on.
func TestP9_3_CloseTellsTheLast(t *testing.T) {
	for _, write := range both {
		for from := 1; from <= 64; from++ {
			q, p := of(t, 4, []byte{5}, from, from)
			for left := from - 1; left >= 0; left-- {
				if last, e := q.Close(write); last != (left == 0) || e != api.OK {
					t.Fatalf("Close(%v), %d left: %v %v", write, left, last, e)
				}
				*p.side(write) = left
				p.agree(t, q)
			}
			if last, e := q.Close(write); last || e != api.ErrPipe {
				t.Fatalf("Close(%v) of none: %v %v", write, last, e)
			}
			p.agree(t, q)
		}
	}
}

func TestP9_3_Gone(t *testing.T) {
	for readers := range 65 {
		for writers := range 65 {
			if readers+writers == 0 {
				continue
			}
			q, p := of(t, 1, nil, readers, writers)
			for range readers {
				doClose(t, q, p, false)
			}
			for left := writers; left > 0; left-- {
				if q.Gone() {
					t.Fatalf("Gone with %d writers", left)
				}
				doClose(t, q, p, true)
			}
			if !q.Gone() {
				t.Fatalf("not Gone, behind %d and %d closes", readers, writers)
			}
		}
	}
}

// What stands in it stays when it is gone.
func TestP9_3_GoneKeepsItsBytes(t *testing.T) {
	q, p := of(t, 3, []byte{1, 2}, 2, 1)
	doClose(t, q, p, true)
	doClose(t, q, p, false)
	doClose(t, q, p, false)
	if !q.Gone() || !bytes.Equal(q.All(), []byte{1, 2}) || q.Cap() != 3 || q.Readers() != 0 || q.Writers() != 0 {
		t.Errorf("Gone %v, All %v, Cap %d, Readers %d, Writers %d", q.Gone(), q.All(), q.Cap(), q.Readers(), q.Writers())
	}
	for _, write := range both {
		doOpen(t, q, p, write)
		doClose(t, q, p, write)
	}
}

func TestP9_3_Copy(t *testing.T) {
	for _, s := range states() {
		q, p := s.make(t)
		c := q.Copy()
		if c == nil || c == q {
			t.Fatalf("Copy of %p: %p", q, c)
		}
		p.agree(t, c)
		p.agree(t, q)
		p.agree(t, c.Copy())
	}
}

// Neither of the two is turned by calls on the other one.
func TestP9_3_CopiesAreApart(t *testing.T) {
	for _, s := range states() {
		for _, which := range []int{0, 1} {
			q, p := s.make(t)
			pair := []*Pipe{q, q.Copy()}
			one, other := pair[which], pair[1-which]
			r := p.clone()
			for _, call := range []func(){
				func() { doWrite(t, one, r, []byte{50, 51, 52}) },
				func() { doRead(t, one, r, 2) },
				func() { doOpen(t, one, r, false) },
				func() { doOpen(t, one, r, true) },
				func() { doWrite(t, one, r, count(60, 64)) },
				func() { doClose(t, one, r, true) },
				func() { doClose(t, one, r, false) },
				func() { doRead(t, one, r, 64) },
			} {
				call()
				p.agree(t, other)
			}
			doWrite(t, other, p, []byte{70})
			doRead(t, other, p, 9)
			doClose(t, other, p, false)
			r.agree(t, one)
		}
	}
}

// nothing holds what calls on a pipe that nobody made answer.
func nothing(t *testing.T, q *Pipe) {
	t.Helper()
	for _, n := range append(far, -1, 0, 1, 64) {
		if b, what, e := q.Read(n); len(b) != 0 || what != 0 || e != api.ErrNil {
			t.Errorf("Read(%d): %v %d %v", n, b, what, e)
		}
	}
	for _, b := range [][]byte{nil, {}, {0}, {7, 8}, count(0, 64), count(0, 65)} {
		if n, what, e := q.Write(b); n != 0 || what != 0 || e != api.ErrNil {
			t.Errorf("Write of %d bytes: %d %d %v", len(b), n, what, e)
		}
	}
	for _, write := range both {
		if q.Ready(write) {
			t.Errorf("Ready(%v)", write)
		}
		if e := q.Open(write); e != api.ErrNil {
			t.Errorf("Open(%v): %v", write, e)
		}
		if last, e := q.Close(write); last || e != api.ErrNil {
			t.Errorf("Close(%v): %v %v", write, last, e)
		}
	}
	if len(q.All()) != 0 || q.Cap() != 0 || q.Readers() != 0 || q.Writers() != 0 || q.Gone() {
		t.Errorf("All %v, Cap %d, Readers %d, Writers %d, Gone %v", q.All(), q.Cap(), q.Readers(), q.Writers(), q.Gone())
	}
	if c := q.Copy(); c != nil {
		t.Errorf("Copy: %v", c)
	}
}

func TestP9_3_None(t *testing.T) {
	var q *Pipe
	nothing(t, q)
	q, _ = New(0)
	nothing(t, q)
	q, _ = Of(4, nil, 0, 0)
	nothing(t, q)
}

func TestP9_3_NotMade(t *testing.T) {
	var zero Pipe
	for _, q := range []*Pipe{&zero, {}, new(Pipe)} {
		nothing(t, q)
		nothing(t, q)
		if *q != (Pipe{}) {
			t.Errorf("one that nobody made was turned: %v", *q)
		}
	}
}

func TestP9_4_WhatIsHandedInIsNotKept(t *testing.T) {
	for _, capacity := range []int{3, 4, 63, 64} {
		b := []byte{1, 2, 3}
		q, p := of(t, capacity, b, 1, 1)
		clear(b)
		p.agree(t, q)
		doRead(t, q, p, 2)
		b = []byte{4, 5, 6, 7}
		doWrite(t, q, p, b)
		clear(b)
		p.agree(t, q)
		doRead(t, q, p, 64)
	}
}

func TestP9_4_WhatIsHandedInIsOnlyRead(t *testing.T) {
	for _, s := range states() {
		space := count(1, 20)
		b := space[2:6]
		q, p := s.make(t)
		for range 3 {
			doWrite(t, q, p, b)
			doRead(t, q, p, 3)
		}
		if s.capacity > 3 && s.readers > 0 {
			q, p = of(t, s.capacity, b, s.readers, s.writers)
			doRead(t, q, p, 3)
			doWrite(t, q, p, b)
			doRead(t, q, p, 9)
		}
		if !bytes.Equal(space, count(1, 20)) {
			t.Fatalf("what was handed in was turned: %v", space)
		}
	}
}

// spoil writes over bytes, and over what memory they have behind them.
func spoil(b []byte) {
	b = b[:cap(b)]
	for i := range b {
		b[i] = 99
	}
}

func TestP9_4_WhatIsAnsweredIsNew(t *testing.T) {
	q, p := of(t, 6, []byte{1, 2, 3, 4, 5}, 1, 1)
	for n := range 70 {
		spoil(q.All())
		p.agree(t, q)
		b, _, _ := q.Read(n % 4)
		p.read(n % 4)
		spoil(b)
		p.agree(t, q)
		doWrite(t, q, p, count(n, 2))
		c := q.Copy()
		spoil(c.All())
		b, _, _ = c.Read(3)
		spoil(b)
		p.agree(t, q)
	}
}

func TestP9_4_WhatWasAnsweredStays(t *testing.T) {
	q, p := of(t, 4, []byte{1, 2, 3, 4}, 1, 1)
	all := q.All()
	read, _, _ := q.Read(2)
	p.read(2)
	for i := range 70 {
		doWrite(t, q, p, []byte{byte(100 + i), byte(101 + i)})
		doRead(t, q, p, 2)
	}
	if !bytes.Equal(all, []byte{1, 2, 3, 4}) || !bytes.Equal(read, []byte{1, 2}) {
		t.Fatalf("what had been told was turned: %v %v", all, read)
	}
}

// Bytes come out in order, each once, however they are cut, and the end is told behind the last of them, not before.
func TestP9_5_OrderAndEndOfALongText(t *testing.T) {
	for capacity := 1; capacity <= 64; capacity++ {
		x := rand.New(rand.NewSource(int64(capacity)))
		text := make([]byte, 2000)
		x.Read(text)
		q, _ := made(t, capacity)
		var out []byte
		for in := 0; in < len(text); {
			n, what, e := q.Write(text[in:min(len(text), in+x.Intn(capacity+2))])
			if e != api.OK || what == api.PipeWait && in-len(out) != capacity {
				t.Fatalf("Write with %d in it, of %d: %d %d %v", in-len(out), capacity, n, what, e)
			}
			in += n
			b, what, e := q.Read(x.Intn(capacity + 2))
			if e != api.OK || what == api.PipeWait && in != len(out) || what == api.PipeEnd {
				t.Fatalf("Read with %d in it: %v %d %v", in-len(out), b, what, e)
			}
			out = append(out, b...)
		}
		if last, e := q.Close(true); !last || e != api.OK {
			t.Fatalf("Close(true): %v %v", last, e)
		}
		for len(out) < len(text) {
			b, what, e := q.Read(1 + x.Intn(3))
			if what != api.PipeDone || e != api.OK || len(b) == 0 {
				t.Fatalf("Read with %d in it: %v %d %v", len(text)-len(out), b, what, e)
			}
			out = append(out, b...)
		}
		if !bytes.Equal(out, text) {
			t.Fatalf("the bytes came out otherwise, at capacity %d", capacity)
		}
		theEnd(t, q)
	}
}

// theEnd holds that the end is told from now on, whatever is asked.
func theEnd(t *testing.T, q *Pipe) {
	t.Helper()
	for i := range 20 {
		if b, what, e := q.Read(1 + i); len(b) != 0 || what != api.PipeEnd || e != api.OK || !q.Ready(false) {
			t.Fatalf("Read behind the end: %v %d %v", b, what, e)
		}
		if e := q.Open(true); e != api.ErrPipe {
			t.Fatalf("Open(true) behind the end: %v", e)
		}
		if n, what, e := q.Write([]byte{1}); n != 0 || what != 0 || e != api.ErrPipe {
			t.Fatalf("Write behind the end: %d %d %v", n, what, e)
		}
		q.Open(false)
	}
}

// The end is told just when all bytes came out and nobody writes any more, with each count of those who wrote.
func TestP9_5_EndBehindTheLastWriter(t *testing.T) {
	for writers := 1; writers <= 64; writers++ {
		q, p := of(t, 4, []byte("ab"), 1, writers)
		doRead(t, q, p, 9)
		for range writers - 1 {
			if _, what, _ := q.Read(1); what != api.PipeWait {
				t.Fatalf("Read with %d writers: %d", q.Writers(), what)
			}
			doClose(t, q, p, true)
		}
		doWrite(t, q, p, []byte("c"))
		doClose(t, q, p, true)
		if b, what, _ := q.Read(1); string(b) != "c" || what != api.PipeDone {
			t.Fatalf("Read of the last one: %s %d", b, what)
		}
		theEnd(t, q)
	}
}

func TestP9_5_NobodyWaitsForNobody(t *testing.T) {
	for _, s := range states() {
		q, _ := s.make(t)
		if s.writers == 0 {
			for _, n := range append(edges(s.had), far...) {
				if _, what, _ := q.Copy().Read(n); what == api.PipeWait {
					t.Errorf("Read(%d) of %v waits", n, s)
				}
			}
		}
		if s.readers == 0 {
			for _, n := range append(edges(s.capacity-s.had), 64, 65) {
				if _, what, _ := q.Copy().Write(count(1, n)); what == api.PipeWait {
					t.Errorf("Write of %d into %v waits", n, s)
				}
			}
		}
	}
}

// anyCall does some call to a pipe and to what it has to be. Calls that close are as likely as the runs want them.
func anyCall(t *testing.T, x *rand.Rand, q *Pipe, p *plain, closing bool) {
	t.Helper()
	n := x.Intn(p.capacity+4) - 2
	write := x.Intn(2) == 0
	switch x.Intn(8) {
	case 0, 1, 2:
		doWrite(t, q, p, count(x.Intn(256), n))
	case 3, 4, 5:
		doRead(t, q, p, n)
	case 6:
		doOpen(t, q, p, write)
	default:
		if closing || *p.side(write) > 1 {
			doClose(t, q, p, write)
		}
	}
}

func TestP9_5_AnyCalls(t *testing.T) {
	for capacity := 1; capacity <= 64; capacity++ {
		x := rand.New(rand.NewSource(int64(capacity)))
		q, p := made(t, capacity)
		for range 600 {
			anyCall(t, x, q, p, false)
			if x.Intn(50) == 0 {
				old, was := q, p.clone()
				q = q.Copy()
				anyCall(t, x, q, p, false)
				was.agree(t, old)
			}
		}
	}
}

// Runs that come to where one side has nobody, and to where none has.
func TestP9_5_AnyCallsToTheEnd(t *testing.T) {
	gone := 0
	for seed := range 640 {
		x := rand.New(rand.NewSource(int64(-1 - seed)))
		q, p := of(t, 1+seed%64, count(seed, x.Intn(2+seed%64)), x.Intn(4), 1+x.Intn(3))
		for range 120 {
			anyCall(t, x, q, p, true)
		}
		if q.Gone() {
			gone++
		}
	}
	if gone < 10 {
		t.Errorf("only %d runs came to where nobody is there", gone)
	}
}

// A pipe behind any calls, and a new one made of what it tells, answer the same from then on.
func TestP9_5_MadeAnew(t *testing.T) {
	for capacity := 1; capacity <= 64; capacity++ {
		x := rand.New(rand.NewSource(int64(1000 + capacity)))
		q, p := of(t, capacity, nil, 3, 3)
		for range 20 {
			for range x.Intn(20) {
				anyCall(t, x, q, p, false)
			}
			anew, r := of(t, q.Cap(), q.All(), q.Readers(), q.Writers())
			seed := x.Int63()
			one, other := rand.New(rand.NewSource(seed)), rand.New(rand.NewSource(seed))
			for range 20 {
				anyCall(t, one, q, p, false)
				anyCall(t, other, anew, r, false)
				p.agree(t, anew)
			}
		}
	}
}

func TestExamplesOfLayer9(t *testing.T) {
	q, e := New(4)
	if e != api.OK {
		t.Fatalf("New(4): %v", e)
	}
	if b, what, e := q.Read(1); len(b) != 0 || what != api.PipeWait || e != api.OK {
		t.Errorf("Read(1): %s %d %v", b, what, e)
	}
	if n, what, e := q.Write([]byte("abcdef")); n != 4 || what != api.PipeDone || e != api.OK {
		t.Errorf("Write(abcdef): %d %d %v", n, what, e)
	}
	if b, what, e := q.Read(9); string(b) != "abcd" || what != api.PipeDone || e != api.OK {
		t.Errorf("Read(9): %s %d %v", b, what, e)
	}
	if last, e := q.Close(true); !last || e != api.OK {
		t.Errorf("Close(true): %v %v", last, e)
	}
	if b, what, e := q.Read(1); len(b) != 0 || what != api.PipeEnd || e != api.OK {
		t.Errorf("Read(1): %s %d %v", b, what, e)
	}
	if last, e := q.Close(false); !last || e != api.OK || !q.Gone() {
		t.Errorf("Close(false): %v %v, Gone %v", last, e, q.Gone())
	}
	if n, what, e := q.Write([]byte("a")); n != 0 || what != 0 || e != api.ErrPipe {
		t.Errorf("Write(a): %d %d %v", n, what, e)
	}
	q, _ = New(4)
	if last, e := q.Close(false); !last || e != api.OK {
		t.Errorf("Close(false): %v %v", last, e)
	}
	if n, what, e := q.Write([]byte("a")); n != 0 || what != api.PipeBreak || e != api.OK {
		t.Errorf("Write(a): %d %d %v", n, what, e)
	}
}
