package files_test

import (
	"math/rand"
	"slices"
	"testing"

	"carryall/api"
	"carryall/files"
)

// eight are descriptors as the chapter's words say it: of each one the number, -1 of those that are free.
type eight [8]int

func none() *eight {
	return &eight{-1, -1, -1, -1, -1, -1, -1, -1}
}

func (p *eight) get(fd int) int {
	if fd < 0 || fd > 7 {
		return -1
	}
	return p[fd]
}

func (p *eight) least() int {
	return slices.Index(p[:], -1)
}

func (p *eight) put(n int) (int, api.Errno) {
	fd := p.least()
	if n < 0 || n > 63 {
		return 0, api.ErrArg
	}
	if fd < 0 {
		return 0, api.ErrFds
	}
	p[fd] = n
	return fd, api.OK
}

func (p *eight) set(fd, n int) api.Errno {
	if n < 0 || n > 63 {
		return api.ErrArg
	}
	if fd < 0 || fd > 7 || p[fd] != -1 {
		return api.ErrFd
	}
	p[fd] = n
	return api.OK
}

func (p *eight) close(fd int) (int, api.Errno) {
	n := p.get(fd)
	if n < 0 {
		return 0, api.ErrFd
	}
	p[fd] = -1
	return n, api.OK
}

func (p *eight) dup(fd int) (int, api.Errno) {
	if p.get(fd) < 0 {
		return 0, api.ErrFd
	}
	return p.put(p.get(fd))
}

// agree holds all that descriptors tell against what they have to.
func (p *eight) agree(t *testing.T, d *files.Fds) {
	t.Helper()
	if l := d.List(); !slices.Equal(l, p[:]) {
		t.Fatalf("List %v, not %v", l, *p)
	}
	many := 0
	for _, fd := range append([]int{-1, 0, 1, 2, 3, 4, 5, 6, 7, 8}, far...) {
		if d.Get(fd) != p.get(fd) {
			t.Fatalf("Get(%d): %d, not %d", fd, d.Get(fd), p.get(fd))
		}
		if p.get(fd) >= 0 {
			many++
		}
	}
	if d.Len() != many {
		t.Fatalf("Len %d, not %d", d.Len(), many)
	}
}

func doPut(t *testing.T, d *files.Fds, p *eight, n int) {
	t.Helper()
	want, wantE := p.put(n)
	if fd, e := d.Put(n); fd != want || e != wantE {
		t.Fatalf("Put(%d): %d %v, not %d %v", n, fd, e, want, wantE)
	}
	p.agree(t, d)
}

func doSet(t *testing.T, d *files.Fds, p *eight, fd, n int) {
	t.Helper()
	want := p.set(fd, n)
	if e := d.Set(fd, n); e != want {
		t.Fatalf("Set(%d, %d): %v, not %v", fd, n, e, want)
	}
	p.agree(t, d)
}

func doClose(t *testing.T, d *files.Fds, p *eight, fd int) {
	t.Helper()
	want, wantE := p.close(fd)
	if n, e := d.Close(fd); n != want || e != wantE {
		t.Fatalf("Close(%d): %d %v, not %d %v", fd, n, e, want, wantE)
	}
	p.agree(t, d)
}

func doDup(t *testing.T, d *files.Fds, p *eight, fd int) {
	t.Helper()
	want, wantE := p.dup(fd)
	if got, e := d.Dup(fd); got != want || e != wantE {
		t.Fatalf("Dup(%d): %d %v, not %d %v", fd, got, e, want, wantE)
	}
	p.agree(t, d)
}

// taken are descriptors of which those are not free whose bits there are, each of another number.
func taken(t *testing.T, bits int) (*files.Fds, *eight) {
	t.Helper()
	d, p := new(files.Fds), none()
	for fd := range 8 {
		if bits>>fd&1 == 1 {
			doSet(t, d, p, fd, (fd*9+bits)%64)
		}
	}
	return d, p
}

// fds are descriptors, at the edges, and some that there are not.
var fds = append([]int{-1, 0, 1, 2, 3, 4, 5, 6, 7, 8}, far...)

// ofFiles are numbers of open files, at the edges, and some that are none.
var ofFiles = append([]int{-1, 0, 1, 7, 8, 15, 16, 62, 63, 64}, far...)

// Each number is put where any of the descriptors are free, all and none of them too.
func TestP10_2_Put(t *testing.T) {
	for bits := range 256 {
		for _, n := range ofFiles {
			d, p := taken(t, bits)
			doPut(t, d, p, n)
		}
	}
}

func TestP10_2_PutOfEachNumber(t *testing.T) {
	for n := range 64 {
		var d files.Fds
		if fd, e := d.Put(n); fd != 0 || e != api.OK || d.Get(0) != n {
			t.Fatalf("Put(%d): %d %v, Get %d", n, fd, e, d.Get(0))
		}
		if e := d.Set(7, n); e != api.OK || d.Get(7) != n || d.Len() != 2 {
			t.Fatalf("Set(7, %d): %v, Get %d, Len %d", n, e, d.Get(7), d.Len())
		}
	}
}

// The least free descriptor is taken, up to the last one.
func TestP10_2_PutTakesTheLeast(t *testing.T) {
	d, p := new(files.Fds), none()
	for want := range 8 {
		if fd, e := d.Put(63 - want); fd != want || e != api.OK {
			t.Fatalf("Put: %d %v, not %d", fd, e, want)
		}
		p.put(63 - want)
		p.agree(t, d)
	}
	if fd, e := d.Put(0); fd != 0 || e != api.ErrFds {
		t.Fatalf("Put, none free: %d %v", fd, e)
	}
	for _, fd := range []int{6, 0, 7, 3} {
		doClose(t, d, p, fd)
	}
	for _, want := range []int{0, 3, 6, 7} {
		if fd, e := d.Put(want); fd != want || e != api.OK {
			t.Fatalf("Put: %d %v, not %d", fd, e, want)
		}
	}
}

// A number that may not be is told ahead of there being no descriptor, and of what is wrong with one.
func TestP10_2_WhichErrorFirst(t *testing.T) {
	full, p := taken(t, 255)
	for _, n := range append([]int{-1, 64}, far...) {
		if fd, e := full.Put(n); fd != 0 || e != api.ErrArg {
			t.Errorf("Put(%d), none free: %d %v", n, fd, e)
		}
		for _, fd := range fds {
			if e := full.Set(fd, n); e != api.ErrArg {
				t.Errorf("Set(%d, %d): %v", fd, n, e)
			}
		}
	}
	for _, n := range []int{0, 63} {
		if fd, e := full.Put(n); fd != 0 || e != api.ErrFds {
			t.Errorf("Put(%d), none free: %d %v", n, fd, e)
		}
		for _, fd := range fds {
			if e := full.Set(fd, n); e != api.ErrFd {
				t.Errorf("Set(%d, %d): %v", fd, n, e)
			}
		}
	}
	p.agree(t, full)
}

// Set, Close and Dup of each descriptor, where any of them are free.
func TestP10_2_EachDescriptor(t *testing.T) {
	for bits := range 256 {
		for _, fd := range fds {
			for _, n := range []int{-1, 0, 63, 64} {
				d, p := taken(t, bits)
				doSet(t, d, p, fd, n)
			}
			d, p := taken(t, bits)
			doDup(t, d, p, fd)
			doClose(t, d, p, fd)
			doClose(t, d, p, fd)
			doDup(t, d, p, fd)
			doSet(t, d, p, fd, 40)
			doDup(t, d, p, fd)
		}
	}
}

func TestP10_2_DescriptorsThatAreFree(t *testing.T) {
	for _, bits := range []int{0, 0b01111110, 0b11000011} {
		d, p := taken(t, bits)
		for _, fd := range fds {
			if p.get(fd) >= 0 {
				continue
			}
			if n, e := d.Close(fd); n != 0 || e != api.ErrFd {
				t.Errorf("Close(%d): %d %v", fd, n, e)
			}
			if n, e := d.Dup(fd); n != 0 || e != api.ErrFd {
				t.Errorf("Dup(%d): %d %v", fd, n, e)
			}
			if d.Get(fd) != -1 {
				t.Errorf("Get(%d): %d", fd, d.Get(fd))
			}
		}
		p.agree(t, d)
	}
}

// A descriptor that there is not is told ahead of there being none free.
func TestP10_2_DupWithFewFree(t *testing.T) {
	full, p := taken(t, 255)
	for _, fd := range fds {
		want := api.ErrFd
		if p.get(fd) >= 0 {
			want = api.ErrFds
		}
		if got, e := full.Dup(fd); got != 0 || e != want {
			t.Errorf("Dup(%d), none free: %d %v, not %v", fd, got, e, want)
		}
	}
	p.agree(t, full)
	for alone := range 8 {
		for fd := range 8 {
			d, p := taken(t, 255&^(1<<alone))
			doDup(t, d, p, fd)
			doDup(t, d, p, fd)
		}
	}
}

func TestP10_2_FdsOfNone(t *testing.T) {
	var d *files.Fds
	for _, fd := range fds {
		for _, n := range ofFiles {
			if e := d.Set(fd, n); e != api.ErrNil {
				t.Errorf("Set(%d, %d): %v", fd, n, e)
			}
		}
		if n, e := d.Close(fd); n != 0 || e != api.ErrNil {
			t.Errorf("Close(%d): %d %v", fd, n, e)
		}
		if n, e := d.Dup(fd); n != 0 || e != api.ErrNil {
			t.Errorf("Dup(%d): %d %v", fd, n, e)
		}
		if d.Get(fd) != -1 {
			t.Errorf("Get(%d): %d", fd, d.Get(fd))
		}
	}
	for _, n := range ofFiles {
		if fd, e := d.Put(n); fd != 0 || e != api.ErrNil {
			t.Errorf("Put(%d): %d %v", n, fd, e)
		}
	}
	if len(d.List()) != 0 || d.Len() != 0 || d.Copy() != nil {
		t.Errorf("List %v, Len %d, Copy %v", d.List(), d.Len(), d.Copy())
	}
}

// Descriptors that nobody made are free, and take calls as any other.
func TestP10_2_FdsThatNobodyMade(t *testing.T) {
	var zero files.Fds
	for _, d := range []*files.Fds{&zero, new(files.Fds), {}} {
		p := none()
		p.agree(t, d)
		doClose(t, d, p, 0)
		doDup(t, d, p, 0)
		doSet(t, d, p, 7, 0)
		doPut(t, d, p, 0)
		doDup(t, d, p, 7)
		doClose(t, d, p, 0)
	}
}

func TestP10_2_FdsAreApart(t *testing.T) {
	d, p := taken(t, 0b101)
	c, q := taken(t, 0b110)
	doPut(t, d, p, 33)
	doClose(t, d, p, 2)
	q.agree(t, c)
	doDup(t, c, q, 1)
	p.agree(t, d)
}

// anyFds does one call, or one that is refused. The greater full is, of 10, the more are taken.
func anyFds(t *testing.T, x *rand.Rand, d *files.Fds, p *eight, full int) {
	t.Helper()
	fd, n := x.Intn(10)-1, x.Intn(66)-1
	if x.Intn(10) >= full {
		doClose(t, d, p, fd)
		return
	}
	switch x.Intn(3) {
	case 0:
		doPut(t, d, p, n)
	case 1:
		doSet(t, d, p, fd, n)
	default:
		doDup(t, d, p, fd)
	}
}

// Any calls, in turns that fill all descriptors and turns that empty them, answer what a plain list of eight numbers does.
func TestP10_2_AnyCalls(t *testing.T) {
	filled, emptied := 0, 0
	for seed := range 50 {
		x := rand.New(rand.NewSource(int64(seed)))
		d, p := new(files.Fds), none()
		for turn := range 8 {
			for range 100 {
				anyFds(t, x, d, p, []int{9, 5, 1, 6}[turn%4])
				switch d.Len() {
				case 8:
					filled++
				case 0:
					emptied++
				}
			}
		}
	}
	if filled < 1000 || emptied < 1000 {
		t.Errorf("none was free %d times, all %d times", filled, emptied)
	}
}

func TestP10_3_CopyOfFds(t *testing.T) {
	for bits := range 256 {
		d, p := taken(t, bits)
		c := d.Copy()
		if c == nil || c == d {
			t.Fatalf("Copy: %v", c)
		}
		p.agree(t, c)
		p.agree(t, c.Copy())
		p.agree(t, d)
	}
}

// Neither the copied one nor its copy is turned by calls on the other one.
func TestP10_3_CopiesOfFdsAreApart(t *testing.T) {
	for seed := range 100 {
		x := rand.New(rand.NewSource(int64(seed)))
		d, p := new(files.Fds), none()
		for range x.Intn(20) {
			anyFds(t, x, d, p, 7)
		}
		q := *p
		pair, plain := []*files.Fds{d, d.Copy()}, []*eight{p, &q}
		for range 100 {
			k := x.Intn(2)
			anyFds(t, x, pair[k], plain[k], 5)
			plain[1-k].agree(t, pair[1-k])
		}
	}
}

func TestP10_3_CopyOfFdsTurned(t *testing.T) {
	for turned := range 2 {
		d, p := taken(t, 0b1011)
		q := *p
		pair, plain := []*files.Fds{d, d.Copy()}, []*eight{p, &q}
		doClose(t, pair[turned], plain[turned], 0)
		doDup(t, pair[turned], plain[turned], 1)
		doPut(t, pair[turned], plain[turned], 50)
		doSet(t, pair[turned], plain[turned], 7, 51)
		plain[1-turned].agree(t, pair[1-turned])
		doPut(t, pair[1-turned], plain[1-turned], 52)
		plain[turned].agree(t, pair[turned])
	}
}

func TestP10_3_CopyOfFdsThatNobodyMade(t *testing.T) {
	var zero files.Fds
	d := zero.Copy()
	if d == nil {
		t.Fatal("Copy of those that nobody made is none")
	}
	none().agree(t, d)
	doPut(t, d, none(), 1)
	none().agree(t, &zero)
}

// What List answered stays as it is, and descriptors stay as they are when it is written over.
func TestP10_4_ListIsNewMemory(t *testing.T) {
	for bits := range 256 {
		d, p := taken(t, bits)
		want := *p
		one, other := d.List(), d.List()
		for fd := range 8 {
			doClose(t, d, p, fd)
		}
		doPut(t, d, p, 44)
		doSet(t, d, p, 7, 45)
		if !slices.Equal(one, want[:]) || !slices.Equal(other, want[:]) {
			t.Fatalf("List %v and %v behind other calls, not %v", one, other, want)
		}
		for i := range one {
			one[i] = 46
		}
		if !slices.Equal(other, want[:]) {
			t.Fatalf("List %v, another one written over, not %v", other, want)
		}
		p.agree(t, d)
	}
}

// A descriptor's twin is of the same number, and stays so when the first one is closed.
func TestP10_5_Twins(t *testing.T) {
	for fd := range 8 {
		for _, n := range []int{0, 1, 31, 62, 63} {
			var d files.Fds
			d.Set(fd, n)
			twin, e := d.Dup(fd)
			if e != api.OK || twin == fd || d.Get(twin) != n || d.Get(fd) != n {
				t.Fatalf("Dup(%d): %d %v, List %v", fd, twin, e, d.List())
			}
			third, e := d.Dup(twin)
			if e != api.OK || d.Get(third) != n || d.Len() != 3 {
				t.Fatalf("Dup(%d): %d %v, List %v", twin, third, e, d.List())
			}
			if got, e := d.Close(fd); got != n || e != api.OK || d.Get(fd) != -1 || d.Get(twin) != n {
				t.Fatalf("Close(%d): %d %v, List %v", fd, got, e, d.List())
			}
			if e := d.Set(fd, 63-n); e != api.OK || d.Get(twin) != n || d.Get(third) != n {
				t.Fatalf("Set(%d, %d): %v, List %v", fd, 63-n, e, d.List())
			}
		}
	}
}

// Each descriptor is of just what was put there last, however often it was closed before.
func TestP10_5_WhatWasPutLast(t *testing.T) {
	d, p := taken(t, 255)
	for n := range 64 {
		for fd := range 8 {
			doClose(t, d, p, fd)
			doPut(t, d, p, (n+fd)%64)
			if d.Get(fd) != (n+fd)%64 {
				t.Fatalf("Get(%d): %d, not %d", fd, d.Get(fd), (n+fd)%64)
			}
		}
	}
}

// What was put and duplicated, and closed as often, leaves no trace.
func TestP10_5_NoTraceOfFds(t *testing.T) {
	for bits := range 256 {
		d, p := taken(t, bits)
		var own []int
		for d.Len() < 8 {
			fd, e := d.Put(bits % 64)
			if len(own) > 0 {
				d.Close(fd)
				fd, e = d.Dup(own[0])
			}
			if e != api.OK {
				t.Fatalf("List %v: %v", d.List(), e)
			}
			own = append(own, fd)
		}
		for _, fd := range own {
			if n, e := d.Close(fd); n != bits%64 || e != api.OK {
				t.Fatalf("Close(%d): %d %v", fd, n, e)
			}
		}
		p.agree(t, d)
	}
}

// Descriptors of many, with the open files that they are of: each file's count is how many descriptors are of it, and with all of them closed none is open.
func TestP10_5_FilesAndTheirDescriptors(t *testing.T) {
	for seed := range 40 {
		x := rand.New(rand.NewSource(int64(900 + seed)))
		var f files.Files
		var of [12]files.Fds
		for range 400 {
			switch d := &of[x.Intn(len(of))]; x.Intn(3) {
			case 0:
				openInto(t, &f, d, nth(x.Intn(64)))
			case 1:
				dupOf(t, &f, d, x.Intn(8))
			default:
				closeOf(t, &f, d, x.Intn(8))
			}
			counted(t, &f, of[:])
		}
		for i := range of {
			for fd := range 8 {
				closeOf(t, &f, &of[i], fd)
			}
		}
		new(table).agree(t, &f)
	}
}

func openInto(t *testing.T, f *files.Files, d *files.Fds, x api.File) {
	t.Helper()
	n, e := f.Open(x)
	if e == api.ErrFiles {
		return
	}
	if _, e := d.Put(n); e == api.ErrFds {
		if left, was, e := f.Drop(n); left != 0 || was != x || e != api.OK {
			t.Fatalf("Drop(%d): %d %v %v", n, left, was, e)
		}
	}
}

func dupOf(t *testing.T, f *files.Files, d *files.Fds, fd int) {
	t.Helper()
	if _, e := d.Dup(fd); e != api.OK {
		return
	}
	if e := f.Share(d.Get(fd)); e != api.OK {
		t.Fatalf("Share(%d): %v", d.Get(fd), e)
	}
}

func closeOf(t *testing.T, f *files.Files, d *files.Fds, fd int) {
	t.Helper()
	n, e := d.Close(fd)
	if e != api.OK {
		return
	}
	if _, _, e := f.Drop(n); e != api.OK {
		t.Fatalf("Drop(%d): %v", n, e)
	}
}

func counted(t *testing.T, f *files.Files, of []files.Fds) {
	t.Helper()
	var counts [64]int
	for i := range of {
		for _, n := range of[i].List() {
			if n >= 0 {
				counts[n]++
			}
		}
	}
	for n, want := range counts {
		if f.Refs(n) != want {
			t.Fatalf("Refs(%d): %d, with %d descriptors", n, f.Refs(n), want)
		}
	}
}

func TestExamplesOfLayer10OfFds(t *testing.T) {
	d, p := new(files.Fds), none()
	doPut(t, d, p, 5)
	doPut(t, d, p, 6)
	if fd, e := d.Dup(0); fd != 2 || e != api.OK {
		t.Errorf("Dup(0): %d %v", fd, e)
	}
	if n, e := d.Close(1); n != 6 || e != api.OK {
		t.Errorf("Close(1): %d %v", n, e)
	}
	if fd, e := d.Put(7); fd != 1 || e != api.OK {
		t.Errorf("Put(7): %d %v", fd, e)
	}
	if l := d.List(); !slices.Equal(l, []int{5, 7, 5, -1, -1, -1, -1, -1}) {
		t.Errorf("List: %v", l)
	}
	if n, e := d.Close(7); n != 0 || e != api.ErrFd {
		t.Errorf("Close(7): %d %v", n, e)
	}
	if n, e := d.Dup(8); n != 0 || e != api.ErrFd {
		t.Errorf("Dup(8): %d %v", n, e)
	}
}
