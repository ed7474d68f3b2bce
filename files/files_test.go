package files_test

import (
	"math"
	"math/rand"
	"slices"
	"testing"

	"carryall/api"
	"carryall/files"
)

// table is what is open, as the chapter's words say it: of each of 64 numbers what it is, and its count, 0 of those that are free.
type table struct {
	files  [64]api.File
	counts [64]int
}

func (p *table) count(n int) int {
	if n < 0 || n > 63 {
		return 0
	}
	return p.counts[n]
}

func (p *table) used() []int {
	var l []int
	for n, c := range p.counts {
		if c > 0 {
			l = append(l, n)
		}
	}
	return l
}

func (p *table) open(x api.File) (int, api.Errno) {
	if x.Pipe < 0 || x.Pipe > 15 {
		return 0, api.ErrArg
	}
	for n, c := range p.counts {
		if c == 0 {
			p.files[n], p.counts[n] = x, 1
			return n, api.OK
		}
	}
	return 0, api.ErrFiles
}

func (p *table) share(n int) api.Errno {
	if p.count(n) == 0 {
		return api.ErrFile
	}
	p.counts[n]++
	return api.OK
}

func (p *table) drop(n int) (int, api.File, api.Errno) {
	if p.count(n) == 0 {
		return 0, api.File{}, api.ErrFile
	}
	p.counts[n]--
	return p.counts[n], p.files[n], api.OK
}

// far are numbers that are none of anything, also where a narrower kind of number would take them for one.
var far = []int{-2, -64, -63, -9, 9 - 256, 65, 66, 127, 128, 256, 257, 1 << 16, 1<<32 + 1, 1 << 32, -1 << 32, math.MaxInt, math.MaxInt - 1, math.MinInt, math.MinInt + 1}

// around are all numbers of open files, with some that are none.
func around() []int {
	l := slices.Clone(far)
	for n := -1; n <= 64; n++ {
		l = append(l, n)
	}
	return l
}

var numbers = around()

// agree holds all that open files tell against what they have to.
func (p *table) agree(t *testing.T, f *files.Files) {
	t.Helper()
	used := p.used()
	if got := f.Used(); !slices.Equal(got, used) {
		t.Fatalf("Used %v, not %v", got, used)
	}
	if f.Free() != 64-len(used) {
		t.Fatalf("Free %d, with %d used", f.Free(), len(used))
	}
	for _, n := range numbers {
		var want api.File
		if p.count(n) > 0 {
			want = p.files[n]
		}
		if x, ok := f.Get(n); x != want || ok != (p.count(n) > 0) {
			t.Fatalf("Get(%d): %v %v, not %v, of count %d", n, x, ok, want, p.count(n))
		}
		if f.Refs(n) != p.count(n) {
			t.Fatalf("Refs(%d): %d, not %d", n, f.Refs(n), p.count(n))
		}
	}
}

func doOpen(t *testing.T, f *files.Files, p *table, x api.File) {
	t.Helper()
	want, wantE := p.open(x)
	if n, e := f.Open(x); n != want || e != wantE {
		t.Fatalf("Open(%v): %d %v, not %d %v", x, n, e, want, wantE)
	}
	p.agree(t, f)
}

func doShare(t *testing.T, f *files.Files, p *table, n int) {
	t.Helper()
	want := p.share(n)
	if e := f.Share(n); e != want {
		t.Fatalf("Share(%d): %v, not %v", n, e, want)
	}
	p.agree(t, f)
}

func doDrop(t *testing.T, f *files.Files, p *table, n int) {
	t.Helper()
	want, wantX, wantE := p.drop(n)
	if left, x, e := f.Drop(n); left != want || x != wantX || e != wantE {
		t.Fatalf("Drop(%d): %d %v %v, not %d %v %v", n, left, x, e, want, wantX, wantE)
	}
	p.agree(t, f)
}

// nth is a file, another one than those of the numbers beside it.
func nth(n int) api.File {
	return api.File{Pipe: (n*7 + 3) % 16, Write: n%3 == 0}
}

// opened are open files of which those are open, each one once.
func opened(t *testing.T, those ...int) (*files.Files, *table) {
	t.Helper()
	f, p := new(files.Files), new(table)
	for n := range 64 {
		doOpen(t, f, p, nth(n))
	}
	for n := range 64 {
		if !slices.Contains(those, n) {
			doDrop(t, f, p, n)
		}
	}
	return f, p
}

// upTo are the numbers from 0, below n.
func upTo(n int) []int {
	var l []int
	for k := range n {
		l = append(l, k)
	}
	return l
}

// but are all numbers but those.
func but(those ...int) []int {
	return slices.DeleteFunc(upTo(64), func(n int) bool { return slices.Contains(those, n) })
}

// sets are those that are open, at the edges: none, one, all but one, all, with gaps.
func sets() [][]int {
	return [][]int{
		nil, {0}, {1}, {5}, {63}, {0, 63}, upTo(8), upTo(32), upTo(63), but(0), but(1), but(31), but(62), but(63),
		but(0, 63), but(20, 21, 22), but(40, 2, 50), but(0, 1, 2, 3), upTo(64),
	}
}

// pipes are those that there may be, at the edges, and some that may not be.
var pipes = append([]int{-1, 0, 1, 14, 15, 16, 17, 31, 32, 63, 64}, far...)

// Each end of each pipe is opened where some are open; behind an error nothing is another one.
func TestP10_1_Open(t *testing.T) {
	for _, those := range sets() {
		for _, pipe := range pipes {
			for _, write := range []bool{false, true} {
				f, p := opened(t, those...)
				doOpen(t, f, p, api.File{Pipe: pipe, Write: write})
			}
		}
	}
}

func opens(t *testing.T, f *files.Files, x api.File, want int, wantE api.Errno) {
	t.Helper()
	if n, e := f.Open(x); n != want || e != wantE {
		t.Fatalf("Open(%v): %d %v, not %d %v", x, n, e, want, wantE)
	}
}

func TestP10_1_OpenTakesTheLeast(t *testing.T) {
	for n := range 64 {
		f, _ := opened(t, but(n)...)
		opens(t, f, api.File{Pipe: 15, Write: true}, n, api.OK)
		if x, ok := f.Get(n); x != (api.File{Pipe: 15, Write: true}) || !ok || f.Refs(n) != 1 || f.Free() != 0 {
			t.Fatalf("Get(%d): %v %v, Refs %d, Free %d", n, x, ok, f.Refs(n), f.Free())
		}
		opens(t, f, api.File{Pipe: 15}, 0, api.ErrFiles)
	}
	f, _ := opened(t, but(50, 7, 33, 63, 8)...)
	for _, n := range []int{7, 8, 33, 50, 63} {
		opens(t, f, nth(n), n, api.OK)
	}
	opens(t, f, nth(0), 0, api.ErrFiles)
}

func TestP10_1_OpenUpToTheLast(t *testing.T) {
	var f files.Files
	for n := range 64 {
		if f.Free() != 64-n || len(f.Used()) != n {
			t.Fatalf("Free %d, Used %v of %d opened", f.Free(), f.Used(), n)
		}
		opens(t, &f, nth(n), n, api.OK)
	}
	for n := range 64 {
		if x, ok := f.Get(n); x != nth(n) || !ok || f.Refs(n) != 1 {
			t.Fatalf("Get(%d): %v %v, Refs %d", n, x, ok, f.Refs(n))
		}
	}
	opens(t, &f, nth(0), 0, api.ErrFiles)
}

// A pipe that may not be is told ahead of there being no number.
func TestP10_1_OpenWhichErrorFirst(t *testing.T) {
	f, p := opened(t, upTo(64)...)
	for _, write := range []bool{false, true} {
		for _, pipe := range append([]int{-1, 16}, far...) {
			opens(t, f, api.File{Pipe: pipe, Write: write}, 0, api.ErrArg)
		}
		for pipe := range 16 {
			opens(t, f, api.File{Pipe: pipe, Write: write}, 0, api.ErrFiles)
		}
	}
	p.agree(t, f)
}

// What is the same end of the same pipe stands apart, however often it is opened.
func TestP10_1_OpenOfTheSame(t *testing.T) {
	f, p := new(files.Files), new(table)
	for range 5 {
		doOpen(t, f, p, api.File{Pipe: 2, Write: true})
	}
	doShare(t, f, p, 3)
	doDrop(t, f, p, 1)
	doOpen(t, f, p, api.File{Pipe: 2, Write: true})
}

// Share, Drop, Get and Refs of each number, with it open and free.
func TestP10_1_EachNumber(t *testing.T) {
	for _, those := range sets() {
		for _, n := range numbers {
			f, p := opened(t, those...)
			doShare(t, f, p, n)
			doShare(t, f, p, n)
			doDrop(t, f, p, n)
			doDrop(t, f, p, n)
			doDrop(t, f, p, n)
			doDrop(t, f, p, n)
			doShare(t, f, p, n)
		}
	}
}

func refusesNumber(t *testing.T, f *files.Files, n int, want api.Errno) {
	t.Helper()
	if e := f.Share(n); e != want {
		t.Errorf("Share(%d): %v, not %v", n, e, want)
	}
	if left, x, e := f.Drop(n); left != 0 || x != (api.File{}) || e != want {
		t.Errorf("Drop(%d): %d %v %v, not %v", n, left, x, e, want)
	}
	if x, ok := f.Get(n); x != (api.File{}) || ok || f.Refs(n) != 0 {
		t.Errorf("Get(%d): %v %v, Refs %d", n, x, ok, f.Refs(n))
	}
}

func TestP10_1_NumbersThatAreFree(t *testing.T) {
	f, _ := opened(t, but(0, 30, 63)...)
	for _, n := range append([]int{-1, 0, 30, 63, 64}, far...) {
		refusesNumber(t, f, n, api.ErrFile)
	}
	for _, n := range []int{0, 30, 63} {
		opens(t, f, nth(n), n, api.OK)
	}
	full, p := opened(t, upTo(64)...)
	for _, n := range append([]int{-1, 64}, far...) {
		refusesNumber(t, full, n, api.ErrFile)
	}
	p.agree(t, full)
}

func TestP10_1_DropDownToNone(t *testing.T) {
	for _, n := range []int{0, 1, 31, 62, 63} {
		f, p := opened(t, upTo(64)...)
		for range 3 {
			doShare(t, f, p, n)
		}
		for left := 3; left >= 0; left-- {
			if got, x, e := f.Drop(n); got != left || x != nth(n) || e != api.OK {
				t.Fatalf("Drop(%d): %d %v %v, not %d", n, got, x, e, left)
			}
			p.drop(n)
			p.agree(t, f)
		}
		refusesNumber(t, f, n, api.ErrFile)
		p.agree(t, f)
	}
}

// A count has no end that a narrow kind of number would give it.
func TestP10_1_ManyCounts(t *testing.T) {
	const many = 70000
	f, _ := opened(t, upTo(4)...)
	for i := range many {
		if e := f.Share(2); e != api.OK || f.Refs(2) != i+2 {
			t.Fatalf("Share(2), %d times: %v, Refs %d", i, e, f.Refs(2))
		}
	}
	for left := many; left >= 0; left-- {
		if got, x, e := f.Drop(2); got != left || x != nth(2) || e != api.OK {
			t.Fatalf("Drop(2): %d %v %v, not %d", got, x, e, left)
		}
	}
	if !slices.Equal(f.Used(), []int{0, 1, 3}) || f.Refs(1) != 1 || f.Refs(3) != 1 {
		t.Errorf("Used %v, Refs %d %d", f.Used(), f.Refs(1), f.Refs(3))
	}
}

// What a number was before has no part in what it is.
func TestP10_1_OpenedAgain(t *testing.T) {
	f, p := opened(t, upTo(64)...)
	for n := range 64 {
		doShare(t, f, p, n)
		doDrop(t, f, p, n)
		doDrop(t, f, p, n)
		doOpen(t, f, p, api.File{Pipe: 15 - nth(n).Pipe, Write: !nth(n).Write})
	}
}

func TestP10_1_FilesOfNone(t *testing.T) {
	var f *files.Files
	for _, pipe := range pipes {
		opens(t, f, api.File{Pipe: pipe, Write: true}, 0, api.ErrNil)
		opens(t, f, api.File{Pipe: pipe}, 0, api.ErrNil)
	}
	for _, n := range numbers {
		refusesNumber(t, f, n, api.ErrNil)
	}
	if len(f.Used()) != 0 || f.Free() != 0 || f.Copy() != nil {
		t.Errorf("Used %v, Free %d, Copy %v", f.Used(), f.Free(), f.Copy())
	}
}

// Files that nobody made have none, and take calls as any other.
func TestP10_1_FilesThatNobodyMade(t *testing.T) {
	var zero files.Files
	for _, f := range []*files.Files{&zero, new(files.Files), {}} {
		p := new(table)
		p.agree(t, f)
		for _, n := range numbers {
			refusesNumber(t, f, n, api.ErrFile)
		}
		p.agree(t, f)
		doOpen(t, f, p, api.File{Pipe: 16})
		doOpen(t, f, p, api.File{Pipe: 4, Write: true})
		doShare(t, f, p, 0)
		doOpen(t, f, p, api.File{})
		doDrop(t, f, p, 0)
		doDrop(t, f, p, 0)
		doOpen(t, f, p, api.File{Pipe: 9})
	}
}

func TestP10_1_FilesAreApart(t *testing.T) {
	f, p := opened(t, 1, 2)
	g, q := opened(t, 0, 2, 5)
	doShare(t, f, p, 2)
	doDrop(t, g, q, 2)
	doOpen(t, f, p, api.File{Pipe: 8})
	q.agree(t, g)
	doOpen(t, g, q, api.File{Pipe: 11, Write: true})
	p.agree(t, f)
}

// anyFiles does one call, or one that is refused. The greater full is, of 10, the more are opened, and shared.
func anyFiles(t *testing.T, x *rand.Rand, f *files.Files, p *table, full int) {
	t.Helper()
	n := x.Intn(66) - 1
	if used := p.used(); len(used) > 0 && x.Intn(2) == 0 {
		n = used[x.Intn(len(used))]
	}
	switch {
	case x.Intn(10) < full:
		doOpen(t, f, p, api.File{Pipe: x.Intn(18) - 1, Write: x.Intn(2) == 0})
	case x.Intn(20) < full:
		doShare(t, f, p, n)
	default:
		doDrop(t, f, p, n)
	}
}

// Any calls, in turns that fill all numbers and turns that empty them, answer what a plain table does.
func TestP10_1_AnyCalls(t *testing.T) {
	filled, emptied := 0, 0
	for seed := range 24 {
		x := rand.New(rand.NewSource(int64(seed)))
		f, p := new(files.Files), new(table)
		for turn := range 8 {
			for range 300 {
				anyFiles(t, x, f, p, []int{9, 5, 1, 0}[turn%4])
				switch f.Free() {
				case 0:
					filled++
				case 64:
					emptied++
				}
			}
		}
	}
	if filled < 100 || emptied < 100 {
		t.Errorf("all were open %d times, none %d times", filled, emptied)
	}
}

func TestP10_3_CopyOfFiles(t *testing.T) {
	for _, those := range sets() {
		f, p := opened(t, those...)
		for i, n := range those {
			for range i % 4 {
				doShare(t, f, p, n)
			}
		}
		g := f.Copy()
		if g == nil || g == f {
			t.Fatalf("Copy of %v: %v", those, g)
		}
		p.agree(t, g)
		p.agree(t, g.Copy())
		p.agree(t, f)
	}
}

// Neither the copied one nor its copy is turned by calls on the other one.
func TestP10_3_CopiesOfFilesAreApart(t *testing.T) {
	for seed := range 40 {
		x := rand.New(rand.NewSource(int64(seed)))
		f, p := new(files.Files), new(table)
		for range x.Intn(100) {
			anyFiles(t, x, f, p, 6)
		}
		q := *p
		pair, plain := []*files.Files{f, f.Copy()}, []*table{p, &q}
		for range 200 {
			k := x.Intn(2)
			anyFiles(t, x, pair[k], plain[k], 5)
			plain[1-k].agree(t, pair[1-k])
		}
	}
}

func TestP10_3_CopyOfFilesTurned(t *testing.T) {
	for turned := range 2 {
		f, p := opened(t, 0, 1, 3)
		q := *p
		pair, plain := []*files.Files{f, f.Copy()}, []*table{p, &q}
		doShare(t, pair[turned], plain[turned], 0)
		doDrop(t, pair[turned], plain[turned], 1)
		doOpen(t, pair[turned], plain[turned], api.File{Pipe: 13, Write: true})
		doOpen(t, pair[turned], plain[turned], api.File{Pipe: 14, Write: true})
		plain[1-turned].agree(t, pair[1-turned])
		doOpen(t, pair[1-turned], plain[1-turned], api.File{Pipe: 12})
		plain[turned].agree(t, pair[turned])
	}
}

func TestP10_3_CopyOfFilesThatNobodyMade(t *testing.T) {
	var zero files.Files
	f := zero.Copy()
	if f == nil {
		t.Fatal("Copy of those that nobody made is none")
	}
	new(table).agree(t, f)
	doOpen(t, f, new(table), api.File{Pipe: 1})
	new(table).agree(t, &zero)
}

// What Used answered stays as it is, and open files stay as they are when it is written over.
func TestP10_4_UsedIsNewMemory(t *testing.T) {
	for _, those := range sets() {
		f, p := opened(t, those...)
		one, other := f.Used(), f.Used()
		for n := range 64 {
			doDrop(t, f, p, n)
		}
		doOpen(t, f, p, api.File{Pipe: 5})
		doOpen(t, f, p, api.File{Pipe: 6})
		if !slices.Equal(one, those) || !slices.Equal(other, those) {
			t.Fatalf("Used %v and %v behind other calls, not %v", one, other, those)
		}
		for i := range one {
			one[i] = -7
		}
		_ = append(one[:0], 60, 61, 62)
		if !slices.Equal(other, those) {
			t.Fatalf("Used %v, another one written over, not %v", other, those)
		}
		p.agree(t, f)
	}
}

// What was opened, shared any number of times, and dropped as often, leaves all other numbers as they were.
func TestP10_5_NoTraceOfFiles(t *testing.T) {
	for seed := range 60 {
		x := rand.New(rand.NewSource(int64(500 + seed)))
		f, p := new(files.Files), new(table)
		for range x.Intn(150) {
			anyFiles(t, x, f, p, 7)
		}
		before, was := *p, f.Used()
		noTrace(t, x, f)
		before.agree(t, f)
		if !slices.Equal(f.Used(), was) {
			t.Fatalf("Used %v, not %v", f.Used(), was)
		}
	}
}

// noTrace opens as many as there may be, shares them, and drops each as often, in any order.
func noTrace(t *testing.T, x *rand.Rand, f *files.Files) {
	t.Helper()
	var owed []int
	for range f.Free() {
		n, e := f.Open(nth(x.Intn(64)))
		if e != api.OK {
			t.Fatalf("Open: %d %v", n, e)
		}
		owed = append(owed, n)
		for range x.Intn(6) {
			if e := f.Share(n); e != api.OK {
				t.Fatalf("Share(%d): %v", n, e)
			}
			owed = append(owed, n)
		}
	}
	x.Shuffle(len(owed), func(i, k int) { owed[i], owed[k] = owed[k], owed[i] })
	for _, n := range owed {
		want := f.Refs(n) - 1
		if left, _, e := f.Drop(n); left != want || e != api.OK {
			t.Fatalf("Drop(%d): %d %v, not %d", n, left, e, want)
		}
	}
}

// Those from which all was dropped answer as those that nobody made.
func TestP10_5_EmptiedIsAsNew(t *testing.T) {
	f, _ := opened(t)
	p := new(table)
	x := rand.New(rand.NewSource(77))
	for range 500 {
		anyFiles(t, x, f, p, 6)
	}
}

func TestExamplesOfLayer10OfFiles(t *testing.T) {
	var f files.Files
	opens(t, &f, api.File{Pipe: 3, Write: true}, 0, api.OK)
	opens(t, &f, api.File{Pipe: 3}, 1, api.OK)
	if e := f.Share(0); e != api.OK {
		t.Errorf("Share(0): %v", e)
	}
	for _, want := range []int{1, 0} {
		if left, x, e := f.Drop(0); left != want || x != (api.File{Pipe: 3, Write: true}) || e != api.OK {
			t.Errorf("Drop(0): %d %v %v, not %d", left, x, e, want)
		}
	}
	opens(t, &f, api.File{Pipe: 1}, 0, api.OK)
	if left, x, e := f.Drop(9); left != 0 || x != (api.File{}) || e != api.ErrFile {
		t.Errorf("Drop(9): %d %v %v", left, x, e)
	}
	opens(t, &f, api.File{Pipe: 16}, 0, api.ErrArg)
}
