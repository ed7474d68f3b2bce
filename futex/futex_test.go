package futex_test

import (
	"math"
	"math/rand"
	"slices"
	"testing"

	"carryall/api"
	"carryall/futex"
)

// plain is who waits, as the chapter's words say it: a list in the order in which they came.
type plain []api.Waiter

// may says whether a key may be, in the chapter's numbers.
func may(k api.Key) bool {
	if k.Pid == 0 {
		return k.Frame >= 0 && k.Frame <= 255 && k.Off >= 0 && k.Off <= 63
	}
	return k.Pid > 0 && k.Frame == 0 && k.Off >= 0 && k.Off <= 4095
}

func (p plain) where(pid int) int {
	return slices.IndexFunc(p, func(w api.Waiter) bool { return w.Pid == pid })
}

func (p plain) key(pid int) (api.Key, bool) {
	if i := p.where(pid); i >= 0 {
		return p[i].Key, true
	}
	return api.Key{}, false
}

func (p plain) at(k api.Key) []int {
	var l []int
	for _, w := range p {
		if w.Key == k {
			l = append(l, w.Pid)
		}
	}
	return l
}

func (p *plain) wait(pid int, k api.Key) api.Errno {
	if !may(k) || pid < 1 {
		return api.ErrArg
	}
	if p.where(pid) >= 0 {
		return api.ErrFutex
	}
	*p = append(*p, api.Waiter{Pid: pid, Key: k})
	return api.OK
}

func (p *plain) gone(pid int) bool {
	i := p.where(pid)
	if i < 0 {
		return false
	}
	*p = slices.Concat((*p)[:i], (*p)[i+1:])
	return true
}

func (p *plain) wake(k api.Key, n int) []int {
	l := p.at(k)
	l = l[:min(max(n, 0), len(l))]
	for _, pid := range l {
		p.gone(pid)
	}
	return l
}

// far are numbers that are far from all edges, also where a narrower kind of number would take them for near ones.
var far = []int{-2, -64, -255, -256, -4096, 257, 4097, 1 << 16, 1<<32 + 1, 1 << 32, -1 << 32, 1 - 1<<32, math.MaxInt, math.MaxInt - 1, math.MinInt, math.MinInt + 1}

// shared is the key of an address in a frame, private that of one in a process' own page.
func shared(frame, off int) api.Key {
	return api.Key{Frame: frame, Off: off}
}

func private(pid, off int) api.Key {
	return api.Key{Pid: pid, Off: off}
}

// keys are some that are like others in all but one thing, and some at the edges.
var keys = []api.Key{
	shared(5, 8), shared(5, 9), shared(6, 8), private(5, 8), private(6, 8), private(6, 9),
	shared(0, 8), private(1, 8), shared(0, 0), private(1, 0), shared(255, 63), private(math.MaxInt, 4095),
}

// wrong are keys that may not be.
var wrong = []api.Key{
	shared(-1, 8), shared(256, 8), shared(5, -1), shared(5, 64), private(-1, 8), private(1, -1), private(1, 4096),
	{Pid: 1, Frame: 1, Off: 8}, {Pid: 1, Frame: -1, Off: 8}, {Pid: -1, Frame: 5, Off: 8},
}

// agree holds all that a futex tells against what it has to.
func (p plain) agree(t *testing.T, f *futex.Futex) {
	t.Helper()
	if all := f.All(); !slices.Equal(all, p) {
		t.Fatalf("All %v, not %v", all, p)
	}
	if f.Len() != len(p) {
		t.Fatalf("Len %d, not %d", f.Len(), len(p))
	}
	for pid := -1; pid <= 20; pid++ {
		p.agreeOf(t, f, pid)
	}
	for _, w := range p {
		p.agreeOf(t, f, w.Pid)
	}
	for _, k := range slices.Concat(keys, wrong) {
		if got, want := f.At(k), p.at(k); !slices.Equal(got, want) {
			t.Fatalf("At(%v): %v, not %v", k, got, want)
		}
	}
}

// agreeOf holds where one waits against where it has to.
func (p plain) agreeOf(t *testing.T, f *futex.Futex, pid int) {
	t.Helper()
	want, wantIs := p.key(pid)
	if k, is := f.Key(pid); k != want || is != wantIs {
		t.Fatalf("Key(%d): %v %v, not %v %v", pid, k, is, want, wantIs)
	}
}

func doWait(t *testing.T, f *futex.Futex, p *plain, pid int, k api.Key) {
	t.Helper()
	want := p.wait(pid, k)
	if e := f.Wait(pid, k); e != want {
		t.Fatalf("Wait(%d, %v): %v, not %v", pid, k, e, want)
	}
	p.agree(t, f)
}

func doWake(t *testing.T, f *futex.Futex, p *plain, k api.Key, n int) {
	t.Helper()
	want := p.wake(k, n)
	if l := f.Wake(k, n); !slices.Equal(l, want) {
		t.Fatalf("Wake(%v, %d): %v, not %v", k, n, l, want)
	}
	p.agree(t, f)
}

func doGone(t *testing.T, f *futex.Futex, p *plain, pid int) {
	t.Helper()
	want := p.gone(pid)
	if is := f.Gone(pid); is != want {
		t.Fatalf("Gone(%d): %v, not %v", pid, is, want)
	}
	p.agree(t, f)
}

// waiting is a futex at which 1 and on wait, each at the key that stands at its place.
func waiting(t *testing.T, at ...api.Key) (*futex.Futex, *plain) {
	t.Helper()
	f, p := new(futex.Futex), new(plain)
	for i, k := range at {
		doWait(t, f, p, i+1, k)
	}
	return f, p
}

// mixed is one at which 1, 4, 5, 8 and 9 wait at one key, with others in between.
func mixed(t *testing.T) (*futex.Futex, *plain) {
	t.Helper()
	a, b, c, d := keys[0], keys[1], keys[2], keys[3]
	return waiting(t, a, b, c, a, a, d, b, a, a, c)
}

func TestP11_1_Check(t *testing.T) {
	for _, k := range keys {
		if e := futex.Check(k); e != api.OK {
			t.Errorf("Check(%v): %v", k, e)
		}
	}
	for _, k := range wrong {
		if e := futex.Check(k); e != api.ErrArg {
			t.Errorf("Check(%v): %v", k, e)
		}
	}
}

// around are pids, frames and offsets at all edges, with some that are far from them.
func around() (pids, frames, offs []int) {
	pids = slices.Concat([]int{-1, 0, 1, 2, 31, 32, 33, 65535, 65536}, far)
	frames = slices.Concat([]int{-1, 0, 1, 2, 63, 64, 254, 255, 256}, far)
	offs = slices.Concat([]int{-1, 0, 1, 2, 62, 63, 64, 65, 255, 256, 4094, 4095, 4096}, far)
	return pids, frames, offs
}

// Check and Wait take the same keys, whatever is wrong with how many of their parts.
func TestP11_1_EachKey(t *testing.T) {
	pids, frames, offs := around()
	for _, pid := range pids {
		for _, frame := range frames {
			for _, off := range offs {
				k := api.Key{Pid: pid, Frame: frame, Off: off}
				want := api.ErrArg
				if may(k) {
					want = api.OK
				}
				if e := futex.Check(k); e != want {
					t.Fatalf("Check(%v): %v, not %v", k, e, want)
				}
				var f futex.Futex
				if e := f.Wait(1, k); e != want {
					t.Fatalf("Wait(1, %v): %v, not %v", k, e, want)
				}
				if l := f.At(k); len(l) != f.Len() || (f.Len() == 1) != may(k) {
					t.Fatalf("At(%v): %v, Len %d", k, l, f.Len())
				}
			}
		}
	}
}

func TestP11_1_EachOffset(t *testing.T) {
	for off := -70; off < 4200; off++ {
		if e := futex.Check(shared(7, off)); (e == api.OK) != (off >= 0 && off < api.PageSize) {
			t.Errorf("Check of a shared page's %d: %v", off, e)
		}
		if e := futex.Check(private(7, off)); (e == api.OK) != (off >= 0 && off < api.Space) {
			t.Errorf("Check of a private page's %d: %v", off, e)
		}
		if e := futex.Check(shared(off, 7)); (e == api.OK) != (off >= 0 && off < api.MaxFrame) {
			t.Errorf("Check of frame %d: %v", off, e)
		}
	}
}

func TestP11_1_WaitOfEachPid(t *testing.T) {
	pids, _, _ := around()
	for _, pid := range pids {
		for _, k := range slices.Concat(keys, wrong) {
			f, p := new(futex.Futex), new(plain)
			doWait(t, f, p, pid, k)
			p.agreeOf(t, f, pid)
			f, p = mixed(t)
			doWait(t, f, p, pid, k)
			p.agreeOf(t, f, pid)
		}
	}
}

// Who waits may not wait once more, at whatever key, and goes on to wait where it does.
func TestP11_1_WaitOfOneWhoWaits(t *testing.T) {
	for pid := 1; pid <= 10; pid++ {
		for _, k := range keys {
			f, p := mixed(t)
			if e := f.Wait(pid, k); e != api.ErrFutex {
				t.Fatalf("Wait(%d, %v): %v", pid, k, e)
			}
			p.agree(t, f)
		}
	}
}

// A key that may not be, and a pid below 1, are told ahead of one's waiting.
func TestP11_1_WhichErrorFirst(t *testing.T) {
	f, p := mixed(t)
	for _, k := range wrong {
		for pid := -1; pid <= 11; pid++ {
			if e := f.Wait(pid, k); e != api.ErrArg {
				t.Errorf("Wait(%d, %v): %v", pid, k, e)
			}
		}
	}
	for _, k := range keys {
		for _, pid := range []int{0, -1, math.MinInt} {
			if e := f.Wait(pid, k); e != api.ErrArg {
				t.Errorf("Wait(%d, %v): %v", pid, k, e)
			}
		}
	}
	p.agree(t, f)
	var none *futex.Futex
	for _, pid := range []int{-1, 0, 1, math.MinInt, math.MaxInt} {
		for _, k := range slices.Concat(keys, wrong) {
			if e := none.Wait(pid, k); e != api.ErrNil {
				t.Errorf("Wait(%d, %v) of none: %v", pid, k, e)
			}
		}
	}
}

// A key's owner and who waits there are two things: any may wait at any process' key.
func TestP11_1_WaitAtAnothersKey(t *testing.T) {
	f, p := new(futex.Futex), new(plain)
	for pid := 1; pid <= 4; pid++ {
		doWait(t, f, p, pid, private(2, 8))
	}
	doWait(t, f, p, 5, private(1, 8))
	if l := f.At(private(2, 8)); !slices.Equal(l, []int{1, 2, 3, 4}) {
		t.Errorf("At: %v", l)
	}
}

func TestP11_2_Wake(t *testing.T) {
	counts := slices.Concat([]int{-1, 0, 1, 2, 3, 4, 5, 6, 10, 11}, far)
	for _, n := range counts {
		for _, k := range slices.Concat(keys, wrong) {
			f, p := mixed(t)
			doWake(t, f, p, k, n)
			doWake(t, f, p, k, 1)
			doWake(t, f, p, k, n)
			f, p = new(futex.Futex), new(plain)
			doWake(t, f, p, k, n)
		}
	}
}

func TestP11_2_WakeTellsWhom(t *testing.T) {
	for _, c := range []struct {
		n    int
		want []int
	}{
		{-1, nil}, {0, nil}, {1, []int{1}}, {2, []int{1, 4}}, {4, []int{1, 4, 5, 8}},
		{5, []int{1, 4, 5, 8, 9}}, {6, []int{1, 4, 5, 8, 9}}, {math.MaxInt, []int{1, 4, 5, 8, 9}}, {math.MinInt, nil},
	} {
		f, _ := mixed(t)
		if l := f.Wake(keys[0], c.n); !slices.Equal(l, c.want) || f.Len() != 10-len(c.want) {
			t.Errorf("Wake of %d: %v, Len %d, not %v", c.n, l, f.Len(), c.want)
		}
		for pid := 1; pid <= 10; pid++ {
			if _, is := f.Key(pid); is == slices.Contains(c.want, pid) {
				t.Errorf("Wake of %d: Key(%d) %v", c.n, pid, is)
			}
		}
	}
}

// Whoever goes, first, in the midst or last, all others stand as they did.
func TestP11_2_Gone(t *testing.T) {
	pids, _, _ := around()
	for pid := -1; pid <= 12; pid++ {
		pids = append(pids, pid)
	}
	for _, pid := range pids {
		f, p := mixed(t)
		doGone(t, f, p, pid)
		doGone(t, f, p, pid)
		for other := 1; other <= 10; other++ {
			doGone(t, f, p, other)
		}
		if f.Len() != 0 {
			t.Fatalf("Len %d", f.Len())
		}
	}
}

func TestP11_2_KeyAndAt(t *testing.T) {
	f, _ := mixed(t)
	for pid, want := range map[int]api.Key{1: keys[0], 2: keys[1], 5: keys[0], 6: keys[3], 9: keys[0], 10: keys[2]} {
		if k, is := f.Key(pid); k != want || !is {
			t.Errorf("Key(%d): %v %v, not %v", pid, k, is, want)
		}
	}
	for _, pid := range slices.Concat([]int{-1, 0, 11, 12}, far) {
		if k, is := f.Key(pid); k != (api.Key{}) || is {
			t.Errorf("Key(%d): %v %v", pid, k, is)
		}
	}
	for i, want := range [][]int{{1, 4, 5, 8, 9}, {2, 7}, {3, 10}, {6}, nil, nil} {
		if l := f.At(keys[i]); !slices.Equal(l, want) {
			t.Errorf("At(%v): %v, not %v", keys[i], l, want)
		}
	}
}

// Who was woken, or is gone, may wait anew, there or elsewhere, and stands behind all others.
func TestP11_2_WaitAnew(t *testing.T) {
	for pid := 1; pid <= 10; pid++ {
		for _, k := range keys {
			f, p := mixed(t)
			doGone(t, f, p, pid)
			doWait(t, f, p, pid, k)
			if all := f.All(); all[9] != (api.Waiter{Pid: pid, Key: k}) {
				t.Fatalf("All %v, when %d waits anew", all, pid)
			}
			doWait(t, f, p, pid, k)
			if l := f.At(k); l[len(l)-1] != pid {
				t.Fatalf("At(%v): %v, when %d waits anew", k, l, pid)
			}
		}
	}
	f, p := mixed(t)
	for range 30 {
		l := f.Wake(keys[0], 1)
		doWait(t, f, p, p.wake(keys[0], 1)[0], keys[0])
		if at := f.At(keys[0]); len(at) != 5 || at[4] != l[0] {
			t.Fatalf("At %v, when %v waits anew", at, l)
		}
	}
}

// A futex that nobody made has nobody, and takes calls as any other.
func TestP11_2_NobodyMadeIt(t *testing.T) {
	var zero futex.Futex
	for _, f := range []*futex.Futex{&zero, new(futex.Futex), {}} {
		p := new(plain)
		p.agree(t, f)
		doGone(t, f, p, 1)
		doWake(t, f, p, keys[0], 1)
		doWait(t, f, p, 1, keys[0])
		doWait(t, f, p, 1, keys[1])
		doWait(t, f, p, 2, keys[0])
		doWake(t, f, p, keys[0], 1)
		doGone(t, f, p, 2)
	}
}

func TestP11_2_None(t *testing.T) {
	var f *futex.Futex
	for _, k := range slices.Concat(keys, wrong) {
		for _, n := range []int{-1, 0, 1, math.MaxInt} {
			if l := f.Wake(k, n); len(l) != 0 {
				t.Errorf("Wake(%v, %d): %v", k, n, l)
			}
		}
		if l := f.At(k); len(l) != 0 {
			t.Errorf("At(%v): %v", k, l)
		}
	}
	for _, pid := range slices.Concat([]int{-1, 0, 1}, far) {
		if f.Gone(pid) {
			t.Errorf("Gone(%d)", pid)
		}
		if k, is := f.Key(pid); k != (api.Key{}) || is {
			t.Errorf("Key(%d): %v %v", pid, k, is)
		}
	}
	if len(f.All()) != 0 || f.Len() != 0 || f.Copy() != nil {
		t.Errorf("All %v, Len %d, Copy %v", f.All(), f.Len(), f.Copy())
	}
}

// Futexes know nothing of one another.
func TestP11_2_Apart(t *testing.T) {
	f, p := mixed(t)
	g, q := waiting(t, keys[0], keys[0])
	doWake(t, f, p, keys[0], 2)
	q.agree(t, g)
	doGone(t, g, q, 1)
	doWait(t, g, q, 5, keys[4])
	p.agree(t, f)
}

// anyCall does one call, or one that is refused. The greater full is, of 10, the more wait.
func anyCall(t *testing.T, x *rand.Rand, f *futex.Futex, p *plain, full int) {
	t.Helper()
	k := keys[x.Intn(4)]
	if x.Intn(8) == 0 {
		k = slices.Concat(keys, wrong)[x.Intn(len(keys)+len(wrong))]
	}
	switch pid := x.Intn(20) - 1; {
	case x.Intn(10) < full:
		doWait(t, f, p, pid, k)
	case x.Intn(2) == 0:
		doGone(t, f, p, pid)
	default:
		doWake(t, f, p, k, x.Intn(5)-1)
	}
}

// Any calls, in turns that let many wait and turns that empty it, answer what a plain list does.
func TestP11_2_AnyCalls(t *testing.T) {
	many, nobody := 0, 0
	for seed := range 40 {
		x := rand.New(rand.NewSource(int64(seed)))
		f, p := new(futex.Futex), new(plain)
		for turn := range 8 {
			for range 100 {
				anyCall(t, x, f, p, []int{9, 5, 1, 7}[turn%4])
				switch n := f.Len(); {
				case n >= 15:
					many++
				case n == 0:
					nobody++
				}
			}
		}
	}
	if many < 500 || nobody < 500 {
		t.Errorf("many waited %d times, nobody %d times", many, nobody)
	}
}

func TestP11_2_Copy(t *testing.T) {
	for many := range 11 {
		f, p := mixed(t)
		for pid := 1; pid <= many; pid++ {
			doGone(t, f, p, pid)
		}
		c := f.Copy()
		if c == nil || c == f {
			t.Fatalf("Copy: %v", c)
		}
		p.agree(t, c)
		p.agree(t, c.Copy())
		p.agree(t, f)
	}
}

func TestP11_2_CopyOfOneThatNobodyMade(t *testing.T) {
	var zero futex.Futex
	c := zero.Copy()
	if c == nil {
		t.Fatal("Copy of one that nobody made is none")
	}
	plain{}.agree(t, c)
	doWait(t, c, new(plain), 1, keys[0])
	plain{}.agree(t, &zero)
}

// pairOf is a futex with its copy, each with what it has to be.
func pairOf(f *futex.Futex, p *plain) ([]*futex.Futex, []*plain) {
	q := slices.Clone(*p)
	return []*futex.Futex{f, f.Copy()}, []*plain{p, &q}
}

// Neither the copied one nor its copy is turned by calls on the other one.
func TestP11_2_CopiesAreApart(t *testing.T) {
	for seed := range 100 {
		x := rand.New(rand.NewSource(int64(seed)))
		f, p := new(futex.Futex), new(plain)
		for range x.Intn(30) {
			anyCall(t, x, f, p, 8)
		}
		pair, plains := pairOf(f, p)
		for range 60 {
			k := x.Intn(2)
			anyCall(t, x, pair[k], plains[k], 5)
			plains[1-k].agree(t, pair[1-k])
		}
	}
}

// Both wait for more behind a copy, or lose their first, and neither writes into the other one's line.
func TestP11_2_CopyTurned(t *testing.T) {
	for turned := range 2 {
		for gone := range 5 {
			f, p := mixed(t)
			for pid := range gone {
				doGone(t, f, p, 10-pid)
			}
			pair, plains := pairOf(f, p)
			doWait(t, pair[turned], plains[turned], 11, keys[4])
			doWait(t, pair[1-turned], plains[1-turned], 12, keys[5])
			plains[turned].agree(t, pair[turned])
			doGone(t, pair[turned], plains[turned], 1)
			plains[1-turned].agree(t, pair[1-turned])
			doWake(t, pair[1-turned], plains[1-turned], keys[0], 3)
			plains[turned].agree(t, pair[turned])
		}
	}
}

// spoil writes over a list.
func spoil[T any](l []T, with T) {
	for i := range l[:cap(l)] {
		l[:cap(l)][i] = with
	}
}

// What was answered stays as it is, whatever is done behind it.
func TestP11_3_AnswersStay(t *testing.T) {
	f, p := mixed(t)
	woken, at, all := f.Wake(keys[0], 2), f.At(keys[0]), f.All()
	p.wake(keys[0], 2)
	wantAt, wantAll := p.at(keys[0]), slices.Clone(*p)
	check := func() {
		t.Helper()
		if !slices.Equal(woken, []int{1, 4}) || !slices.Equal(at, wantAt) || !slices.Equal(all, wantAll) {
			t.Fatalf("Wake %v, At %v, All %v behind other calls", woken, at, all)
		}
	}
	for pid := 11; pid < 40; pid++ {
		doWait(t, f, p, pid, keys[pid%3])
		check()
	}
	doGone(t, f, p, 2)
	check()
	doWake(t, f, p, keys[0], 100)
	check()
	doWake(t, f, p, keys[2], 3)
	doWait(t, f, p, 50, keys[0])
	check()
}

// A futex stays as it is when what was answered is written over, behind its end too.
func TestP11_3_AnswersAreNotTheFutex(t *testing.T) {
	for many := range 10 {
		f, p := mixed(t)
		for pid := 11; pid < 11+many; pid++ {
			doWait(t, f, p, pid, keys[pid%4])
		}
		woken, at, all := f.Wake(keys[0], many), f.At(keys[0]), f.All()
		otherAt, otherAll := f.At(keys[0]), f.All()
		p.wake(keys[0], many)
		doWait(t, f, p, 40, keys[0])
		wantAt, wantAll := slices.Clone(otherAt), slices.Clone(otherAll)
		spoil(woken, 77)
		spoil(at, 78)
		spoil(all, api.Waiter{Pid: 79, Key: keys[4]})
		if !slices.Equal(otherAt, wantAt) || !slices.Equal(otherAll, wantAll) {
			t.Fatalf("At %v and All %v, others written over", otherAt, otherAll)
		}
		p.agree(t, f)
		doWait(t, f, p, 41, keys[1])
	}
}

// A list that is appended to by whom it was answered does not come into the futex.
func TestP11_3_AnswersAppendedTo(t *testing.T) {
	for many := range 20 {
		f, p := new(futex.Futex), new(plain)
		for pid := 1; pid <= many; pid++ {
			doWait(t, f, p, pid, keys[0])
		}
		_ = append(f.All(), api.Waiter{Pid: 60, Key: keys[1]})
		_ = append(f.At(keys[0]), 61)
		doWait(t, f, p, 30, keys[0])
		_ = append(f.All(), api.Waiter{Pid: 62, Key: keys[1]})
		p.agree(t, f)
	}
}

// crowd is a futex at which those who wait at a key are told, with so many others in between each two of them.
func crowd(t *testing.T, mine, others int) (*futex.Futex, []int) {
	t.Helper()
	f, pid := new(futex.Futex), 1000
	var l []int
	for range mine {
		for i := range others {
			if e := f.Wait(pid, keys[1+(pid+i)%(len(keys)-1)]); e != api.OK {
				t.Fatal(e)
			}
			pid--
		}
		if e := f.Wait(pid, keys[0]); e != api.OK {
			t.Fatal(e)
		}
		l = append(l, pid)
		pid--
	}
	return f, l
}

// Those of one key are woken in the order in which they came, each once, however many at a time, whatever other keys there are.
func TestP11_4_InOrderEachOnce(t *testing.T) {
	for mine := range 20 {
		for atATime := 1; atATime <= mine+1; atATime++ {
			for _, others := range []int{0, 1, 3} {
				f, want := crowd(t, mine, others)
				var woken []int
				for range mine/atATime + 2 {
					l := f.Wake(keys[0], atATime)
					if len(l) != min(atATime, mine-len(woken)) {
						t.Fatalf("Wake of %d, behind %d of %d: %v", atATime, len(woken), mine, l)
					}
					woken = append(woken, l...)
				}
				if !slices.Equal(woken, want) {
					t.Fatalf("%d at a time: %v, not %v", atATime, woken, want)
				}
				if f.Len() != mine*others || len(f.At(keys[0])) != 0 {
					t.Fatalf("Len %d, At %v", f.Len(), f.At(keys[0]))
				}
			}
		}
	}
}

// onlyAt are those of a list who wait at a key.
func onlyAt(l []api.Waiter, k api.Key) []api.Waiter {
	return slices.DeleteFunc(slices.Clone(l), func(w api.Waiter) bool { return w.Key != k })
}

// A futex that is called for one key alone tells the same of it as one that is called for all keys.
func TestP11_4_OtherKeysMakeNoDifference(t *testing.T) {
	for seed := range 60 {
		x := rand.New(rand.NewSource(int64(seed)))
		var all, alone futex.Futex
		mine := keys[x.Intn(len(keys))]
		for range 400 {
			k, pid, n := keys[x.Intn(len(keys))], x.Intn(300)+1, x.Intn(4)
			if x.Intn(2) == 0 {
				k = mine
			}
			switch x.Intn(4) {
			case 0:
				woken := all.Wake(k, n)
				if k == mine && !slices.Equal(woken, alone.Wake(k, n)) {
					t.Fatalf("Wake(%v, %d): %v", k, n, woken)
				}
			case 1:
				all.Gone(pid)
				alone.Gone(pid)
			default:
				if e := all.Wait(pid, k); e == api.OK && k == mine {
					alone.Wait(pid, k)
				}
			}
			if !slices.Equal(onlyAt(all.All(), mine), alone.All()) || !slices.Equal(all.At(mine), alone.At(mine)) {
				t.Fatalf("at %v wait %v, and alone %v", mine, all.At(mine), alone.At(mine))
			}
		}
	}
}

// All, waited for in its order, makes the same: it goes on as the first one does.
func TestP11_4_AllMakesTheSame(t *testing.T) {
	for seed := range 100 {
		x := rand.New(rand.NewSource(int64(seed)))
		f, p := new(futex.Futex), new(plain)
		for range x.Intn(60) {
			anyCall(t, x, f, p, 7)
		}
		g, q := new(futex.Futex), new(plain)
		for _, w := range f.All() {
			doWait(t, g, q, w.Pid, w.Key)
		}
		p.agree(t, g)
		then, again := rand.New(rand.NewSource(int64(seed))), rand.New(rand.NewSource(int64(seed)))
		for range 60 {
			anyCall(t, then, f, p, 5)
			anyCall(t, again, g, q, 5)
			p.agree(t, g)
		}
	}
}

// Who waited and went leaves no trace.
func TestP11_4_NoTrace(t *testing.T) {
	f, p := mixed(t)
	for pid := 11; pid <= 40; pid++ {
		if e := f.Wait(pid, keys[pid%4]); e != api.OK {
			t.Fatal(e)
		}
	}
	for pid := 40; pid > 10; pid-- {
		if !f.Gone(pid) {
			t.Fatalf("Gone(%d)", pid)
		}
	}
	p.agree(t, f)
	for pid := 11; pid <= 15; pid++ {
		doWait(t, f, p, pid, keys[4])
	}
	doWake(t, f, p, keys[4], 5)
	doWake(t, f, p, keys[4], 5)
}

func TestExamplesOfLayer11(t *testing.T) {
	var f futex.Futex
	for _, w := range []api.Waiter{{Pid: 3, Key: shared(5, 8)}, {Pid: 2, Key: shared(5, 8)}, {Pid: 9, Key: private(9, 8)}} {
		if e := f.Wait(w.Pid, w.Key); e != api.OK {
			t.Errorf("Wait(%d, %v): %v", w.Pid, w.Key, e)
		}
	}
	if e := f.Wait(3, shared(5, 8)); e != api.ErrFutex {
		t.Errorf("Wait of one who waits: %v", e)
	}
	for _, c := range []struct {
		n    int
		want []int
	}{{1, []int{3}}, {9, []int{2}}, {1, nil}} {
		if l := f.Wake(shared(5, 8), c.n); !slices.Equal(l, c.want) {
			t.Errorf("Wake of %d: %v, not %v", c.n, l, c.want)
		}
	}
	if all := f.All(); !slices.Equal(all, []api.Waiter{{Pid: 9, Key: private(9, 8)}}) {
		t.Errorf("All: %v", all)
	}
	for k, want := range map[api.Key]api.Errno{{Pid: 1, Frame: 1}: api.ErrArg, {Off: 64}: api.ErrArg, {Pid: 1, Off: 4095}: api.OK} {
		if e := futex.Check(k); e != want {
			t.Errorf("Check(%v): %v, not %v", k, e, want)
		}
	}
}
