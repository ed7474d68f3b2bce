package sleep_test

import (
	"math"
	"math/rand"
	"slices"
	"sort"
	"testing"

	"carryall/api"
	"carryall/sleep"
)

// due is at the end of which tick, counted from the beginning on, somebody is told.
type due struct {
	pid int
	at  uint64
}

// plain is who sleeps, in the order in which they were added, and how many ticks there were; nothing is counted down.
type plain struct {
	now  uint64
	list []due
}

func (p *plain) left(pid int) (uint32, bool) {
	for _, d := range p.list {
		if d.pid == pid {
			return uint32(d.at - p.now), true
		}
	}
	return 0, false
}

func (p *plain) add(pid int, ticks uint32) api.Errno {
	if pid <= 0 || ticks == 0 {
		return api.ErrArg
	}
	if _, sleeps := p.left(pid); sleeps {
		return api.ErrSleep
	}
	p.list = append(p.list, due{pid, p.now + uint64(ticks)})
	return api.OK
}

// leave takes out those who go, and answers who they were, rising.
func (p *plain) leave(goes func(due) bool) []int {
	var stay []due
	var gone []int
	for _, d := range p.list {
		if goes(d) {
			gone = append(gone, d.pid)
		} else {
			stay = append(stay, d)
		}
	}
	p.list = stay
	sort.Ints(gone)
	return gone
}

func (p *plain) tick() []int {
	p.now++
	return p.leave(func(d due) bool { return d.at == p.now })
}

func (p *plain) drop(pid int) (uint32, bool) {
	left, sleeps := p.left(pid)
	p.leave(func(d due) bool { return d.pid == pid })
	return left, sleeps
}

func (p *plain) all() []api.Sleeper {
	var l []api.Sleeper
	for _, d := range p.list {
		l = append(l, api.Sleeper{Pid: d.pid, Left: uint32(d.at - p.now)})
	}
	sort.Slice(l, func(i, j int) bool { return l[i].Pid < l[j].Pid })
	return l
}

func (p *plain) next() (uint32, bool) {
	var l []uint32
	for _, x := range p.all() {
		l = append(l, x.Left)
	}
	if len(l) == 0 {
		return 0, false
	}
	return slices.Min(l), true
}

func (p *plain) copy() *plain {
	return &plain{p.now, slices.Clone(p.list)}
}

// both are sleepers, and what they have to be.
type both struct {
	t *testing.T
	s *sleep.Sleepers
	p *plain
}

func newBoth(t *testing.T) *both {
	return &both{t, &sleep.Sleepers{}, &plain{}}
}

// with has them added in this order.
func with(t *testing.T, l ...api.Sleeper) *both {
	t.Helper()
	b := newBoth(t)
	for _, x := range l {
		b.add(x.Pid, x.Left)
	}
	return b
}

// same holds who sleeps against who has to.
func (b *both) same() {
	b.t.Helper()
	if l := b.s.All(); !slices.Equal(l, b.p.all()) {
		b.t.Fatalf("All: %v, not %v", l, b.p.all())
	}
}

func (b *both) add(pid int, ticks uint32) {
	b.t.Helper()
	want := b.p.add(pid, ticks)
	if e := b.s.Add(pid, ticks); e != want {
		b.t.Fatalf("Add(%d, %d): %v, not %v", pid, ticks, e, want)
	}
	b.same()
}

func (b *both) tick() {
	b.t.Helper()
	want := b.p.tick()
	if l := b.s.Tick(); !slices.Equal(l, want) {
		b.t.Fatalf("Tick: %v, not %v", l, want)
	}
	b.same()
}

func (b *both) drop(pid int) {
	b.t.Helper()
	want, wantOk := b.p.drop(pid)
	if left, ok := b.s.Drop(pid); left != want || ok != wantOk {
		b.t.Fatalf("Drop(%d): %d %v, not %d %v", pid, left, ok, want, wantOk)
	}
	b.same()
}

// looks holds all that is asked of sleepers against what they have to be.
func (b *both) looks() {
	b.t.Helper()
	b.same()
	want, wantOk := b.p.next()
	if left, ok := b.s.Next(); left != want || ok != wantOk {
		b.t.Fatalf("Next: %d %v, not %d %v", left, ok, want, wantOk)
	}
	asked := slices.Clone(pids)
	for _, d := range b.p.list {
		asked = append(asked, d.pid, d.pid+1, d.pid-1, -d.pid)
	}
	for _, pid := range asked {
		want, wantOk := b.p.left(pid)
		if left, ok := b.s.Left(pid); left != want || ok != wantOk {
			b.t.Fatalf("Left(%d): %d %v, not %d %v", pid, left, ok, want, wantOk)
		}
	}
	b.same()
}

// pids are some that may be, and some that may not, also where a narrower kind of number would take one for another.
var pids = []int{math.MinInt, math.MinInt + 1, -1 << 32, 1 - 1<<32, -65536, -2, -1, 0, 1, 2, 3, 9, 31, 32, 33, 255, 256, 257, 65535, 65536, 65537, 1<<31 - 1, 1 << 31, 1 << 32, 1<<32 + 1, 1<<32 + 3, math.MaxInt - 1, math.MaxInt}

// tickNumbers are none, few, and many.
var tickNumbers = []uint32{0, 1, 2, 3, 255, 256, 257, 65535, 65536, 65537, 1<<31 - 1, 1 << 31, 1<<31 + 1, math.MaxUint32 - 1, math.MaxUint32}

// sets are sleepers of many shapes.
func sets() [][]api.Sleeper {
	many := []api.Sleeper{}
	for n := range 40 {
		many = append(many, api.Sleeper{Pid: n*17%41 + 1, Left: uint32(n*n%7) + 1})
	}
	return [][]api.Sleeper{
		nil,
		{{Pid: 1, Left: 1}},
		{{Pid: 1, Left: 5}},
		{{Pid: math.MaxInt, Left: math.MaxUint32}},
		{{Pid: 3, Left: 2}, {Pid: 2, Left: 1}, {Pid: 9, Left: 2}},
		{{Pid: 9, Left: 1}, {Pid: 3, Left: 1}, {Pid: 256, Left: 1}, {Pid: 1, Left: 1}},
		{{Pid: 1, Left: 4}, {Pid: 2, Left: 3}, {Pid: 3, Left: 2}, {Pid: 4, Left: 1}},
		{{Pid: 4, Left: 4}, {Pid: 3, Left: 3}, {Pid: 2, Left: 2}, {Pid: 1, Left: 1}},
		{{Pid: 1, Left: math.MaxUint32}, {Pid: 1<<32 + 1, Left: 1 << 31}, {Pid: 257, Left: 256}, {Pid: 65537, Left: 65536}},
		{{Pid: 7, Left: 3}, {Pid: 5, Left: 3}, {Pid: 6, Left: 3}, {Pid: 8, Left: 6}},
		many,
	}
}

func TestP14_1_Add(t *testing.T) {
	for _, pid := range pids {
		for _, ticks := range tickNumbers {
			b := newBoth(t)
			want := api.OK
			if pid < 1 || ticks < 1 {
				want = api.ErrArg
			}
			if e := b.s.Add(pid, ticks); e != want {
				t.Errorf("Add(%d, %d): %v, not %v", pid, ticks, e, want)
			}
			b.p.add(pid, ticks)
			b.looks()
		}
	}
}

func TestP14_1_AddToOthers(t *testing.T) {
	for _, l := range sets() {
		b := with(t, l...)
		for i, pid := range pids {
			b.add(pid, tickNumbers[i%len(tickNumbers)])
			b.add(pid, uint32(i)+1)
		}
		b.looks()
	}
}

func TestP14_1_AddWhoSleeps(t *testing.T) {
	for _, ticks := range tickNumbers[1:] {
		b := with(t, api.Sleeper{Pid: 4, Left: 7}, api.Sleeper{Pid: 5, Left: ticks})
		for _, again := range tickNumbers[1:] {
			if e := b.s.Add(5, again); e != api.ErrSleep {
				t.Errorf("Add(5, %d), and it has %d: %v", again, ticks, e)
			}
			b.looks()
		}
	}
}

func TestP14_1_AddAgain(t *testing.T) {
	b := with(t, api.Sleeper{Pid: 5, Left: 1}, api.Sleeper{Pid: 6, Left: 8})
	if l := b.s.Tick(); !slices.Equal(l, []int{5}) {
		t.Fatalf("Tick: %v", l)
	}
	b.p.tick()
	b.add(5, 3)
	b.tick()
	if left, ok := b.s.Drop(5); left != 2 || !ok {
		t.Fatalf("Drop: %d %v", left, ok)
	}
	b.p.drop(5)
	if e := b.s.Add(5, 2); e != api.OK {
		t.Fatalf("Add behind Drop: %v", e)
	}
	b.p.add(5, 2)
	for range 9 {
		b.tick()
		b.looks()
	}
}

func TestP14_1_WhichErrorFirst(t *testing.T) {
	b := with(t, api.Sleeper{Pid: 5, Left: 2})
	for _, x := range []struct {
		pid   int
		ticks uint32
		want  api.Errno
	}{
		{0, 0, api.ErrArg}, {-1, 0, api.ErrArg}, {0, 1, api.ErrArg}, {-5, 2, api.ErrArg}, {math.MinInt, math.MaxUint32, api.ErrArg},
		{5, 0, api.ErrArg}, {6, 0, api.ErrArg}, {math.MaxInt, 0, api.ErrArg}, {5, 1, api.ErrSleep}, {5, 2, api.ErrSleep}, {5, math.MaxUint32, api.ErrSleep},
	} {
		if e := b.s.Add(x.pid, x.ticks); e != x.want {
			t.Errorf("Add(%d, %d): %v, not %v", x.pid, x.ticks, e, x.want)
		}
		b.looks()
	}
}

func TestP14_1_Tick(t *testing.T) {
	for _, l := range sets() {
		b := with(t, l...)
		for range 10 {
			b.tick()
			b.looks()
		}
	}
}

func TestP14_1_TickTellsRisingAndOnce(t *testing.T) {
	for _, order := range [][]int{{1, 2, 3, 400}, {400, 3, 2, 1}, {3, 400, 1, 2}, {2, 1, 400, 3}} {
		var s sleep.Sleepers
		for _, pid := range order {
			s.Add(pid, 3)
		}
		s.Add(50, 2)
		for i, want := range [][]int{nil, {50}, {1, 2, 3, 400}, nil, nil} {
			if l := s.Tick(); !slices.Equal(l, want) {
				t.Errorf("Tick %d, added as %v: %v, not %v", i+1, order, l, want)
			}
		}
	}
}

func TestP14_1_TickOfMostTicks(t *testing.T) {
	b := with(t, api.Sleeper{Pid: 1, Left: math.MaxUint32}, api.Sleeper{Pid: 2, Left: 1 << 31}, api.Sleeper{Pid: 3, Left: 65536})
	b.tick()
	for pid, want := range map[int]uint32{1: math.MaxUint32 - 1, 2: 1<<31 - 1, 3: 65535} {
		if left, ok := b.s.Left(pid); left != want || !ok {
			t.Errorf("Left(%d) behind a Tick: %d %v, not %d", pid, left, ok, want)
		}
	}
	b.looks()
}

func TestP14_1_Left(t *testing.T) {
	var s sleep.Sleepers
	s.Add(4, 3)
	s.Add(5, 9)
	for _, want := range []uint32{3, 2, 1, 0, 0} {
		if left, ok := s.Left(4); left != want || ok != (want > 0) {
			t.Errorf("Left(4): %d %v, not %d", left, ok, want)
		}
		s.Tick()
	}
	s.Drop(5)
	for _, pid := range []int{4, 5, 6, 0, -1, -4, -5, 4 + 1<<32, math.MinInt, math.MaxInt} {
		if left, ok := s.Left(pid); left != 0 || ok {
			t.Errorf("Left(%d): %d %v", pid, left, ok)
		}
	}
}

func TestP14_1_Drop(t *testing.T) {
	for _, l := range sets() {
		for _, pid := range append([]int{4, 7, 41}, pids...) {
			b := with(t, l...)
			b.drop(pid)
			b.looks()
			if left, ok := b.s.Drop(pid); left != 0 || ok {
				t.Errorf("Drop(%d) twice: %d %v", pid, left, ok)
			}
			b.looks()
			for range 3 {
				b.tick()
				b.drop(pid)
			}
			b.looks()
		}
	}
}

func TestP14_1_DropOfEach(t *testing.T) {
	b := with(t, api.Sleeper{Pid: 4, Left: 3}, api.Sleeper{Pid: 5, Left: 1}, api.Sleeper{Pid: 6, Left: 2}, api.Sleeper{Pid: 7, Left: 2})
	b.tick()
	for _, x := range []struct {
		pid  int
		left uint32
		ok   bool
	}{{5, 0, false}, {4, 2, true}, {4, 0, false}, {3, 0, false}, {0, 0, false}, {-6, 0, false}, {6, 1, true}} {
		if left, ok := b.s.Drop(x.pid); left != x.left || ok != x.ok {
			t.Errorf("Drop(%d): %d %v, not %d %v", x.pid, left, ok, x.left, x.ok)
		}
		b.p.drop(x.pid)
		b.looks()
	}
	if l := b.s.Tick(); !slices.Equal(l, []int{7}) {
		t.Errorf("Tick behind Drops: %v", l)
	}
}

func TestP14_2_All(t *testing.T) {
	for _, l := range sets() {
		b := with(t, l...)
		want := slices.Clone(l)
		sort.Slice(want, func(i, j int) bool { return want[i].Pid < want[j].Pid })
		if all := b.s.All(); !slices.Equal(all, want) {
			t.Errorf("All of %v: %v", l, all)
		}
		b.looks()
	}
}

func TestP14_2_Next(t *testing.T) {
	for _, x := range []struct {
		l    []api.Sleeper
		want uint32
	}{
		{nil, 0},
		{[]api.Sleeper{{Pid: 1, Left: 1}}, 1},
		{[]api.Sleeper{{Pid: 9, Left: math.MaxUint32}}, math.MaxUint32},
		{[]api.Sleeper{{Pid: 1, Left: 4}, {Pid: 2, Left: 3}, {Pid: 3, Left: 5}}, 3},
		{[]api.Sleeper{{Pid: 1, Left: 2}, {Pid: 2, Left: 3}, {Pid: 3, Left: 4}}, 2},
		{[]api.Sleeper{{Pid: 1, Left: 9}, {Pid: 2, Left: 1}, {Pid: 3, Left: 7}}, 1},
		{[]api.Sleeper{{Pid: 1, Left: 9}, {Pid: 2, Left: 8}, {Pid: 3, Left: 7}}, 7},
		{[]api.Sleeper{{Pid: 1, Left: math.MaxUint32}, {Pid: 2, Left: 1 << 31}}, 1 << 31},
	} {
		b := with(t, x.l...)
		if left, ok := b.s.Next(); left != x.want || ok != (len(x.l) > 0) {
			t.Errorf("Next of %v: %d %v", x.l, left, ok)
		}
		b.looks()
	}
}

func TestP14_2_NextGoesOn(t *testing.T) {
	b := with(t, api.Sleeper{Pid: 3, Left: 2}, api.Sleeper{Pid: 2, Left: 6}, api.Sleeper{Pid: 9, Left: 4})
	next := func(want uint32) {
		t.Helper()
		if left, ok := b.s.Next(); left != want || ok != (want > 0) {
			t.Errorf("Next: %d %v, not %d", left, ok, want)
		}
	}
	next(2)
	b.tick()
	next(1)
	b.tick()
	next(2)
	b.drop(9)
	next(4)
	b.drop(9)
	next(4)
	b.drop(2)
	next(0)
	b.tick()
	next(0)
}

// Whatever Next says, the tick of that number is the first one that tells somebody.
func TestP14_2_NextIsKept(t *testing.T) {
	for _, l := range sets() {
		b := with(t, l...)
		left, ok := b.s.Next()
		if !ok || left > 100 {
			continue
		}
		for n := uint32(1); n <= left; n++ {
			if woken := b.s.Tick(); (len(woken) > 0) != (n == left) {
				t.Errorf("Next of %v: %d, and tick %d tells %v", l, left, n, woken)
			}
		}
	}
}

func TestP14_2_Copy(t *testing.T) {
	for _, l := range sets() {
		b := with(t, l...)
		twin := &both{t, b.s.Copy(), b.p.copy()}
		twin.looks()
		b.tick()
		b.drop(7)
		b.add(88, 3)
		twin.looks()
		b.looks()
		twin.add(99, 1)
		twin.add(88, 1)
		twin.drop(1)
		b.looks()
		twin.tick()
		b.looks()
		twin.looks()
	}
	if (*sleep.Sleepers)(nil).Copy() != nil {
		t.Errorf("Copy of none is something")
	}
}

func TestP14_1_None(t *testing.T) {
	var s *sleep.Sleepers
	for _, pid := range pids {
		for _, ticks := range tickNumbers {
			if e := s.Add(pid, ticks); e != api.ErrNil {
				t.Errorf("Add(%d, %d): %v", pid, ticks, e)
			}
		}
		if left, ok := s.Left(pid); left != 0 || ok {
			t.Errorf("Left(%d): %d %v", pid, left, ok)
		}
		if left, ok := s.Drop(pid); left != 0 || ok {
			t.Errorf("Drop(%d): %d %v", pid, left, ok)
		}
	}
	if left, ok := s.Next(); left != 0 || ok || len(s.Tick()) != 0 || len(s.All()) != 0 {
		t.Errorf("Next, Tick or All: %d %v", left, ok)
	}
}

// Each call is the first one on sleepers that nobody made.
func TestP14_1_Zero(t *testing.T) {
	for _, pid := range pids {
		newBoth(t).drop(pid)
		newBoth(t).add(pid, 1)
		var s sleep.Sleepers
		if left, ok := s.Left(pid); left != 0 || ok {
			t.Errorf("Left(%d): %d %v", pid, left, ok)
		}
	}
	newBoth(t).tick()
	newBoth(t).same()
	newBoth(t).looks()
	var s sleep.Sleepers
	if left, ok := s.Next(); left != 0 || ok {
		t.Errorf("Next: %d %v", left, ok)
	}
	twin := s.Copy()
	if twin == nil || twin == &s || twin.Add(1, 1) != api.OK || len(s.All()) != 0 {
		t.Errorf("Copy: %v", twin)
	}
}

func TestP14_1_Apart(t *testing.T) {
	a, b := newBoth(t), newBoth(t)
	a.add(1, 1)
	b.looks()
	b.add(1, 2)
	a.tick()
	b.looks()
	a.looks()
}

// spoil writes over a list, and over what memory it has behind it.
func spoil[E any](l []E, with E) {
	l = l[:cap(l)]
	for i := range l {
		l[i] = with
	}
}

func TestP14_3_NewMemory(t *testing.T) {
	for _, l := range sets() {
		b := with(t, l...)
		spoil(b.s.All(), api.Sleeper{Pid: -7, Left: 7})
		_ = append(b.s.All(), api.Sleeper{Pid: -7})
		b.looks()
		for range 8 {
			woken := b.s.Tick()
			b.p.tick()
			_ = append(woken, -7)
			spoil(woken, -7)
			b.looks()
		}
	}
}

func TestP14_3_AnswersStay(t *testing.T) {
	b := with(t, api.Sleeper{Pid: 4, Left: 1}, api.Sleeper{Pid: 2, Left: 1}, api.Sleeper{Pid: 9, Left: 2}, api.Sleeper{Pid: 1, Left: 2}, api.Sleeper{Pid: 8, Left: 5})
	all := b.s.All()
	first := b.s.Tick()
	later := b.s.All()
	second := b.s.Tick()
	b.s.Add(4, 1)
	b.s.Add(3, 1)
	b.s.Add(7, 6)
	b.s.Tick()
	b.s.All()
	b.s.Drop(8)
	if !slices.Equal(all, []api.Sleeper{{Pid: 1, Left: 2}, {Pid: 2, Left: 1}, {Pid: 4, Left: 1}, {Pid: 8, Left: 5}, {Pid: 9, Left: 2}}) {
		t.Errorf("All behind later calls: %v", all)
	}
	if !slices.Equal(later, []api.Sleeper{{Pid: 1, Left: 1}, {Pid: 8, Left: 4}, {Pid: 9, Left: 1}}) {
		t.Errorf("All behind later calls: %v", later)
	}
	if !slices.Equal(first, []int{2, 4}) || !slices.Equal(second, []int{1, 9}) {
		t.Errorf("Tick behind later calls: %v %v", first, second)
	}
}

// anyTicks are few ones mostly, so that many wake in one run, and several at once.
func anyTicks(x *rand.Rand) uint32 {
	switch x.Intn(12) {
	case 0:
		return tickNumbers[x.Intn(len(tickNumbers))]
	case 1:
		return uint32(x.Intn(40))
	}
	return uint32(x.Intn(7))
}

// anyPid is one of few mostly, so that one of them sleeps often.
func anyPid(x *rand.Rand) int {
	if x.Intn(12) == 0 {
		return pids[x.Intn(len(pids))]
	}
	return x.Intn(20)
}

func TestP14_4_AnyCalls(t *testing.T) {
	x := rand.New(rand.NewSource(14))
	for range 100 {
		b := newBoth(t)
		for range 300 {
			switch x.Intn(8) {
			case 0, 1, 2, 3:
				b.add(anyPid(x), anyTicks(x))
			case 4, 5:
				b.tick()
			case 6:
				b.drop(anyPid(x))
			default:
				b.looks()
			}
		}
		twin := &both{t, b.s.Copy(), b.p.copy()}
		for range 50 {
			b.tick()
		}
		twin.looks()
	}
}

// Who was added with n ticks is told by the n-th Tick from then on, and by no other one.
func TestP14_4_ByItsTick(t *testing.T) {
	for ahead := range 5 {
		for n := uint32(1); n <= 70; n++ {
			var s sleep.Sleepers
			s.Add(8, 3)
			s.Add(6, n+1)
			for range ahead {
				s.Tick()
			}
			s.Add(7, n)
			for i := uint32(1); i <= n+5; i++ {
				if told := slices.Contains(s.Tick(), 7); told != (i == n) {
					t.Fatalf("added with %d ticks behind %d: tick %d tells it: %v", n, ahead, i, told)
				}
			}
		}
	}
}

func TestP14_4_NotBehindDrop(t *testing.T) {
	for n := uint32(1); n <= 20; n++ {
		for at := range n {
			var s sleep.Sleepers
			s.Add(6, n)
			s.Add(7, n)
			for i := range n + 3 {
				if i == at {
					if left, ok := s.Drop(7); left != n-at || !ok {
						t.Fatalf("Drop behind %d ticks of %d: %d %v", at, n, left, ok)
					}
				}
				var want []int
				if i+1 == n {
					want = []int{6}
				}
				if l := s.Tick(); !slices.Equal(l, want) {
					t.Fatalf("%d ticks, dropped behind %d: tick %d tells %v", n, at, i+1, l)
				}
			}
		}
	}
}

func TestP14_4_OrderMakesNoDifference(t *testing.T) {
	x := rand.New(rand.NewSource(144))
	for _, l := range sets() {
		for range 10 {
			a := with(t, l...)
			mixed := slices.Clone(l)
			x.Shuffle(len(mixed), func(i, j int) { mixed[i], mixed[j] = mixed[j], mixed[i] })
			b := with(t, mixed...)
			for range 8 {
				one, ok := a.s.Next()
				other, otherOk := b.s.Next()
				if !slices.Equal(a.s.All(), b.s.All()) || one != other || ok != otherOk {
					t.Errorf("of %v and %v: %v %v, Next %d %d", l, mixed, a.s.All(), b.s.All(), one, other)
				}
				if woken, others := a.s.Tick(), b.s.Tick(); !slices.Equal(woken, others) {
					t.Errorf("of %v and %v: told are %v and %v", l, mixed, woken, others)
				}
			}
		}
	}
}

func TestP14_4_ErrorsChangeNothing(t *testing.T) {
	for _, l := range sets() {
		b := with(t, l...)
		for range 3 {
			for _, pid := range pids {
				b.s.Add(pid, 0)
				if _, sleeps := b.p.left(pid); sleeps || pid < 1 {
					b.s.Add(pid, 1)
					b.s.Add(pid, math.MaxUint32)
				} else {
					b.s.Left(pid)
					b.s.Drop(pid)
				}
			}
			b.looks()
			b.tick()
		}
	}
}

func TestExamplesOfLayer14(t *testing.T) {
	var s sleep.Sleepers
	for _, x := range []api.Sleeper{{Pid: 3, Left: 2}, {Pid: 2, Left: 1}, {Pid: 9, Left: 2}} {
		if e := s.Add(x.Pid, x.Left); e != api.OK {
			t.Errorf("Add(%d, %d): %v", x.Pid, x.Left, e)
		}
	}
	if left, ok := s.Next(); left != 1 || !ok {
		t.Errorf("Next: %d %v", left, ok)
	}
	for _, want := range [][]int{{2}, {3, 9}, nil} {
		if l := s.Tick(); !slices.Equal(l, want) {
			t.Errorf("Tick: %v, not %v", l, want)
		}
	}
	for _, x := range []struct {
		pid   int
		ticks uint32
		want  api.Errno
	}{{0, 1, api.ErrArg}, {1, 0, api.ErrArg}, {1, 5, api.OK}, {1, 5, api.ErrSleep}} {
		if e := s.Add(x.pid, x.ticks); e != x.want {
			t.Errorf("Add(%d, %d): %v, not %v", x.pid, x.ticks, e, x.want)
		}
	}
	if left, ok := s.Drop(1); left != 5 || !ok {
		t.Errorf("Drop(1): %d %v", left, ok)
	}
}
