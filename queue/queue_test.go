package queue_test

import (
	"math"
	"math/rand"
	"slices"
	"sort"
	"testing"

	"carryall/api"
	"carryall/queue"
)

// plain is what each queue has, as the chapter's words say it; there are as many as there are cores.
type plain [][]int

// cores are those of a mask that there are, bit by bit.
func (p plain) cores(mask uint32) []int {
	var l []int
	for core := range p {
		if mask%2 == 1 {
			l = append(l, core)
		}
		mask /= 2
	}
	return l
}

func (p plain) where(pid int) int {
	for core, l := range p {
		for _, other := range l {
			if other == pid {
				return core
			}
		}
	}
	return -1
}

// put is what placing comes to, once it may be.
func (p plain) put(pid, core int, mask uint32) int {
	cores := p.cores(mask)
	if !slices.Contains(cores, core) {
		sort.SliceStable(cores, func(i, j int) bool { return len(p[cores[i]]) < len(p[cores[j]]) })
		core = cores[0]
	}
	p[core] = append(slices.Clone(p[core]), pid)
	return core
}

func (p plain) place(pid, core int, mask uint32) (int, api.Errno) {
	if pid < 1 {
		return 0, api.ErrArg
	}
	if p.where(pid) != -1 || len(p.cores(mask)) == 0 {
		return 0, api.ErrQueue
	}
	return p.put(pid, core, mask), api.OK
}

func (p plain) move(pid int, mask uint32) (int, api.Errno) {
	core := p.where(pid)
	if core == -1 || len(p.cores(mask)) == 0 {
		return 0, api.ErrQueue
	}
	if slices.Contains(p.cores(mask), core) {
		return core, api.OK
	}
	p.cut(pid)
	return p.put(pid, -1, mask), api.OK
}

func (p plain) cut(pid int) bool {
	core := p.where(pid)
	if core == -1 {
		return false
	}
	var stay []int
	for _, other := range p[core] {
		if other != pid {
			stay = append(stay, other)
		}
	}
	p[core] = stay
	return true
}

func (p plain) list(core int) []int {
	if core < 0 || core >= len(p) {
		return nil
	}
	return p[core]
}

func (p plain) rotate(core int) bool {
	l := p.list(core)
	if len(l) < 2 {
		return false
	}
	p[core] = slices.Concat(l[1:], l[:1])
	return true
}

func (p plain) pick(core int, n uint32) int {
	l := p.list(core)
	if len(l) == 0 {
		return 0
	}
	return l[int(n)%len(l)]
}

func (p plain) all() []int {
	var l []int
	for _, pids := range p {
		l = append(l, pids...)
	}
	sort.Ints(l)
	return l
}

// both are queues, and what they have to be.
type both struct {
	t *testing.T
	q *queue.Queues
	p plain
}

func newBoth(t *testing.T, cores int) *both {
	t.Helper()
	q, e := queue.New(cores)
	if q == nil || e != api.OK {
		t.Fatalf("New(%d): %v %v", cores, q, e)
	}
	return &both{t, q, make(plain, cores)}
}

// with has the pids of each queue placed there.
func with(t *testing.T, lists ...[]int) *both {
	t.Helper()
	b := newBoth(t, len(lists))
	for core, l := range lists {
		for _, pid := range l {
			b.place(pid, core, 1<<core)
		}
	}
	return b
}

// same holds each queue against what it has to be.
func (b *both) same() {
	b.t.Helper()
	for core := -1; core <= api.MaxCores; core++ {
		if l := b.q.List(core); !slices.Equal(l, b.p.list(core)) {
			b.t.Fatalf("List(%d): %v, not %v", core, l, b.p.list(core))
		}
	}
}

func (b *both) place(pid, core int, mask uint32) {
	b.t.Helper()
	want, wantE := b.p.place(pid, core, mask)
	if got, e := b.q.Place(pid, core, mask); got != want || e != wantE {
		b.t.Fatalf("Place(%d, %d, %x): %d %v, not %d %v", pid, core, mask, got, e, want, wantE)
	}
	b.same()
}

func (b *both) move(pid int, mask uint32) {
	b.t.Helper()
	want, wantE := b.p.move(pid, mask)
	if got, e := b.q.Move(pid, mask); got != want || e != wantE {
		b.t.Fatalf("Move(%d, %x): %d %v, not %d %v", pid, mask, got, e, want, wantE)
	}
	b.same()
}

func (b *both) cut(pid int) {
	b.t.Helper()
	want := b.p.cut(pid)
	if got := b.q.Cut(pid); got != want {
		b.t.Fatalf("Cut(%d): %v", pid, got)
	}
	b.same()
}

func (b *both) rotate(core int) {
	b.t.Helper()
	want := b.p.rotate(core)
	if got := b.q.Rotate(core); got != want {
		b.t.Fatalf("Rotate(%d): %v", core, got)
	}
	b.same()
}

func (b *both) pick(core int, n uint32) {
	b.t.Helper()
	if got, want := b.q.Pick(core, n), b.p.pick(core, n); got != want {
		b.t.Fatalf("Pick(%d, %d): %d, not %d", core, n, got, want)
	}
	b.same()
}

// looks holds all that is asked of queues against what they have to be.
func (b *both) looks() {
	b.t.Helper()
	b.same()
	if l := b.q.All(); !slices.Equal(l, b.p.all()) {
		b.t.Fatalf("All: %v, not %v", l, b.p.all())
	}
	if n := b.q.Cores(); n != len(b.p) {
		b.t.Fatalf("Cores: %d, not %d", n, len(b.p))
	}
	for _, pid := range append(slices.Clone(pids), b.p.all()...) {
		if core := b.q.Where(pid); core != b.p.where(pid) {
			b.t.Fatalf("Where(%d): %d, not %d", pid, core, b.p.where(pid))
		}
	}
	for _, m := range masks {
		if may := b.q.May(m); may != (len(b.p.cores(m)) > 0) {
			b.t.Fatalf("May(%x): %v", m, may)
		}
	}
}

// pids are some that may be, and some that may not.
var pids = []int{math.MinInt, math.MinInt + 1, -1 << 32, 1 - 1<<32, -65536, -2, -1, 0, 1, 2, 3, 31, 32, 33, 255, 256, 257, 65535, 65536, 65537, 1<<31 - 1, 1 << 31, 1 << 32, 1<<32 + 1, math.MaxInt}

// coreNumbers are all cores, and numbers that are none, also where a narrower kind of number would take them for some.
var coreNumbers = []int{0, 1, 2, 3, 4, 5, 6, 7, 8, 9, 15, 16, 31, 32, 33, 63, 64, 65, 255, 256, 257, 1<<32 - 1, 1 << 32, 1<<32 + 1, math.MaxInt, -1, -2, -8, -31, -32, -64, -256, -1 << 32, 1 - 1<<32, math.MinInt, math.MinInt + 1}

// masks are none, single cores, several, those that no machine has, and all.
var masks = []uint32{0, 1, 2, 3, 4, 5, 6, 7, 8, 0x0F, 0x10, 0x40, 0x55, 0x7F, 0x80, 0xAA, 0xF0, 0xFF, 0x100, 0x101, 0x180, 0xFF00, 0xFF02, 1 << 16, 1 << 31, 1<<31 + 1, 1<<31 + 4, 0xFFFFFF00, math.MaxUint32 - 1, math.MaxUint32}

func TestP13_1_New(t *testing.T) {
	for _, cores := range []int{1, 2, 3, 4, 5, 6, 7, 8} {
		newBoth(t, cores).looks()
	}
	for _, cores := range []int{math.MinInt, -1 << 32, 1 - 1<<32, -8, -1, 0, 9, 10, 16, 256, 257, 1 << 31, 1 << 32, 1<<32 + 1, 1<<32 + 8, math.MaxInt} {
		if q, e := queue.New(cores); q != nil || e != api.ErrArg {
			t.Errorf("New(%d): %v %v", cores, q, e)
		}
	}
}

func TestP13_1_NewApart(t *testing.T) {
	a, b := newBoth(t, 2), newBoth(t, 2)
	a.place(1, 0, 3)
	b.looks()
	b.place(1, 1, 3)
	a.looks()
}

func TestP13_1_May(t *testing.T) {
	for cores := 1; cores <= api.MaxCores; cores++ {
		b := newBoth(t, cores)
		for bit := range 32 {
			if may := b.q.May(1 << bit); may != (bit < cores) {
				t.Errorf("May of core %d of %d: %v", bit, cores, may)
			}
			if may := b.q.May(math.MaxUint32 << bit); may != (bit < cores) {
				t.Errorf("May of all from core %d of %d on: %v", bit, cores, may)
			}
		}
		if b.q.May(0) || !b.q.May(math.MaxUint32) || !b.q.May(1<<31+1) {
			t.Errorf("May of none, of all, of one that there is and one that there is not, of %d", cores)
		}
		b.looks()
	}
}

// sets are queues of many shapes.
func sets() [][][]int {
	return [][][]int{
		{nil},
		{{5}},
		{{3, 2, 1}},
		{nil, nil},
		{{1, 3, 33}, {2}},
		{{2}, {33, 3, 1}},
		{nil, nil, nil},
		{{1, 2}, {3, 4}, {5, 6}},
		{{1, 2}, {3, 4}, {5}},
		{{1}, {3, 4, 6}, {5}},
		{{9, 8}, {3}, {5}},
		{{1, 2, 3}, {4, 5}, {6}, {}},
		{nil, nil, nil, nil, nil, nil, nil, nil},
		{{1}, {2}, {3}, {4}, {5}, {6}, {7}, {8}},
		{{1, 11}, {2, 12}, {3, 13}, {4, 14}, {5, 15}, {6, 16}, {7, 17}, {8}},
		{{8, 7, 6, 5, 4, 3, 2, 1}, {20}, {30}, {40}, {50}, {60, 61}, {70}, {80}},
		{{1}, {2, 3}, {4, 5, 6}, {7, 8, 9, 10}, {11}, {12, 13}, {255, 257, 256}, {65535}},
	}
}

func TestP13_2_Place(t *testing.T) {
	for _, lists := range sets() {
		for _, core := range coreNumbers {
			for _, m := range masks {
				b := with(t, lists...)
				b.place(100, core, m)
				b.place(101, core, m)
			}
		}
	}
}

func TestP13_2_PlacePids(t *testing.T) {
	for _, pid := range pids {
		b := newBoth(t, 2)
		core, e := b.q.Place(pid, 1, 3)
		switch {
		case pid < 1:
			if core != 0 || e != api.ErrArg {
				t.Errorf("Place(%d): %d %v", pid, core, e)
			}
		case core != 1 || e != api.OK || b.q.Where(pid) != 1 || !slices.Equal(b.q.All(), []int{pid}) || !slices.Equal(b.q.List(1), []int{pid}):
			t.Errorf("Place(%d): %d %v", pid, core, e)
		default:
			if core, e := b.q.Place(pid, 0, 3); core != 0 || e != api.ErrQueue {
				t.Errorf("Place(%d) again: %d %v", pid, core, e)
			}
		}
	}
}

func TestP13_2_PlaceFewest(t *testing.T) {
	for _, x := range []struct {
		lists [][]int
		mask  uint32
		want  int
	}{
		{[][]int{nil, nil, nil}, 7, 0},
		{[][]int{nil, nil, nil}, 6, 1},
		{[][]int{nil, nil, nil}, 0xFFFFFFFC, 2},
		{[][]int{{1, 2}, {3}, {4}}, 7, 1},
		{[][]int{{1, 2}, {3}, {4}}, 5, 2},
		{[][]int{{1, 2}, {3}, nil}, 3, 1},
		{[][]int{{1, 2}, {3}, nil}, 7, 2},
		{[][]int{{1}, {2, 3}, {4}}, 7, 0},
		{[][]int{{1, 5}, {2, 3}, {4}}, 3, 0},
		{[][]int{{1, 5}, {2, 3}, {4, 6}}, 6, 1},
	} {
		for _, core := range []int{-1, -32, 3, 8, 32, 64, math.MinInt, math.MaxInt} {
			b := with(t, x.lists...)
			if got, e := b.q.Place(99, core, x.mask); got != x.want || e != api.OK {
				t.Errorf("Place by %v, %d, %x: %d %v, not %d", x.lists, core, x.mask, got, e, x.want)
			}
		}
	}
}

func TestP13_2_WhichErrorFirst(t *testing.T) {
	b := with(t, []int{1, 2}, []int{3})
	for _, x := range []struct {
		pid  int
		mask uint32
		want api.Errno
	}{
		{0, 0, api.ErrArg}, {-1, 0, api.ErrArg}, {0, 3, api.ErrArg}, {0, 4, api.ErrArg}, {math.MinInt, 3, api.ErrArg},
		{1, 0, api.ErrQueue}, {1, 3, api.ErrQueue}, {3, 4, api.ErrQueue}, {3, 2, api.ErrQueue}, {9, 0, api.ErrQueue}, {9, 4, api.ErrQueue}, {9, 0xFFFFFFFC, api.ErrQueue},
	} {
		for _, core := range []int{0, 1, 2, -1} {
			if got, e := b.q.Place(x.pid, core, x.mask); got != 0 || e != x.want {
				t.Errorf("Place(%d, %d, %x): %d %v, not %v", x.pid, core, x.mask, got, e, x.want)
			}
		}
		b.looks()
	}
	for _, pid := range []int{math.MinInt, -1, 0, 4, 1 << 32, 1<<32 + 1} {
		for _, m := range masks {
			if got, e := b.q.Move(pid, m); got != 0 || e != api.ErrQueue {
				t.Errorf("Move(%d, %x): %d %v", pid, m, got, e)
			}
		}
	}
	for _, m := range []uint32{0, 4, 0xFFFFFFFC} {
		if got, e := b.q.Move(3, m); got != 0 || e != api.ErrQueue {
			t.Errorf("Move(3, %x): %d %v", m, got, e)
		}
	}
	b.looks()
}

func TestP13_2_Move(t *testing.T) {
	for _, lists := range sets() {
		for _, l := range append([][]int{pids}, lists...) {
			for _, pid := range l {
				for _, m := range masks {
					b := with(t, lists...)
					b.move(pid, m)
					b.move(pid, m)
				}
			}
		}
	}
}

func TestP13_2_MoveStaysOrGoesLast(t *testing.T) {
	b := with(t, []int{1, 2, 3}, []int{4, 5})
	for _, pid := range []int{1, 2, 3} {
		if core, e := b.q.Move(pid, 3); core != 0 || e != api.OK {
			t.Errorf("Move(%d, 3): %d %v", pid, core, e)
		}
	}
	b.looks()
	if core, e := b.q.Move(2, 2); core != 1 || e != api.OK {
		t.Errorf("Move(2, 2): %d %v", core, e)
	}
	b.p = plain{{1, 3}, {4, 5, 2}}
	b.looks()
}

// Of the cores of the mask none is the one that the pid was cut from, so it does not count anywhere.
func TestP13_2_MoveIsCutFirst(t *testing.T) {
	b := with(t, []int{1}, []int{2, 3}, []int{4})
	b.move(1, 6)
	b.p = plain{nil, {2, 3}, {4, 1}}
	b.looks()
	b.place(5, -1, 7)
	b.move(5, 1)
	b.move(5, 4)
	b.p = plain{nil, {2, 3}, {4, 1, 5}}
	b.looks()
	b.place(1, 0, 1) // it is in one still
	b.cut(1)
	b.place(1, 0, 1)
	b.p = plain{{1}, {2, 3}, {4, 5}}
	b.looks()
}

func TestP13_2_Cut(t *testing.T) {
	for _, lists := range sets() {
		for _, l := range append([][]int{pids}, lists...) {
			for _, pid := range l {
				b := with(t, lists...)
				b.cut(pid)
				b.looks()
				if b.q.Cut(pid) || b.q.Where(pid) != -1 {
					t.Errorf("%d is in a queue behind Cut", pid)
				}
				b.looks()
			}
		}
	}
	b := with(t, []int{7}, []int{4, 9, 2, 8, 6})
	for _, x := range []struct {
		pid  int
		stay []int
	}{{4, []int{9, 2, 8, 6}}, {6, []int{9, 2, 8}}, {2, []int{9, 8}}, {8, []int{9}}, {9, nil}} {
		if !b.q.Cut(x.pid) || !slices.Equal(b.q.List(1), x.stay) {
			t.Errorf("Cut(%d): %v stay, not %v", x.pid, b.q.List(1), x.stay)
		}
	}
	if !slices.Equal(b.q.All(), []int{7}) {
		t.Errorf("All behind Cut: %v", b.q.All())
	}
}

func TestP13_3_Rotate(t *testing.T) {
	for _, lists := range sets() {
		for _, core := range coreNumbers {
			b := with(t, lists...)
			b.rotate(core)
			b.looks()
			b.place(99, core, math.MaxUint32)
			b.rotate(core)
			b.looks()
		}
	}
	b := with(t, []int{5, 1, 9, 3}, []int{2})
	if !b.q.Rotate(0) || !slices.Equal(b.q.List(0), []int{1, 9, 3, 5}) || b.q.Rotate(1) || b.q.Rotate(2) || b.q.Rotate(-1) {
		t.Errorf("Rotate: %v %v", b.q.List(0), b.q.List(1))
	}
}

func TestP13_3_Pick(t *testing.T) {
	for _, lists := range sets() {
		b := with(t, lists...)
		for _, core := range coreNumbers {
			for n := range uint32(20) {
				b.pick(core, n)
			}
			for _, n := range []uint32{255, 256, 257, 65535, 65536, 65537, 1<<31 - 1, 1 << 31, 1<<31 + 1, math.MaxUint32 - 2, math.MaxUint32 - 1, math.MaxUint32} {
				b.pick(core, n)
			}
		}
		b.looks()
	}
	b := with(t, []int{5, 1, 9}, nil)
	for n, want := range map[uint32]int{0: 5, 1: 1, 2: 9, 3: 5, 5: 9, math.MaxUint32: 5, math.MaxUint32 - 1: 9, 1 << 31: 9} {
		if pid := b.q.Pick(0, n); pid != want {
			t.Errorf("Pick(0, %d): %d, not %d", n, pid, want)
		}
	}
	if b.q.Pick(1, 0) != 0 || b.q.Pick(2, 0) != 0 || b.q.Pick(-1, 0) != 0 {
		t.Errorf("Pick of no pids, or of no core")
	}
}

func TestP13_3_Looks(t *testing.T) {
	for _, lists := range sets() {
		b := with(t, lists...)
		b.looks()
		for _, core := range coreNumbers {
			if l := b.q.List(core); core < 0 || core >= len(lists) {
				if len(l) != 0 {
					t.Errorf("List(%d): %v", core, l)
				}
			}
		}
	}
	for _, order := range [][]int{{1, 2, 3, 4}, {4, 3, 2, 1}, {3, 1, 4, 2}, {1, 4, 3, 2}} {
		b := newBoth(t, 3)
		for i, pid := range order {
			b.place(pid, i%3, 7)
		}
		if !slices.Equal(b.q.All(), []int{1, 2, 3, 4}) {
			t.Errorf("All, placed %v: %v", order, b.q.All())
		}
		b.looks()
	}
}

// unmade are queues that New did not make.
func unmade() map[string]*queue.Queues {
	return map[string]*queue.Queues{"none": nil, "zero": {}}
}

func TestP13_1_NotMade(t *testing.T) {
	for name, q := range unmade() {
		for _, pid := range pids {
			for _, m := range masks {
				for _, core := range []int{0, 1, -1, 32, math.MinInt} {
					if got, e := q.Place(pid, core, m); got != 0 || e != api.ErrNil {
						t.Errorf("%s: Place(%d, %d, %x): %d %v", name, pid, core, m, got, e)
					}
				}
				if got, e := q.Move(pid, m); got != 0 || e != api.ErrNil {
					t.Errorf("%s: Move(%d, %x): %d %v", name, pid, m, got, e)
				}
			}
			if q.Cut(pid) || q.Where(pid) != -1 {
				t.Errorf("%s: Cut(%d), or where it is", name, pid)
			}
		}
		for _, core := range coreNumbers {
			if q.Rotate(core) || q.Pick(core, 0) != 0 || q.Pick(core, math.MaxUint32) != 0 || len(q.List(core)) != 0 {
				t.Errorf("%s: core %d", name, core)
			}
		}
		for _, m := range masks {
			if q.May(m) {
				t.Errorf("%s: May(%x)", name, m)
			}
		}
		if len(q.All()) != 0 || q.Cores() != 0 {
			t.Errorf("%s: All %v, Cores %d", name, q.All(), q.Cores())
		}
	}
}

// spoil writes over a list, and over what memory it has behind it.
func spoil(l []int) {
	l = l[:cap(l)]
	for i := range l {
		l[i] = -7
	}
}

func TestP13_4_NewMemory(t *testing.T) {
	for _, lists := range sets() {
		b := with(t, lists...)
		for core := range lists {
			spoil(b.q.List(core))
			_ = append(b.q.List(core), -7)
			b.looks()
		}
		spoil(b.q.All())
		_ = append(b.q.All(), -7)
		b.looks()
		b.place(99, -1, math.MaxUint32)
		b.looks()
	}
}

func TestP13_4_AnswersStay(t *testing.T) {
	b := with(t, []int{4, 2, 9, 1}, []int{6, 5, 3})
	list, all := b.q.List(0), b.q.All()
	b.rotate(0)
	b.cut(2)
	b.place(2, 0, 1)
	b.move(9, 2)
	b.move(3, 1)
	b.rotate(1)
	b.cut(1)
	b.place(8, 0, 3)
	b.looks()
	if !slices.Equal(list, []int{4, 2, 9, 1}) || !slices.Equal(all, []int{1, 2, 3, 4, 5, 6, 9}) {
		t.Errorf("behind later calls: %v %v", list, all)
	}
}

// anyMask has each core about as often as not.
func anyMask(x *rand.Rand) uint32 {
	switch x.Intn(8) {
	case 0:
		return masks[x.Intn(len(masks))]
	case 1:
		return 1 << x.Intn(9)
	}
	return x.Uint32()
}

// anyCall is one call on both.
func anyCall(b *both, x *rand.Rand, last map[int]uint32) {
	pid, core, m := x.Intn(24)-1, x.Intn(len(b.p)+2)-1, anyMask(x)
	switch x.Intn(9) {
	case 0, 1, 2:
		if _, e := b.p.clone().place(pid, core, m); e == api.OK {
			last[pid] = m
		}
		b.place(pid, core, m)
	case 3, 4:
		if _, e := b.p.clone().move(pid, m); e == api.OK {
			last[pid] = m
		}
		b.move(pid, m)
	case 5:
		b.cut(pid)
	case 6, 7:
		b.rotate(core)
	default:
		b.pick(core, x.Uint32())
	}
}

func (p plain) clone() plain {
	twin := make(plain, len(p))
	for core, l := range p {
		twin[core] = slices.Clone(l)
	}
	return twin
}

func TestP13_5_AnyCalls(t *testing.T) {
	x := rand.New(rand.NewSource(13))
	for run := range 120 {
		b := newBoth(t, 1+run%api.MaxCores)
		last := map[int]uint32{}
		for i := range 250 {
			anyCall(b, x, last)
			if i%25 == 0 {
				b.looks()
			}
			inOneAtMost(b, last)
		}
	}
}

// inOneAtMost says that each pid is in one queue at most, of a core of the last mask by which it was placed or moved.
func inOneAtMost(b *both, last map[int]uint32) {
	b.t.Helper()
	seen := map[int]bool{}
	for core := range b.q.Cores() {
		for _, pid := range b.q.List(core) {
			if seen[pid] || b.q.Where(pid) != core || last[pid]>>core%2 != 1 {
				b.t.Fatalf("%d is in the queue of %d, last placed by %x", pid, core, last[pid])
			}
			seen[pid] = true
		}
	}
	if len(seen) != len(b.q.All()) {
		b.t.Fatalf("All: %v", b.q.All())
	}
}

func TestP13_5_RotateRound(t *testing.T) {
	for n := 2; n <= 40; n++ {
		b := newBoth(t, 3)
		for pid := 1; pid <= n; pid++ {
			b.place(pid*7%41, 1, 2)
			b.place(pid+100, 2, 4)
		}
		was := b.q.List(1)
		for i := range n {
			if i > 0 && slices.Equal(b.q.List(1), was) {
				t.Errorf("%d pids are as they were behind %d of them", n, i)
			}
			b.rotate(1)
		}
		if !slices.Equal(b.q.List(1), was) {
			t.Errorf("Rotate round of %d: %v, not %v", n, b.q.List(1), was)
		}
		b.looks()
	}
}

func TestP13_5_ErrorsChangeNothing(t *testing.T) {
	for _, lists := range sets() {
		b := with(t, lists...)
		for _, pid := range append([]int{math.MinInt, -1, 0, 99}, b.q.All()...) {
			if pid != 99 {
				b.q.Place(pid, 0, math.MaxUint32)
			}
			b.q.Place(pid, 0, 0)
			b.q.Place(pid, 0, 0xFFFFFF00)
			b.q.Move(pid, 0)
			b.q.Move(pid, 0xFFFFFF00)
			b.looks()
		}
		b.q.Move(99, math.MaxUint32)
		b.q.Cut(99)
		b.looks()
	}
}

func TestExamplesOfLayer13(t *testing.T) {
	q, e := queue.New(3)
	if e != api.OK {
		t.Fatal(e)
	}
	place := func(pid, core int, mask uint32, want int, wantE api.Errno) {
		t.Helper()
		if got, e := q.Place(pid, core, mask); got != want || e != wantE {
			t.Errorf("Place(%d, %d, %d): %d %v", pid, core, mask, got, e)
		}
	}
	place(5, 0, 7, 0, api.OK)
	place(6, 0, 6, 1, api.OK)
	place(7, 0, 6, 2, api.OK)
	place(5, 1, 7, 0, api.ErrQueue)
	place(8, 2, 7, 2, api.OK)
	if !q.Rotate(2) || !slices.Equal(q.List(2), []int{8, 7}) || q.Pick(2, 5) != 7 {
		t.Errorf("core 2: %v, Pick %d", q.List(2), q.Pick(2, 5))
	}
	if core, e := q.Move(7, 3); core != 0 || e != api.OK || !slices.Equal(q.List(0), []int{5, 7}) {
		t.Errorf("Move(7, 3): %d %v", core, e)
	}
}
