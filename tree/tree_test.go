package tree_test

import (
	"math"
	"math/rand"
	"slices"
	"sort"
	"testing"

	"carryall/api"
	"carryall/tree"
)

const (
	live   = api.ProcLive
	zombie = api.ProcZombie
	frozen = api.ProcFrozen
)

// one is a process, as it has to be.
type one struct {
	pid, parent, state int
	status             uint32
}

// plain is who is there, in the order in which they came, and which pids there ever were.
type plain struct {
	room int
	list []one
	ever []int
}

func newPlain(room int) *plain {
	return &plain{room, []one{{1, 0, live, 0}}, []int{1}}
}

// of is a process in the list; nothing, if it is not there.
func (p *plain) of(pid int) *one {
	for i := range p.list {
		if p.list[i].pid == pid {
			return &p.list[i]
		}
	}
	return nil
}

func (p *plain) state(pid int) int {
	if x := p.of(pid); x != nil {
		return x.state
	}
	return api.ProcNone
}

func (p *plain) all() []int {
	var l []int
	for _, x := range p.list {
		l = append(l, x.pid)
	}
	sort.Ints(l)
	return l
}

func (p *plain) children(pid int) []int {
	var l []int
	for _, x := range p.list {
		if x.parent == pid {
			l = append(l, x.pid)
		}
	}
	sort.Ints(l)
	return l
}

// tree goes down from child to child.
func (p *plain) tree(pid int) []int {
	if p.of(pid) == nil {
		return nil
	}
	l := []int{pid}
	for i := 0; i < len(l); i++ {
		l = append(l, p.children(l[i])...)
	}
	sort.Ints(l)
	return l
}

func (p *plain) free() int {
	return p.room - len(p.list)
}

func (p *plain) next() int {
	if n := slices.Max(p.ever) + 1; n <= 65535 {
		return n
	}
	return 0
}

func (p *plain) fork(parent int) (int, api.Errno) {
	if p.state(parent) != live {
		return 0, api.ErrArg
	}
	pid := p.next()
	if p.free() <= 0 || pid == 0 {
		return 0, api.ErrFull
	}
	p.list = append(p.list, one{pid, parent, live, 0})
	p.ever = append(p.ever, pid)
	return pid, api.OK
}

func (p *plain) exit(pid int, status uint32) ([]int, api.Errno) {
	if pid == 1 || p.state(pid) != live {
		return nil, api.ErrArg
	}
	l := p.children(pid)
	for _, child := range l {
		p.of(child).parent = 1
	}
	p.of(pid).state = zombie
	p.of(pid).status = status
	return l, api.OK
}

func (p *plain) zombie(parent int) (int, uint32, api.Errno) {
	if p.state(parent) != live {
		return 0, 0, api.ErrArg
	}
	l := p.children(parent)
	if len(l) == 0 {
		return 0, 0, api.ErrChild
	}
	for _, child := range l {
		if x := p.of(child); x.state == zombie {
			return child, x.status, api.OK
		}
	}
	return 0, 0, api.ErrBlock
}

func (p *plain) reap(parent int) (int, uint32, api.Errno) {
	pid, status, e := p.zombie(parent)
	if e == api.OK {
		p.list = slices.DeleteFunc(p.list, func(x one) bool { return x.pid == pid })
	}
	return pid, status, e
}

func (p *plain) freeze(pid int) ([]int, api.Errno) {
	if pid == 1 || p.state(pid) != live {
		return nil, api.ErrArg
	}
	l := p.tree(pid)
	for _, x := range l {
		p.of(x).state = frozen
		p.of(x).status = 0
	}
	return l, api.OK
}

func (p *plain) may(pid, parent int) api.Errno {
	if x := p.of(pid); x != nil {
		if x.state == frozen && (parent == 0 || parent == x.parent) {
			return api.OK
		}
		return api.ErrBusy
	}
	if pid <= 0 || pid > 65535 || slices.Contains(p.ever, pid) {
		return api.ErrBusy
	}
	if s := p.state(parent); s == api.ProcNone || s == zombie {
		return api.ErrBusy
	}
	if p.free() <= 0 {
		return api.ErrFull
	}
	return api.OK
}

func (p *plain) thaw(pid, parent, state int, status uint32) api.Errno {
	if state != live && state != zombie {
		return api.ErrArg
	}
	if state == live && status != 0 || state == zombie && len(p.children(pid)) > 0 {
		return api.ErrArg
	}
	if e := p.may(pid, parent); e != api.OK {
		return e
	}
	if x := p.of(pid); x != nil {
		x.state, x.status = state, status
		return api.OK
	}
	p.list = append(p.list, one{pid, parent, state, status})
	p.ever = append(p.ever, pid)
	return api.OK
}

// both are a table, and what it has to be.
type both struct {
	t *testing.T
	s *tree.Table
	p *plain
}

func newBoth(t *testing.T, room int) *both {
	t.Helper()
	s, e := tree.New(room)
	if e != api.OK || s == nil {
		t.Fatalf("New(%d): %v %v", room, s, e)
	}
	return &both{t, s, newPlain(room)}
}

func (b *both) fork(parent int) int {
	b.t.Helper()
	want, wantE := b.p.fork(parent)
	pid, e := b.s.Fork(parent)
	if pid != want || e != wantE {
		b.t.Fatalf("Fork(%d): %d %v, not %d %v", parent, pid, e, want, wantE)
	}
	return pid
}

func (b *both) exit(pid int, status uint32) {
	b.t.Helper()
	want, wantE := b.p.exit(pid, status)
	if l, e := b.s.Exit(pid, status); !slices.Equal(l, want) || e != wantE {
		b.t.Fatalf("Exit(%d, %d): %v %v, not %v %v", pid, status, l, e, want, wantE)
	}
}

func (b *both) zombie(parent int) {
	b.t.Helper()
	want, wantStatus, wantE := b.p.zombie(parent)
	if pid, status, e := b.s.Zombie(parent); pid != want || status != wantStatus || e != wantE {
		b.t.Fatalf("Zombie(%d): %d %d %v, not %d %d %v", parent, pid, status, e, want, wantStatus, wantE)
	}
}

func (b *both) reap(parent int) {
	b.t.Helper()
	want, wantStatus, wantE := b.p.reap(parent)
	if pid, status, e := b.s.Reap(parent); pid != want || status != wantStatus || e != wantE {
		b.t.Fatalf("Reap(%d): %d %d %v, not %d %d %v", parent, pid, status, e, want, wantStatus, wantE)
	}
}

func (b *both) freeze(pid int) {
	b.t.Helper()
	want, wantE := b.p.freeze(pid)
	if l, e := b.s.Freeze(pid); !slices.Equal(l, want) || e != wantE {
		b.t.Fatalf("Freeze(%d): %v %v, not %v %v", pid, l, e, want, wantE)
	}
}

func (b *both) may(pid, parent int) {
	b.t.Helper()
	if e, want := b.s.May(pid, parent), b.p.may(pid, parent); e != want {
		b.t.Fatalf("May(%d, %d): %v, not %v", pid, parent, e, want)
	}
}

func (b *both) thaw(pid, parent, state int, status uint32) {
	b.t.Helper()
	want := b.p.thaw(pid, parent, state, status)
	if e := b.s.Thaw(pid, parent, state, status); e != want {
		b.t.Fatalf("Thaw(%d, %d, %d, %d): %v, not %v", pid, parent, state, status, e, want)
	}
}

// same holds what the table tells of these pids against what it has to.
func (b *both) same(asked ...int) {
	b.t.Helper()
	for _, pid := range asked {
		want := one{}
		if x := b.p.of(pid); x != nil {
			want = *x
		}
		if got := (one{want.pid, b.s.Parent(pid), b.s.State(pid), b.s.Status(pid)}); got != want {
			b.t.Fatalf("Parent, State, Status of %d: %v, not %v", pid, got, want)
		}
		if l, want := b.s.Children(pid), b.p.children(pid); !slices.Equal(l, want) {
			b.t.Fatalf("Children(%d): %v, not %v", pid, l, want)
		}
		if l, want := b.s.Tree(pid), b.p.tree(pid); !slices.Equal(l, want) {
			b.t.Fatalf("Tree(%d): %v, not %v", pid, l, want)
		}
	}
	if l, want := b.s.All(), b.p.all(); !slices.Equal(l, want) {
		b.t.Fatalf("All: %v, not %v", l, want)
	}
	if n, want := b.s.Free(), b.p.free(); n != want {
		b.t.Fatalf("Free: %d, not %d", n, want)
	}
	if n, want := b.s.Next(), b.p.next(); n != want {
		b.t.Fatalf("Next: %d, not %d", n, want)
	}
}

// looks asks of all who are there, of pids beside them, and of far ones.
func (b *both) looks() {
	b.t.Helper()
	b.same(b.near()...)
	b.same(far...)
}

// near are the pids of who is there, those that ever were, and those beside them.
func (b *both) near() []int {
	l := b.p.all()
	for _, pid := range b.p.ever {
		l = append(l, pid-1, pid, pid+1)
	}
	sort.Ints(l)
	return slices.Compact(l)
}

// follows holds the table to what follows of all promises.
func (b *both) follows() {
	b.t.Helper()
	all := b.s.All()
	for _, pid := range all {
		steps := 0
		for at := pid; at != 1; at = b.s.Parent(at) {
			if steps++; steps > len(all) || !slices.Contains(all, b.s.Parent(at)) {
				b.t.Fatalf("from %d one does not come to 1: at %d, whose parent is %d", pid, at, b.s.Parent(at))
			}
		}
	}
	if b.s.Parent(1) != 0 || b.s.State(1) != live || b.s.Status(1) != 0 {
		b.t.Fatalf("process 1: %d %d %d", b.s.Parent(1), b.s.State(1), b.s.Status(1))
	}
}

// far are pids that may not be, and some that may, also where a narrower kind of number would take one for another.
var far = []int{math.MinInt, math.MinInt + 1, -1 << 32, 1 - 1<<32, 2 - 1<<32, -65536, -65535, -2, -1, 0, 255, 256, 257, 258, 32767, 32768, 65534, 65535, 65536, 65537, 65538, 1<<31 - 1, 1 << 31, 1 << 32, 1<<32 + 1, 1<<32 + 2, 1<<32 + 3, math.MaxInt - 1, math.MaxInt}

// statuses are some that wrap elsewhere.
var statuses = []uint32{0, 1, 7, 255, 256, 65535, 65536, 1 << 31, math.MaxUint32}

// shapes are tables of many kinds, by what makes them.
var shapes = []func(b *both){
	func(b *both) {},
	func(b *both) { b.fork(1) },
	func(b *both) { b.fork(1); b.exit(2, 9) },
	func(b *both) { b.fork(1); b.exit(2, 9); b.reap(1) },
	func(b *both) { b.fork(1); b.freeze(2) },
	func(b *both) { // a chain, of which the middle is frozen
		for n := range 5 {
			b.fork(n + 1)
		}
		b.freeze(4)
	},
	everything,
	func(b *both) { // as full as it may be
		for b.p.free() > 0 {
			b.fork(1 + len(b.p.list)/2)
		}
		b.exit(3, 3)
		b.freeze(4)
	},
	func(b *both) { // no pid is left, but for those that Thaw left out
		b.fork(1)
		b.thaw(65535, 2, live, 0)
		b.thaw(65530, 65535, zombie, 5)
		b.freeze(65535)
	},
	func(b *both) { // a live child of a frozen one, and one that was never there before
		b.fork(1)
		b.fork(2)
		b.fork(2)
		b.freeze(2)
		b.thaw(3, 2, live, 0)
		b.thaw(9, 2, live, 0)
		b.thaw(7, 9, zombie, 1)
		b.fork(9)
	},
}

// everything has a live one and a zombie, a frozen one with live and frozen children, one that is there no more, and pids that were never used.
func everything(b *both) {
	two := b.fork(1)
	three := b.fork(two)
	four := b.fork(1)
	five := b.fork(four)
	six := b.fork(five)
	seven := b.fork(1)
	b.fork(two)
	b.exit(three, 33)
	b.exit(six, 66)
	b.freeze(four)
	b.exit(seven, 77)
	b.reap(1)
	b.thaw(five, four, live, 0)
	b.thaw(20, 1, live, 0)
	b.fork(20)
	b.thaw(18, 20, zombie, 18)
	nine := b.fork(1)
	b.exit(nine, 99)
	b.exit(b.fork(1), 98)
}

// made is a table of a shape.
func made(t *testing.T, shape func(*both)) *both {
	t.Helper()
	b := newBoth(t, api.MaxProcs)
	shape(b)
	b.looks()
	return b
}

// pidsOf are the pids that calls are tried with.
func (b *both) pidsOf() []int {
	return append(b.near(), far...)
}

func TestP15_1_New(t *testing.T) {
	for _, room := range []int{math.MinInt, -1 << 32, 1 - 1<<32, -256, -32, -1, 0, 33, 34, 64, 256, 257, 65536, 65537, 1 << 32, 1<<32 + 1, 1<<32 + 32, math.MaxInt} {
		if s, e := tree.New(room); s != nil || e != api.ErrArg {
			t.Errorf("New(%d): %v %v", room, s, e)
		}
	}
	for room := 1; room <= 32; room++ {
		s, e := tree.New(room)
		if s == nil || e != api.OK {
			t.Fatalf("New(%d): %v %v", room, s, e)
		}
		if !slices.Equal(s.All(), []int{1}) || s.State(1) != live || s.Parent(1) != 0 || s.Status(1) != 0 || s.Free() != room-1 || s.Next() != 2 {
			t.Errorf("New(%d): %v, state %d, parent %d, free %d, next %d", room, s.All(), s.State(1), s.Parent(1), s.Free(), s.Next())
		}
		newBoth(t, room).looks()
	}
}

func TestP15_1_NewOnesApart(t *testing.T) {
	a, b := newBoth(t, 4), newBoth(t, 4)
	a.fork(1)
	a.fork(2)
	b.looks()
	b.fork(1)
	a.looks()
	b.looks()
}

func TestP15_1_Fork(t *testing.T) {
	for _, shape := range shapes {
		for _, parent := range made(t, shape).pidsOf() {
			b := made(t, shape)
			b.fork(parent)
			b.looks()
		}
	}
}

func TestP15_1_ForkOfEachState(t *testing.T) {
	b := newBoth(t, 8)
	b.fork(1)
	b.fork(1)
	b.fork(1)
	b.exit(3, 1)
	b.freeze(4)
	for _, x := range []struct {
		parent, pid int
		e           api.Errno
	}{{1, 5, api.OK}, {2, 6, api.OK}, {3, 0, api.ErrArg}, {4, 0, api.ErrArg}, {5, 7, api.OK}, {9, 0, api.ErrArg}, {0, 0, api.ErrArg}, {-1, 0, api.ErrArg}} {
		if pid, e := b.s.Fork(x.parent); pid != x.pid || e != x.e {
			t.Errorf("Fork(%d): %d %v, not %d %v", x.parent, pid, e, x.pid, x.e)
		}
		b.p.fork(x.parent)
		b.looks()
	}
}

func TestP15_1_ForkUpToTheRoom(t *testing.T) {
	for room := 1; room <= 32; room++ {
		b := newBoth(t, room)
		for n := 1; n < room; n++ {
			if pid, e := b.s.Fork(n); pid != n+1 || e != api.OK {
				t.Fatalf("room %d: Fork(%d): %d %v", room, n, pid, e)
			}
			b.p.fork(n)
		}
		for range 2 {
			if pid, e := b.s.Fork(room); pid != 0 || e != api.ErrFull {
				t.Fatalf("room %d: Fork of the last: %d %v", room, pid, e)
			}
			b.looks()
		}
	}
}

func TestP15_1_RoomIsTakenByAll(t *testing.T) {
	b := newBoth(t, 3)
	b.fork(1)
	b.fork(1)
	b.exit(2, 1)
	b.freeze(3)
	if pid, e := b.s.Fork(1); pid != 0 || e != api.ErrFull {
		t.Errorf("Fork beside a zombie and a frozen one: %d %v", pid, e)
	}
	b.reap(1)
	if pid, e := b.s.Fork(1); pid != 4 || e != api.OK {
		t.Errorf("Fork behind Reap: %d %v", pid, e)
	}
}

func TestP15_1_ForkWhichErrorFirst(t *testing.T) {
	full := newBoth(t, 3)
	full.fork(1)
	full.fork(1)
	full.exit(2, 1)
	full.freeze(3)
	last := newBoth(t, 32)
	last.thaw(65535, 1, live, 0)
	last.exit(65535, 1)
	for _, b := range []*both{full, last} {
		for _, parent := range []int{0, -1, 2, 3, 4, 65535, 65536, math.MaxInt, math.MinInt} {
			if pid, e := b.s.Fork(parent); pid != 0 || e != api.ErrArg {
				t.Errorf("Fork(%d): %d %v", parent, pid, e)
			}
		}
		if pid, e := b.s.Fork(1); pid != 0 || e != api.ErrFull {
			t.Errorf("Fork(1): %d %v", pid, e)
		}
		b.looks()
	}
}

func TestP15_1_ForkUpToMaxPid(t *testing.T) {
	s, _ := tree.New(2)
	for want := 2; want <= 65535; want++ {
		if n := s.Next(); n != want {
			t.Fatalf("Next: %d, not %d", n, want)
		}
		if pid, e := s.Fork(1); pid != want || e != api.OK {
			t.Fatalf("Fork: %d %v, not %d", pid, e, want)
		}
		if l, e := s.Exit(want, uint32(want)); len(l) != 0 || e != api.OK {
			t.Fatalf("Exit(%d): %v %v", want, l, e)
		}
		if pid, status, e := s.Reap(1); pid != want || status != uint32(want) || e != api.OK {
			t.Fatalf("Reap: %d %d %v, not %d", pid, status, e, want)
		}
	}
	if pid, e := s.Fork(1); pid != 0 || e != api.ErrFull || s.Next() != 0 || s.Free() != 1 {
		t.Errorf("Fork behind MaxPid: %d %v, next %d, free %d", pid, e, s.Next(), s.Free())
	}
	if e := s.May(65535, 1); e != api.ErrBusy {
		t.Errorf("May of a pid that was used: %v", e)
	}
}

func TestP15_1_Exit(t *testing.T) {
	for _, shape := range shapes {
		for i, pid := range made(t, shape).pidsOf() {
			b := made(t, shape)
			b.exit(pid, statuses[i%len(statuses)])
			b.looks()
			b.exit(pid, 5)
			b.looks()
			b.follows()
		}
	}
}

func TestP15_1_ExitOfEachState(t *testing.T) {
	for _, status := range statuses {
		b := newBoth(t, 8)
		for range 4 {
			b.fork(1)
		}
		b.freeze(4)
		for _, x := range []struct {
			pid int
			e   api.Errno
		}{{1, api.ErrArg}, {4, api.ErrArg}, {9, api.ErrArg}, {6, api.ErrArg}, {0, api.ErrArg}, {-2, api.ErrArg}, {3, api.OK}, {3, api.ErrArg}} {
			if l, e := b.s.Exit(x.pid, status); len(l) != 0 || e != x.e {
				t.Errorf("Exit(%d, %d): %v %v, not %v", x.pid, status, l, e, x.e)
			}
			b.p.exit(x.pid, status)
			b.looks()
		}
		if b.s.State(3) != zombie || b.s.Status(3) != status || b.s.Parent(3) != 1 {
			t.Errorf("behind Exit(3, %d): %d %d %d", status, b.s.State(3), b.s.Status(3), b.s.Parent(3))
		}
	}
}

// Who exits leaves its children to 1, in each state of theirs; these keep their own, and it keeps its parent.
func TestP15_1_ExitLeavesChildren(t *testing.T) {
	b := newBoth(t, 16)
	b.fork(1)
	b.fork(1)
	b.fork(3)
	b.fork(4) // 5
	b.fork(4)
	b.fork(4)
	b.fork(6) // 8
	b.fork(5)
	b.exit(5, 55)
	b.freeze(7)
	if l, e := b.s.Exit(4, 44); e != api.OK || !slices.Equal(l, []int{5, 6, 7}) {
		t.Fatalf("Exit(4): %v %v", l, e)
	}
	b.p.exit(4, 44)
	for pid, want := range map[int]one{2: {2, 1, live, 0}, 3: {3, 1, live, 0}, 4: {4, 3, zombie, 44}, 5: {5, 1, zombie, 55}, 6: {6, 1, live, 0}, 7: {7, 1, frozen, 0}, 8: {8, 6, live, 0}, 9: {9, 1, live, 0}} {
		if got := (one{pid, b.s.Parent(pid), b.s.State(pid), b.s.Status(pid)}); got != want {
			t.Errorf("%v, not %v", got, want)
		}
	}
	if l := b.s.Children(1); !slices.Equal(l, []int{2, 3, 5, 6, 7, 9}) {
		t.Errorf("Children(1): %v", l)
	}
	b.looks()
	b.follows()
}

func TestP15_1_ExitTellsRising(t *testing.T) {
	b := newBoth(t, 32)
	b.fork(1)
	for _, pid := range []int{500, 7, 65535, 100, 9, 400, 8} {
		b.thaw(pid, 2, live, 0)
	}
	if l, e := b.s.Exit(2, 1); e != api.OK || !slices.Equal(l, []int{7, 8, 9, 100, 400, 500, 65535}) {
		t.Errorf("Exit(2): %v %v", l, e)
	}
}

func TestP15_2_ZombieAndReap(t *testing.T) {
	for _, shape := range shapes {
		for _, parent := range made(t, shape).pidsOf() {
			b := made(t, shape)
			b.zombie(parent)
			b.looks()
			for range 3 {
				b.reap(parent)
				b.looks()
				b.zombie(parent)
			}
			b.follows()
		}
	}
}

func TestP15_2_OfEachParent(t *testing.T) {
	b := newBoth(t, 32)
	for range 6 {
		b.fork(1)
	}
	b.fork(2) // 8, of which nobody exits
	b.fork(2)
	b.fork(3) // 10, a zombie alone
	b.exit(10, 100)
	for range 4 { // 11 to 14, of which 12 and 14 do
		b.fork(4)
	}
	b.exit(14, 140)
	b.exit(12, 120)
	b.fork(5) // 15, frozen: a child, and no zombie
	b.freeze(15)
	b.exit(6, 60)
	b.freeze(7)
	for _, x := range []struct {
		parent, pid int
		status      uint32
		e           api.Errno
	}{
		{2, 0, 0, api.ErrBlock}, {3, 10, 100, api.OK}, {3, 0, 0, api.ErrChild}, {4, 12, 120, api.OK}, {4, 14, 140, api.OK}, {4, 0, 0, api.ErrBlock},
		{5, 0, 0, api.ErrBlock}, {6, 0, 0, api.ErrArg}, {7, 0, 0, api.ErrArg}, {8, 0, 0, api.ErrChild}, {1, 6, 60, api.OK}, {1, 0, 0, api.ErrBlock},
		{0, 0, 0, api.ErrArg}, {-1, 0, 0, api.ErrArg}, {10, 0, 0, api.ErrArg}, {99, 0, 0, api.ErrArg}, {1<<32 + 1, 0, 0, api.ErrArg},
	} {
		for range 2 {
			if pid, status, e := b.s.Zombie(x.parent); pid != x.pid || status != x.status || e != x.e {
				t.Errorf("Zombie(%d): %d %d %v, not %d %d %v", x.parent, pid, status, e, x.pid, x.status, x.e)
			}
			b.looks()
		}
		if pid, status, e := b.s.Reap(x.parent); pid != x.pid || status != x.status || e != x.e {
			t.Errorf("Reap(%d): %d %d %v, not %d %d %v", x.parent, pid, status, e, x.pid, x.status, x.e)
		}
		b.p.reap(x.parent)
		b.looks()
	}
}

func TestP15_2_OfNoChildren(t *testing.T) {
	b := newBoth(t, 4)
	b.zombie(1)
	if pid, status, e := b.s.Reap(1); pid != 0 || status != 0 || e != api.ErrChild {
		t.Errorf("Reap: %d %d %v", pid, status, e)
	}
	b.fork(1)
	if pid, status, e := b.s.Reap(1); pid != 0 || status != 0 || e != api.ErrBlock {
		t.Errorf("Reap: %d %d %v", pid, status, e)
	}
	b.looks()
}

func TestP15_2_EachStatus(t *testing.T) {
	b := newBoth(t, 32)
	for _, status := range statuses {
		b.exit(b.fork(1), status)
	}
	for i, want := range statuses {
		b.zombie(1)
		if pid, status, e := b.s.Reap(1); pid != i+2 || status != want || e != api.OK {
			t.Errorf("Reap: %d %d %v, not %d %d", pid, status, e, i+2, want)
		}
		b.p.reap(1)
		b.looks()
	}
}

// The least one is the least pid, not the first that was there, nor the first that exited.
func TestP15_2_TheLeast(t *testing.T) {
	for _, order := range [][]int{{3, 60, 500, 65535}, {65535, 500, 60, 3}, {60, 65535, 3, 500}} {
		for _, ends := range [][]int{{3, 60, 500, 65535}, {65535, 500, 60, 3}, {500, 3, 65535, 60}} {
			b := newBoth(t, 8)
			for _, pid := range order {
				b.thaw(pid, 1, live, 0)
			}
			for _, pid := range ends {
				b.exit(pid, uint32(pid)+1)
			}
			for _, want := range []int{3, 60, 500, 65535} {
				if pid, status, e := b.s.Reap(1); pid != want || status != uint32(want)+1 || e != api.OK {
					t.Errorf("made as %v, exits as %v: Reap: %d %d %v, not %d", order, ends, pid, status, e, want)
				}
			}
		}
	}
}

func TestP15_3_Freeze(t *testing.T) {
	for _, shape := range shapes {
		for _, pid := range made(t, shape).pidsOf() {
			b := made(t, shape)
			b.freeze(pid)
			b.looks()
			b.freeze(pid)
			b.looks()
			b.follows()
		}
	}
}

func TestP15_3_FreezeOfEachState(t *testing.T) {
	b := newBoth(t, 8)
	for range 4 {
		b.fork(1)
	}
	b.exit(3, 3)
	for _, x := range []struct {
		pid int
		l   []int
		e   api.Errno
	}{{1, nil, api.ErrArg}, {2, []int{2}, api.OK}, {2, nil, api.ErrArg}, {3, nil, api.ErrArg}, {6, nil, api.ErrArg}, {0, nil, api.ErrArg}, {-2, nil, api.ErrArg}, {1<<32 + 4, nil, api.ErrArg}, {math.MinInt, nil, api.ErrArg}, {4, []int{4}, api.OK}} {
		if l, e := b.s.Freeze(x.pid); !slices.Equal(l, x.l) || e != x.e {
			t.Errorf("Freeze(%d): %v %v, not %v %v", x.pid, l, e, x.l, x.e)
		}
		b.p.freeze(x.pid)
		b.looks()
	}
}

func TestP15_3_FreezeOfATree(t *testing.T) {
	b := newBoth(t, 32)
	b.fork(1)  // 2, whose tree is frozen
	b.fork(1)  // 3, which is nobody's of it
	b.fork(2)  // 4
	b.fork(3)  // 5
	b.fork(4)  // 6
	b.fork(6)  // 7
	b.fork(2)  // 8
	b.fork(7)  // 9
	b.fork(4)  // 10
	b.fork(10) // 11
	b.exit(9, 90)
	b.exit(8, 80)
	b.exit(5, 50)
	b.freeze(10)
	b.thaw(11, 10, live, 0)
	b.thaw(40, 9, live, 0) // whose parent is a zombie: not done
	b.thaw(40, 11, live, 0)
	b.thaw(30, 40, zombie, 300)
	if l, e := b.s.Freeze(2); e != api.OK || !slices.Equal(l, []int{2, 4, 6, 7, 8, 9, 10, 11, 30, 40}) {
		t.Fatalf("Freeze(2): %v %v", l, e)
	}
	b.p.freeze(2)
	for pid, want := range map[int]one{1: {1, 0, live, 0}, 2: {2, 1, frozen, 0}, 3: {3, 1, live, 0}, 5: {5, 3, zombie, 50}, 8: {8, 2, frozen, 0}, 9: {9, 7, frozen, 0}, 30: {30, 40, frozen, 0}, 40: {40, 11, frozen, 0}} {
		if got := (one{pid, b.s.Parent(pid), b.s.State(pid), b.s.Status(pid)}); got != want {
			t.Errorf("%v, not %v", got, want)
		}
	}
	b.looks()
	b.zombie(2)
	b.reap(3)
	b.looks()
}

func TestP15_3_FreezeOfAChain(t *testing.T) {
	for from := 2; from <= 32; from++ {
		b := newBoth(t, 32)
		for n := 1; n < 32; n++ {
			b.fork(n)
		}
		l, e := b.s.Freeze(from)
		if e != api.OK || len(l) != 33-from || l[0] != from || l[len(l)-1] != 32 {
			t.Errorf("Freeze(%d) of a chain: %v %v", from, l, e)
		}
		b.p.freeze(from)
		b.looks()
	}
}

// all are tried with each pid and each parent.
func TestP15_3_May(t *testing.T) {
	for _, shape := range shapes {
		b := made(t, shape)
		for _, pid := range b.pidsOf() {
			for _, parent := range b.pidsOf() {
				b.may(pid, parent)
			}
		}
		b.looks()
	}
}

func TestP15_3_MayOfEachCase(t *testing.T) {
	b := newBoth(t, 32)
	for range 6 {
		b.fork(1)
	}
	b.fork(2)     // 8
	b.exit(8, 80) // a zombie of a live one
	b.fork(3)     // 9
	b.freeze(3)
	b.exit(4, 40)
	b.exit(5, 50)
	b.reap(1) // 4 is there no more
	b.thaw(20, 1, live, 0)
	for _, x := range []struct {
		pid, parent int
		want        api.Errno
	}{
		// A frozen one, by its parent, by none, by others.
		{3, 1, api.OK}, {3, 0, api.OK}, {3, 2, api.ErrBusy}, {3, 3, api.ErrBusy}, {3, 9, api.ErrBusy}, {3, -1, api.ErrBusy}, {3, 99, api.ErrBusy}, {3, 1<<32 + 1, api.ErrBusy}, {3, 1 << 32, api.ErrBusy},
		{9, 3, api.OK}, {9, 0, api.OK}, {9, 1, api.ErrBusy}, {9, 2, api.ErrBusy},
		// Those that are live, zombies, or there no more.
		{1, 0, api.ErrBusy}, {1, 1, api.ErrBusy}, {2, 1, api.ErrBusy}, {2, 0, api.ErrBusy}, {5, 1, api.ErrBusy}, {5, 0, api.ErrBusy}, {8, 2, api.ErrBusy}, {8, 0, api.ErrBusy}, {4, 1, api.ErrBusy}, {4, 0, api.ErrBusy},
		// Those that never were, by each parent.
		{21, 1, api.OK}, {21, 2, api.OK}, {21, 3, api.OK}, {21, 9, api.OK}, {21, 20, api.OK}, {21, 5, api.ErrBusy}, {21, 8, api.ErrBusy}, {21, 4, api.ErrBusy}, {21, 0, api.ErrBusy}, {21, -1, api.ErrBusy}, {21, 21, api.ErrBusy}, {21, 22, api.ErrBusy},
		{22, 1, api.OK}, {300, 2, api.OK}, {65534, 1, api.OK}, {65535, 1, api.OK}, {65535, 3, api.OK}, {65535, 0, api.ErrBusy}, {65536, 1, api.ErrBusy}, {65537, 1, api.ErrBusy}, {1 << 32, 1, api.ErrBusy}, {1<<32 + 21, 1, api.ErrBusy}, {math.MaxInt, 1, api.ErrBusy},
		// Those between who is there, which never were.
		{10, 1, api.OK}, {19, 9, api.OK}, {10, 0, api.ErrBusy}, {19, 5, api.ErrBusy},
		// What is no pid.
		{0, 1, api.ErrBusy}, {0, 0, api.ErrBusy}, {-1, 1, api.ErrBusy}, {-21, 1, api.ErrBusy}, {math.MinInt, 1, api.ErrBusy}, {math.MinInt, 0, api.ErrBusy},
	} {
		if e := b.s.May(x.pid, x.parent); e != x.want {
			t.Errorf("May(%d, %d): %v, not %v", x.pid, x.parent, e, x.want)
		}
		b.may(x.pid, x.parent)
	}
	b.looks()
}

func TestP15_3_MayWithoutRoom(t *testing.T) {
	b := newBoth(t, 5)
	for range 4 {
		b.fork(1)
	}
	b.exit(2, 2)
	b.freeze(3)
	for _, x := range []struct {
		pid, parent int
		want        api.Errno
	}{
		{6, 1, api.ErrFull}, {65535, 4, api.ErrFull}, {6, 3, api.ErrFull}, {6, 2, api.ErrBusy}, {6, 0, api.ErrBusy}, {6, 7, api.ErrBusy}, {65536, 1, api.ErrBusy}, {0, 1, api.ErrBusy}, {-1, 1, api.ErrBusy},
		{2, 1, api.ErrBusy}, {4, 1, api.ErrBusy}, {3, 1, api.OK}, {3, 0, api.OK}, {3, 4, api.ErrBusy},
	} {
		if e := b.s.May(x.pid, x.parent); e != x.want {
			t.Errorf("May(%d, %d): %v, not %v", x.pid, x.parent, e, x.want)
		}
		if e := b.s.Thaw(x.pid, x.parent, live, 0); e != x.want {
			t.Errorf("Thaw(%d, %d): %v, not %v", x.pid, x.parent, e, x.want)
		}
		b.p.thaw(x.pid, x.parent, live, 0)
		b.looks()
		if x.want == api.OK {
			b.freeze(x.pid)
		}
	}
}

func TestP15_3_Thaw(t *testing.T) {
	states := []int{live, zombie, api.ProcNone, frozen, 4}
	for _, shape := range shapes {
		b := made(t, shape)
		for _, pid := range b.near() {
			for _, parent := range append(b.p.all(), 0, -1, 999) {
				for _, state := range states {
					for _, status := range []uint32{0, 1 << 31} {
						twin := newBoth(t, api.MaxProcs)
						shape(twin)
						twin.thaw(pid, parent, state, status)
						twin.same(pid, parent, 1)
					}
				}
			}
		}
		for _, pid := range far {
			for _, parent := range []int{1, 2, 0, pid} {
				for _, state := range states[:2] {
					twin := newBoth(t, api.MaxProcs)
					shape(twin)
					twin.thaw(pid, parent, state, 0)
					twin.looks()
					twin.follows()
				}
			}
		}
	}
}

func TestP15_3_ThawToNoState(t *testing.T) {
	b := newBoth(t, 8)
	b.fork(1)
	b.freeze(2)
	for _, state := range far {
		for _, pid := range []int{2, 3} {
			for _, status := range []uint32{0, 7} {
				if e := b.s.Thaw(pid, 1, state, status); e != api.ErrArg {
					t.Errorf("Thaw(%d, 1, %d, %d): %v", pid, state, status, e)
				}
			}
		}
	}
	b.looks()
}

func TestP15_3_ThawWhichErrorFirst(t *testing.T) {
	b := newBoth(t, 6)
	b.fork(1)
	b.fork(2)
	b.fork(1)
	b.fork(4)
	b.fork(4)
	b.exit(6, 60)
	b.freeze(4)
	for _, x := range []struct {
		pid, parent, state int
		status             uint32
		want               api.Errno
	}{
		// What it shall be comes ahead of what May answers.
		{2, 1, api.ProcNone, 0, api.ErrArg}, {2, 1, frozen, 0, api.ErrArg}, {2, 1, 4, 0, api.ErrArg}, {2, 1, -1, 0, api.ErrArg}, {2, 1, live, 1, api.ErrArg}, {2, 1, zombie, 0, api.ErrArg}, {2, 1, live, 0, api.ErrBusy},
		{1, 0, zombie, 5, api.ErrArg}, {1, 0, live, 0, api.ErrBusy}, {3, 2, zombie, 5, api.ErrBusy}, {3, 2, live, 5, api.ErrArg},
		{9, 1, live, math.MaxUint32, api.ErrArg}, {9, 1, 5, 0, api.ErrArg}, {9, 1, live, 0, api.ErrFull}, {9, 1, zombie, 7, api.ErrFull}, {9, 9, zombie, 7, api.ErrBusy},
		{-1, 1, live, 1, api.ErrArg}, {-1, 1, frozen, 0, api.ErrArg}, {-1, 1, zombie, 1, api.ErrBusy}, {0, 1, live, 0, api.ErrBusy}, {65536, 1, 0, 0, api.ErrArg}, {65536, 1, live, 0, api.ErrBusy},
		{4, 1, frozen, 0, api.ErrArg}, {4, 1, live, 2, api.ErrArg}, {4, 1, zombie, 2, api.ErrArg}, {4, 0, zombie, 0, api.ErrArg}, {4, 2, zombie, 2, api.ErrArg}, {4, 2, live, 0, api.ErrBusy},
	} {
		if e := b.s.Thaw(x.pid, x.parent, x.state, x.status); e != x.want {
			t.Errorf("Thaw(%d, %d, %d, %d): %v, not %v", x.pid, x.parent, x.state, x.status, e, x.want)
		}
		b.thaw(x.pid, x.parent, x.state, x.status)
		b.looks()
	}
}

func TestP15_3_ThawOfFrozenOnes(t *testing.T) {
	for _, up := range []int{0, 1} { // by 0, or by their parents
		for _, status := range statuses {
			b := newBoth(t, 8)
			b.fork(1)
			b.fork(2)
			b.fork(2)
			b.fork(3)
			b.freeze(2)
			for _, x := range []one{{5, 3 * up, zombie, status}, {2, 1 * up, live, 0}, {4, 2 * up, zombie, status + 1}, {3, 2 * up, live, 0}} {
				if e := b.s.Thaw(x.pid, x.parent, x.state, x.status); e != api.OK {
					t.Errorf("Thaw(%v): %v", x, e)
				}
				b.p.thaw(x.pid, x.parent, x.state, x.status)
				b.looks()
			}
			for pid, want := range map[int]one{2: {2, 1, live, 0}, 3: {3, 2, live, 0}, 4: {4, 2, zombie, status + 1}, 5: {5, 3, zombie, status}} {
				if got := (one{pid, b.s.Parent(pid), b.s.State(pid), b.s.Status(pid)}); got != want {
					t.Errorf("%v, not %v", got, want)
				}
			}
			if b.s.Next() != 6 {
				t.Errorf("Next: %d", b.s.Next())
			}
		}
	}
}

// A frozen one whose children are all gone may be a zombie; one that has any, in whatever state, may not.
func TestP15_3_AZombieHasNoChildren(t *testing.T) {
	b := newBoth(t, 8)
	b.fork(1)
	b.fork(2)
	b.exit(3, 3)
	b.freeze(2)
	for _, state := range []int{frozen, zombie, live} {
		if state != frozen {
			b.thaw(3, 2, state, 0)
		}
		if e := b.s.Thaw(2, 1, zombie, 8); e != api.ErrArg {
			t.Errorf("Thaw of one with a child of state %d: %v", state, e)
		}
		b.looks()
		if state == zombie {
			b.thaw(2, 1, live, 0)
			b.freeze(2)
		}
	}
	b.thaw(2, 1, live, 0)
	b.exit(3, 9)
	b.reap(2)
	b.freeze(2)
	if e := b.s.Thaw(2, 1, zombie, 8); e != api.OK || b.s.State(2) != zombie || b.s.Status(2) != 8 {
		t.Errorf("Thaw of one without: %v", e)
	}
}

func TestP15_3_NextIsAbove(t *testing.T) {
	b := newBoth(t, 32)
	for _, x := range []struct{ pid, next int }{{2, 3}, {5, 6}, {3, 6}, {6, 7}, {300, 301}, {299, 301}, {4, 301}, {65534, 65535}, {65535, 0}, {65533, 0}} {
		if e := b.s.Thaw(x.pid, 1, live, 0); e != api.OK {
			t.Errorf("Thaw(%d): %v", x.pid, e)
		}
		b.p.thaw(x.pid, 1, live, 0)
		if n := b.s.Next(); n != x.next {
			t.Errorf("Next behind Thaw(%d): %d, not %d", x.pid, n, x.next)
		}
		if e := b.s.May(x.pid, 1); e != api.ErrBusy {
			t.Errorf("May(%d) behind its Thaw: %v", x.pid, e)
		}
		b.looks()
	}
	b.fork(1)
	// A zombie that is thawed counts as well.
	b = newBoth(t, 32)
	b.thaw(77, 1, zombie, 7)
	b.reap(1)
	if pid, e := b.s.Fork(1); pid != 78 || e != api.OK {
		t.Errorf("Fork behind a Thaw of 77: %d %v", pid, e)
	}
	// Those that Thaw refuses do not.
	b = newBoth(t, 32)
	b.thaw(77, 5, live, 0)
	b.thaw(78, 1, live, 4)
	if n := b.s.Next(); n != 2 {
		t.Errorf("Next behind refused ones: %d", n)
	}
}

// Each pid that was used, and is there no more, is used for good; those left out are not.
func TestP15_3_UsedOnes(t *testing.T) {
	b := newBoth(t, 32)
	for _, pid := range []int{9, 4, 6, 63, 64, 65, 127, 128, 129, 1000} {
		b.thaw(pid, 1, zombie, 1)
	}
	for range 5 {
		b.reap(1)
	}
	for pid := -3; pid < 1100; pid++ {
		b.may(pid, 1)
		b.may(pid, 0)
	}
	for pid := 65000; pid < 65600; pid++ {
		b.may(pid, 1)
	}
}

func TestP15_4_Looks(t *testing.T) {
	b := newBoth(t, 32)
	everything(b)
	for _, want := range []one{{1, 0, live, 0}, {2, 1, live, 0}, {3, 2, zombie, 33}, {4, 1, frozen, 0}, {5, 4, live, 0}, {6, 5, frozen, 0}, {8, 2, live, 0}, {18, 20, zombie, 18}, {20, 1, live, 0}, {21, 20, live, 0}, {22, 1, zombie, 99}, {23, 1, zombie, 98}} {
		if got := (one{want.pid, b.s.Parent(want.pid), b.s.State(want.pid), b.s.Status(want.pid)}); got != want {
			t.Errorf("%v, not %v", got, want)
		}
	}
	for pid, want := range map[int][]int{1: {2, 4, 20, 22, 23}, 2: {3, 8}, 3: nil, 4: {5}, 5: {6}, 6: nil, 7: nil, 9: nil, 18: nil, 20: {18, 21}, 24: nil, -1: nil, 1<<32 + 1: nil} {
		if l := b.s.Children(pid); !slices.Equal(l, want) {
			t.Errorf("Children(%d): %v, not %v", pid, l, want)
		}
	}
	for pid, want := range map[int][]int{1: b.s.All(), 2: {2, 3, 8}, 3: {3}, 4: {4, 5, 6}, 5: {5, 6}, 6: {6}, 7: nil, 9: nil, 18: {18}, 20: {18, 20, 21}, 22: {22}, 24: nil, 0: nil, -1: nil, 1<<32 + 1: nil} {
		if l := b.s.Tree(pid); !slices.Equal(l, want) {
			t.Errorf("Tree(%d): %v, not %v", pid, l, want)
		}
	}
	if l := b.s.All(); !slices.Equal(l, []int{1, 2, 3, 4, 5, 6, 8, 18, 20, 21, 22, 23}) || b.s.Free() != 20 || b.s.Next() != 24 {
		t.Errorf("All: %v, Free: %d, Next: %d", l, b.s.Free(), b.s.Next())
	}
}

func TestP15_4_OfOneThatIsNotThere(t *testing.T) {
	b := newBoth(t, 32)
	everything(b)
	for _, pid := range append([]int{7, 9, 17, 19, 24}, far...) {
		if b.s.State(pid) != api.ProcNone || b.s.Status(pid) != 0 || b.s.Parent(pid) != 0 || len(b.s.Tree(pid)) != 0 {
			t.Errorf("of %d: %d %d %d %v", pid, b.s.State(pid), b.s.Status(pid), b.s.Parent(pid), b.s.Tree(pid))
		}
	}
}

// 0 is the parent of process 1, though nobody is there: its children are those whose parent it is.
func TestP15_4_ChildrenOfNone(t *testing.T) {
	b := newBoth(t, 32)
	everything(b)
	if l := b.s.Children(0); !slices.Equal(l, []int{1}) {
		t.Errorf("Children(0): %v", l)
	}
}

func TestP15_1_OnNone(t *testing.T) {
	for _, s := range []*tree.Table{nil, {}, new(tree.Table)} {
		for _, pid := range []int{math.MinInt, -1, 0, 1, 2, 32, 65535, 65536, math.MaxInt} {
			fork, e1 := s.Fork(pid)
			exit, e2 := s.Exit(pid, 3)
			reap, reapStatus, e3 := s.Reap(pid)
			least, leastStatus, e4 := s.Zombie(pid)
			freeze, e5 := s.Freeze(pid)
			for _, e := range []api.Errno{e1, e2, e3, e4, e5, s.May(pid, 0), s.May(pid, 1), s.Thaw(pid, 0, live, 0), s.Thaw(pid, 1, live, 0), s.Thaw(pid, 1, zombie, 9), s.Thaw(pid, 1, live, 9), s.Thaw(pid, 1, frozen, 0), s.Thaw(pid, 1, -1, 0)} {
				if e != api.ErrNil {
					t.Errorf("on none, of %d: %v", pid, e)
				}
			}
			if fork != 0 || len(exit) != 0 || reap != 0 || reapStatus != 0 || least != 0 || leastStatus != 0 || len(freeze) != 0 {
				t.Errorf("on none, of %d: %d %v %d %d %d %d %v", pid, fork, exit, reap, reapStatus, least, leastStatus, freeze)
			}
			if s.State(pid) != 0 || s.Status(pid) != 0 || s.Parent(pid) != 0 || len(s.Children(pid)) != 0 || len(s.Tree(pid)) != 0 {
				t.Errorf("on none, of %d: it has something", pid)
			}
		}
		if len(s.All()) != 0 || s.Free() != 0 || s.Next() != 0 {
			t.Errorf("on none: %v %d %d", s.All(), s.Free(), s.Next())
		}
	}
}

// spoil writes over all that a list has room for.
func spoil(l []int) {
	l = append(l, 77)
	l = l[:cap(l)]
	for i := range l {
		l[i] = -7
	}
}

func TestP15_5_AnswersMayBeWrittenOver(t *testing.T) {
	for _, shape := range shapes {
		b := made(t, shape)
		for _, pid := range b.near() {
			spoil(b.s.Children(pid))
			spoil(b.s.Tree(pid))
			spoil(b.s.All())
			b.looks()
		}
		for _, pid := range b.near() {
			twin := made(t, shape)
			l, _ := twin.s.Freeze(pid)
			spoil(l)
			twin.p.freeze(pid)
			twin.looks()
			twin = made(t, shape)
			l, _ = twin.s.Exit(pid, 4)
			spoil(l)
			twin.p.exit(pid, 4)
			twin.looks()
		}
	}
}

func TestP15_5_AnswersStay(t *testing.T) {
	b := newBoth(t, 32)
	for range 5 {
		b.fork(1)
		b.fork(2)
	}
	var kept, copies [][]int
	keep := func(l []int) {
		kept = append(kept, l)
		copies = append(copies, slices.Clone(l))
	}
	for _, pid := range []int{1, 2, 3} {
		keep(b.s.Children(pid))
		keep(b.s.Tree(pid))
		keep(b.s.All())
	}
	l, _ := b.s.Exit(2, 1)
	b.p.exit(2, 1)
	keep(l)
	b.fork(4)
	b.fork(4)
	l, _ = b.s.Freeze(4)
	b.p.freeze(4)
	keep(l)
	for _, l := range kept {
		if len(l) == 0 && cap(l) > 0 {
			t.Errorf("an empty list with room: %d", cap(l))
		}
	}
	b.thaw(4, 1, live, 0)
	b.thaw(600, 4, live, 0)
	b.exit(4, 3)
	b.reap(1)
	b.freeze(3)
	for range 9 {
		b.fork(1)
	}
	for i := range kept {
		if !slices.Equal(kept[i], copies[i]) {
			t.Errorf("%v was %v", kept[i], copies[i])
		}
	}
	b.looks()
}

// No two lists of a table's answers share memory.
func TestP15_5_AnswersApart(t *testing.T) {
	b := newBoth(t, 32)
	everything(b)
	for _, ask := range []func() []int{b.s.All, func() []int { return b.s.Children(1) }, func() []int { return b.s.Tree(1) }, func() []int { return b.s.Tree(2) }} {
		first := ask()
		want := slices.Clone(first)
		spoil(ask())
		if !slices.Equal(first, want) || !slices.Equal(ask(), want) {
			t.Errorf("%v was %v", first, want)
		}
	}
}

func TestP15_6_NoPidTwice(t *testing.T) {
	x := rand.New(rand.NewSource(156))
	for range 20 {
		b := newBoth(t, 1+x.Intn(32))
		given := map[int]bool{1: true}
		for range 300 {
			switch x.Intn(8) {
			case 0, 1, 2:
				pid, e := b.s.Fork(b.anyone(x))
				if e == api.OK && given[pid] {
					t.Fatalf("%d is given twice", pid)
				}
				given[pid] = true
			case 3, 4:
				b.s.Exit(b.anyone(x), 1)
			case 5, 6:
				b.s.Reap(b.anyone(x))
			default:
				pid := b.anyone(x) + x.Intn(5)
				if b.s.Thaw(pid, 1, live, 0) == api.OK {
					given[pid] = true
				}
			}
		}
	}
}

// kept is what one has of a process that is frozen.
func (b *both) kept(pids []int) []one {
	var l []one
	for _, pid := range pids {
		l = append(l, one{pid, b.s.Parent(pid), b.s.State(pid), b.s.Status(pid)})
	}
	return l
}

// Who is thawed as it was, by its parent or by 0, and in any order, is as it was.
func TestP15_6_ThawedAsItWas(t *testing.T) {
	x := rand.New(rand.NewSource(15))
	for _, shape := range shapes {
		for _, pid := range made(t, shape).p.all() {
			b := made(t, shape)
			was := b.kept(b.s.Tree(pid))
			all, next, free := b.kept(b.s.All()), b.s.Next(), b.s.Free()
			l, e := b.s.Freeze(pid)
			if e != api.OK {
				continue
			}
			if len(l) != len(was) {
				t.Fatalf("Freeze(%d): %v", pid, l)
			}
			x.Shuffle(len(was), func(i, j int) { was[i], was[j] = was[j], was[i] })
			still := map[int]bool{}
			for _, p := range was {
				if p.state == frozen {
					still[p.pid] = true
					continue
				}
				if e := b.s.Thaw(p.pid, p.parent*x.Intn(2), p.state, p.status); e != api.OK {
					t.Fatalf("Thaw(%v): %v", p, e)
				}
			}
			if got := b.kept(b.s.All()); !slices.Equal(got, all) || b.s.Next() != next || b.s.Free() != free {
				t.Errorf("of %d: %v, not %v", pid, got, all)
			}
		}
	}
}

func TestP15_6_ErrorsChangeNothing(t *testing.T) {
	for _, shape := range shapes {
		b := made(t, shape)
		for _, pid := range b.pidsOf() {
			if b.p.state(pid) != live || b.p.free() == 0 || b.p.next() == 0 {
				b.fork(pid)
			}
			if b.p.state(pid) != live || pid == 1 {
				b.exit(pid, 3)
				b.freeze(pid)
			}
			if _, _, e := b.p.zombie(pid); e != api.OK {
				b.reap(pid)
			}
			for _, state := range []int{live, zombie, frozen} {
				if b.p.may(pid, 1) != api.OK {
					b.thaw(pid, 1, state, 0)
				}
				if b.p.may(pid, 0) != api.OK {
					b.thaw(pid, 0, state, 1)
				}
			}
			b.thaw(pid, 1, live, 1)
			b.same(pid, 1)
		}
		b.looks()
	}
}

// anyone is the pid of one that is there, mostly.
func (b *both) anyone(x *rand.Rand) int {
	switch all := b.s.All(); x.Intn(12) {
	case 0:
		return far[x.Intn(len(far))]
	case 1:
		return x.Intn(40) - 2
	default:
		return all[x.Intn(len(all))]
	}
}

// anyThaw is a thaw of one that is there, mostly as it may be.
func (b *both) anyThaw(x *rand.Rand) {
	b.t.Helper()
	pid, parent, state, status := b.anyone(x), 0, live, uint32(0)
	switch x.Intn(4) {
	case 0:
		pid = b.p.next() + x.Intn(4)
		parent = b.anyone(x)
	case 1:
		pid = slices.Max(b.p.ever) - x.Intn(9)
		parent = b.anyone(x)
	case 2:
		parent = b.s.Parent(pid)
	}
	switch x.Intn(5) {
	case 0:
		state = x.Intn(5)
		status = uint32(x.Intn(2))
	case 1:
		state, status = zombie, x.Uint32()
	}
	b.may(pid, parent)
	b.thaw(pid, parent, state, status)
}

func TestP15_6_AnyCalls(t *testing.T) {
	x := rand.New(rand.NewSource(1506))
	for range 60 {
		b := newBoth(t, 1+x.Intn(32))
		for range 200 {
			switch x.Intn(12) {
			case 0, 1, 2, 3:
				b.fork(b.anyone(x))
			case 4, 5:
				b.exit(b.anyone(x), x.Uint32())
			case 6:
				b.zombie(b.anyone(x))
			case 7:
				b.reap(b.anyone(x))
			case 8:
				if x.Intn(3) == 0 {
					b.freeze(b.anyone(x))
				}
			default:
				b.anyThaw(x)
			}
			b.same(b.anyone(x))
		}
		b.looks()
		b.follows()
	}
}

func TestExamplesOfLayer15(t *testing.T) {
	s, _ := tree.New(4)
	for _, x := range []struct {
		parent, pid int
		e           api.Errno
	}{{1, 2, api.OK}, {2, 3, api.OK}, {1, 4, api.OK}, {3, 0, api.ErrFull}} {
		if pid, e := s.Fork(x.parent); pid != x.pid || e != x.e {
			t.Errorf("Fork(%d): %d %v, not %d %v", x.parent, pid, e, x.pid, x.e)
		}
	}
	if l, e := s.Exit(2, 7); !slices.Equal(l, []int{3}) || e != api.OK {
		t.Errorf("Exit(2, 7): %v %v", l, e)
	}
	if p := s.Parent(3); p != 1 {
		t.Errorf("Parent(3): %d", p)
	}
	if pid, status, e := s.Zombie(1); pid != 2 || status != 7 || e != api.OK {
		t.Errorf("Zombie(1): %d %d %v", pid, status, e)
	}
	if pid, status, e := s.Reap(1); pid != 2 || status != 7 || e != api.OK {
		t.Errorf("Reap(1): %d %d %v", pid, status, e)
	}
	if pid, e := s.Fork(1); pid != 5 || e != api.OK {
		t.Errorf("Fork(1): %d %v", pid, e)
	}
	if _, _, e := s.Reap(1); e != api.ErrBlock {
		t.Errorf("Reap(1): %v", e)
	}
	if _, _, e := s.Reap(4); e != api.ErrChild {
		t.Errorf("Reap(4): %v", e)
	}
	if l, e := s.Freeze(3); !slices.Equal(l, []int{3}) || e != api.OK {
		t.Errorf("Freeze(3): %v %v", l, e)
	}
	if e := s.Thaw(3, 1, live, 0); e != api.OK {
		t.Errorf("Thaw(3, 1, live, 0): %v", e)
	}
}
