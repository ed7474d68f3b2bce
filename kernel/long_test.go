package kernel_test

import (
	"fmt"
	"math/rand"
	"reflect"
	"slices"
	"strings"
	"testing"

	"carryall/api"
)

const (
	blocks = 30
	own    = 1024 // an address in a page that each has for itself
	common = 1152 // one in a page that is Shared
)

func one[T any](r *rand.Rand, l ...T) T { return l[r.Intn(len(l))] }

// block are lines that make some call, or do something else; @k stands for where the block k is.
func block(r *rand.Rand) string {
	to := func() string { return fmt.Sprintf("b%d/", r.Intn(blocks)) }
	at := func() uint32 {
		return one[uint32](r, own, own+4, own+1, own+60, common, common+4, common+62, 1216, 1280, 2048, 4092, 4095, 1<<32-2)
	}
	word := func() uint32 { return one[uint32](r, own, own+4, common, common+4, common+4, 1216, own+2) }
	fd := func() uint32 { return one[uint32](r, 0, 1, 2, 3, 0, 1, 4, 5, 7, 8, 1<<32-1) }
	many := func() uint32 { return one[uint32](r, 0, 1, 2, 3, 5, 9, 64, 4096, 4097) }
	pid := func() uint32 { return one[uint32](r, 1, 2, 3, 4, 5, 6, 7, 0, 99) }
	page := func() uint32 { return one[uint32](r, 19, 20, 21, 63, 18, 64) }
	switch r.Intn(30) {
	case 0, 1:
		return fork("solo")
	case 2:
		return one(r, ask(api.SysFork), fork(fmt.Sprintf("b%d", r.Intn(blocks))))
	case 3, 4: // who is not 1 exits, now and then
		return ask(api.SysGetpid) + "li 5 1/seq 5 0/jnz 5 " + to() + ask(api.SysExit, uint32(r.Intn(9)))
	case 5, 6:
		return ask(api.SysWait, one[uint32](r, 0, 0, own, at()))
	case 7:
		return ask(one(r, api.SysGetpid, api.SysGetppid, 0, 23))
	case 8, 9:
		return ask(api.SysPipe, one[uint32](r, own, own+8, at()))
	case 10, 11, 12:
		return ask(api.SysRead, fd(), at(), many())
	case 13, 14, 15:
		return ask(api.SysWrite, fd(), at(), many())
	case 16:
		return ask(one(r, api.SysClose, api.SysClose, api.SysDup), fd())
	case 17:
		return one(r, ask(api.SysKill, pid(), one[uint32](r, 0, 3, 5, 6, 7, 12, 15, 16)), ask(api.SysKill, 2+pid(), 9))
	case 18:
		return ask(api.SysMask, one[uint32](r, 0, 1<<5, 1<<6|1<<7, 0xfffe, 1))
	case 19:
		return fmt.Sprintf("li 0 13/li 1 %d/li 2 @%d/sys/", one(r, 3, 5, 6, 7, 12, 15), r.Intn(blocks)) + one(r, "", "", ask(api.SysHandle, one[uint32](r, 4, 12, 9, 0), one[uint32](r, 0, 1)))
	case 20, 21:
		return ask(api.SysSigreturn)
	case 22:
		return ask(api.SysFutexwait, word(), one[uint32](r, 0, 0, 0, 1))
	case 23:
		return ask(api.SysFutexwake, word(), one[uint32](r, 0, 1, 2, 9))
	case 24:
		return one(r, ask(api.SysYield), ask(api.SysSleep, one[uint32](r, 0, 1, 2, 30)))
	case 25:
		return ask(api.SysMap, page(), one[uint32](r, 1, 1, 2, 0), one[uint32](r, 0, 1, 2, 3, 3, 4))
	case 26:
		return ask(api.SysUnmap, one[uint32](r, 19, 20, 21, 63), one[uint32](r, 1, 1, 2, 0))
	case 27:
		return ask(api.SysAffinity, one[uint32](r, 0, 1, 2, 3, 4, 6, 7, 8))
	case 28:
		return ask(api.SysPrint, uint32(r.Intn(9))) + "zset 1 3/zmul 1 0/"
	}
	return one(r, store(one[uint32](r, own, own+4, common, common+4), uint32(r.Intn(2))), "jmp "+to(), "jz 0 "+to(), "li 7 1100/sb 6 7 -62/")
}

// lines counts the words of a text: each line but labels is one.
func lines(s string) int {
	return strings.Count(s, "/") - strings.Count(s, ":/")
}

// program is one that does any things for good.
func program(t *testing.T, r *rand.Rand) []uint32 {
	t.Helper()
	text := ask(api.SysMap, 16, 2, 1) + ask(api.SysMap, 18, 1, 3)
	for _, sig := range []int{3, 5, 6, 7, 12, 15} {
		if sig == 12 || r.Intn(3) > 0 {
			text += fmt.Sprintf("li 0 13/li 1 %d/li 2 @%d/sys/", sig, r.Intn(blocks))
		} else {
			text += ask(api.SysHandle, uint32(sig), 1)
		}
	}
	places := make([]string, blocks)
	for i := range blocks {
		places[i] = fmt.Sprint(4 * lines(text))
		text += fmt.Sprintf("b%d:/", i) + block(r)
	}
	text += "jmp b0/solo:/" + ask(api.SysUnmap, 18, 1) + ask(api.SysMap, 18, 1, 3)
	for fd := range uint32(8) { // who has nothing of others' may be carried
		text += ask(api.SysClose, fd)
	}
	text += fmt.Sprintf("jmp b%d/", r.Intn(blocks))
	for i := blocks - 1; i >= 0; i-- { // @12 ahead of @1
		text = strings.ReplaceAll(text, fmt.Sprintf("@%d/", i), places[i]+"/")
	}
	l := words(t, text)
	if len(l) > own/4 {
		t.Fatal(len(l))
	}
	return l
}

// pair is a machine beside a plain one, that does the same; and trees that were frozen, and may come back.
type pair struct {
	*machine
	plain *model
	r     *rand.Rand
	cold  []parcel
	count map[string]int
}

// parcel is a tree, as a machine told it: Fds, pages' frames and files' pipes are numbers of its lists.
type parcel struct {
	procs   []api.Process
	objects [][]byte
	files   []api.File
	pipes   []api.PipeState
	waits   []api.Waiter
}

func newPair(t *testing.T, r *rand.Rand) *pair {
	b := api.Boot{Cores: 1 + r.Intn(3), Frames: one(r, 20, 22, 26, 40, 200), Procs: 2 + r.Intn(8), Pipe: one(r, 1, 3, 8), Program: program(t, r)}
	return &pair{machine: start(t, b), plain: newModel(b), r: r, count: map[string]int{}}
}

// both holds what was seen, and what both machines are, against each other.
func (p *pair) both(what string, l []api.Seen, e, want api.Errno) {
	p.t.Helper()
	p.count[what]++
	for _, x := range l {
		p.count[fmt.Sprintf("seen %d of %d", x.Kind, x.Call)]++
	}
	if e != want || !slices.Equal(l, p.plain.seen) {
		p.t.Fatalf("%s: seen %v, error %d, not %v, %d", what, l, e, p.plain.seen, want)
	}
	p.plain.seen = nil
	if wrong := p.unlike(); wrong != "" {
		p.t.Fatalf("%s: %s", what, wrong)
	}
	p.check()
}

// twins holds numbers of the machine and what the plain one has instead against each other: each has one other.
type twins[T comparable] struct {
	of map[int]T
	to map[T]int
}

func newTwins[T comparable]() twins[T] { return twins[T]{map[int]T{}, map[T]int{}} }

func (w twins[T]) are(n int, x T) bool {
	y, ok := w.of[n]
	k, is := w.to[x]
	w.of[n], w.to[x] = x, n
	return (!ok || y == x) && (!is || k == n)
}

// unlike says by what both are not alike.
func (p *pair) unlike() string {
	m := p.plain
	if m.halted || p.k.Halted() {
		if !m.halted || !p.k.Halted() {
			return "one has halted"
		}
		return ""
	}
	if !slices.Equal(p.k.Pids(), m.pids()) || p.k.Next() != m.next || p.k.Room() != m.room() {
		return fmt.Sprint(p.k.Pids(), m.pids(), p.k.Next(), m.next, p.k.Room(), m.room())
	}
	for c := range m.boot.Cores {
		var l []int
		for _, b := range m.queues[c] {
			l = append(l, b.pid)
		}
		if !slices.Equal(p.k.Queue(c), l) {
			return fmt.Sprint("queue ", c, p.k.Queue(c), l)
		}
	}
	w := world{newTwins[*content](), newTwins[*ending](), newTwins[*channel]()}
	for _, pid := range m.pids() {
		if wrong := p.unlikeProcess(w, m.beings[pid]); wrong != "" {
			return wrong
		}
	}
	waiters := p.k.Waiters()
	if len(waiters) != len(m.line) {
		return fmt.Sprint(waiters)
	}
	for i, x := range waiters {
		b := m.line[i]
		key := api.Key{Pid: b.pid, Off: b.spot.off}
		if b.spot.content != nil {
			key = api.Key{Frame: w.frames.to[b.spot.content], Off: b.spot.off}
		}
		if x != (api.Waiter{Pid: b.pid, Key: key}) {
			return fmt.Sprint(x, b.pid, key)
		}
	}
	return ""
}

type world struct {
	frames twins[*content]
	files  twins[*ending]
	pipes  twins[*channel]
}

func (p *pair) unlikeProcess(w world, b *being) string {
	x := p.state(b.pid)
	want := api.Process{Pid: b.pid, Parent: b.parent, State: b.state, Status: b.status, Cpu: b.cpu, Saved: b.saved, Wait: b.wait, Left: b.left, Affinity: b.affinity, Core: b.core}
	want.Signals = api.Signals{Pending: bits(b.pending), Mask: bits(b.mask), Handlers: b.handlers, Busy: b.busy}
	got := x
	got.Pipe, got.Key, got.Fds, got.Pages = 0, api.Key{}, nil, nil
	if !reflect.DeepEqual(got, want) {
		return fmt.Sprintf("%+v is not %+v", got, want)
	}
	if b.state != api.ProcLive {
		return ""
	}
	for fd, n := range x.Fds {
		end := b.fds[fd]
		if (n >= 0) != (end != nil) {
			return fmt.Sprint("descriptors ", x.Fds)
		}
		if end == nil {
			continue
		}
		f, _ := p.k.File(n)
		s, _ := p.k.Pipe(f.Pipe)
		if !w.files.are(n, end) || !w.pipes.are(f.Pipe, end.to) || f.Write != end.write || string(s.Bytes) != string(end.to.bytes) {
			return fmt.Sprint("file ", n, f, s, end.to.bytes)
		}
	}
	if b.at != nil && !w.pipes.are(x.Pipe, b.at) {
		return fmt.Sprint("waits at ", x.Pipe)
	}
	return p.unlikePages(w, b, x.Pages)
}

func (p *pair) unlikePages(w world, b *being, l []api.Mapped) string {
	for page, s := range b.pages {
		if s == nil {
			continue
		}
		if len(l) == 0 || l[0].Page != page {
			return fmt.Sprint(b.pid, " has page ", page, l)
		}
		x := l[0].Entry
		l = l[1:]
		if !w.frames.are(x.Frame, s.content) || x.Write != s.write || x.Shared != s.shared || x.Cow != s.cow || x.Dirty != s.dirty {
			return fmt.Sprintf("page %d of %d: %+v, not %+v", page, b.pid, x, s)
		}
		if string(p.k.Page(b.pid, page)) != string(s.content.bytes[:]) {
			return fmt.Sprint(page, p.k.Page(b.pid, page), s.content.bytes)
		}
	}
	if len(l) > 0 {
		return fmt.Sprint(b.pid, " has ", l)
	}
	return ""
}

// turn lets both do something.
func (p *pair) turn() {
	p.t.Helper()
	m := p.plain
	core := p.r.Intn(m.boot.Cores)
	pids := m.pids()
	pid := one(p.r, pids...)
	b := m.beings[pid]
	switch n := p.r.Intn(100); {
	case n < 70:
		at := p.r.Uint32()
		if q := m.queues[core]; len(q) > 0 {
			m.step(q[at%uint32(len(q))])
		}
		l, e := p.k.Step(core, at)
		p.both("step", l, e, api.OK)
	case n < 80:
		p.run(pid, core)
	case n < 84:
		for _, b := range m.live() {
			if b.wait == api.WaitSleep {
				b.left--
				if b.left == 0 {
					m.answer(b, 0)
					m.ready(b)
				}
			}
		}
		l, e := p.k.Tick()
		p.both("tick", l, e, api.OK)
	case n < 87:
		if q := m.queues[core]; len(q) > 1 {
			m.queues[core] = append(slices.Clone(q[1:]), q[0])
		}
		p.both("rotate", nil, p.k.Rotate(core), api.OK)
	case n < 91:
		sig := one(p.r, 3, 5, 6, 7, 12, 15)
		want := api.ErrKernel
		if b.hears {
			m.post(b, sig)
			want = api.OK
		}
		l, e := p.k.Signal(pid, sig)
		p.both("signal", l, e, want)
	default:
		p.rare(b)
	}
}

// run lets one do a step, if it is on that core.
func (p *pair) run(pid, core int) {
	p.t.Helper()
	b, want := p.plain.beings[pid], api.ErrKernel
	if b.state == api.ProcLive && b.wait == api.WaitNone && b.core == core {
		p.plain.step(b)
		want = api.OK
	}
	l, e := p.k.Run(core, pid)
	p.both("run", l, e, want)
}

func (p *pair) rare(b *being) {
	p.t.Helper()
	m := p.plain
	switch p.r.Intn(10) {
	case 0, 1:
		mask := uint32(p.r.Intn(9))
		want := api.ErrKernel
		if b.state == api.ProcLive && m.may(mask) {
			m.settle(b, mask)
			want = api.OK
		}
		p.both("move", nil, p.k.Move(b.pid, mask), want)
	case 2:
		want := api.ErrKernel
		if b.state == api.ProcLive {
			want = api.OK
		}
		l, e := p.k.Nudge(b.pid)
		p.both("nudge", l, e, want)
	case 3:
		for _, s := range b.pages {
			if s != nil {
				s.dirty = false
			}
		}
		p.k.Clean(b.pid)
		p.both("clean", nil, api.OK, api.OK)
	case 4, 5, 6, 7:
		p.freeze(b)
	default:
		p.thaw()
	}
}

func (p *pair) freeze(b *being) {
	p.t.Helper()
	m := p.plain
	if b.pid == 1 || b.state != api.ProcLive {
		_, e := p.k.Freeze(b.pid)
		p.both("no freeze", nil, e, api.ErrKernel)
		return
	}
	if b.wait == api.WaitNone && len(m.tree(b.pid)) == 1 && p.r.Intn(8) > 0 {
		return // those who wait, and those with children, are told more of by this
	}
	closed := p.closed(b.pid)
	if !closed && p.r.Intn(20) > 0 {
		return // who is not closed does not come back
	}
	if closed {
		p.cold = append(p.cold, p.collect(b.pid))
	}
	var want []int
	for _, x := range m.tree(b.pid) {
		want = append(want, x.pid)
	}
	m.freeze(b.pid)
	l, e := p.k.Freeze(b.pid)
	if !slices.Equal(l, want) {
		p.t.Fatal(l, want)
	}
	p.both(fmt.Sprint("freeze ", closed), nil, e, api.OK)
}

// closed says whether nothing of a tree is anybody else's.
func (p *pair) closed(pid int) bool {
	m := p.plain
	frames, ends, files, sides := map[*content]int{}, map[*ending]int{}, 0, map[*channel]bool{}
	for _, b := range m.tree(pid) {
		if b.state == api.ProcFrozen {
			return false
		}
		for _, s := range b.pages {
			if s != nil && s.shared {
				frames[s.content]++
			}
		}
		for _, x := range b.fds {
			if x != nil {
				ends[x]++
				sides[x.to] = true
			}
		}
	}
	for c, n := range m.contents() {
		if frames[c] > 0 && frames[c] != n {
			return false
		}
	}
	for x, n := range m.endings() {
		if sides[x.to] {
			files++
		}
		if ends[x] > 0 && ends[x] != n {
			return false
		}
	}
	return files == len(ends)
}

// collect tells a tree by what the machine says of it.
func (p *pair) collect(pid int) parcel {
	var x parcel
	frames, files, pipes := map[int]int{}, map[int]int{}, map[int]int{}
	for _, n := range p.k.Tree(pid) {
		q := p.state(n)
		for i, page := range q.Pages {
			f := page.Entry.Frame
			if _, ok := frames[f]; !ok {
				frames[f] = len(x.objects)
				x.objects = append(x.objects, p.k.Page(n, page.Page))
			}
			q.Pages[i].Entry.Frame = frames[f]
		}
		for fd, f := range q.Fds {
			if f < 0 {
				continue
			}
			if _, ok := files[f]; !ok {
				files[f] = len(x.files)
				file, _ := p.k.File(f)
				if _, ok := pipes[file.Pipe]; !ok {
					pipes[file.Pipe] = len(x.pipes)
					s, _ := p.k.Pipe(file.Pipe)
					x.pipes = append(x.pipes, s)
				}
				file.Pipe = pipes[file.Pipe]
				x.files = append(x.files, file)
			}
			q.Fds[fd] = files[f]
		}
		x.procs = append(x.procs, q)
	}
	for i, q := range x.procs { // one may wait at a pipe that a later one's descriptor is told by
		if q.Wait == api.WaitRead || q.Wait == api.WaitWrite {
			x.procs[i].Pipe = pipes[q.Pipe]
		}
	}
	for _, w := range p.k.Waiters() {
		if slices.Contains(p.k.Tree(pid), w.Pid) {
			if w.Key.Pid == 0 {
				w.Key.Frame = frames[w.Key.Frame]
			}
			x.waits = append(x.waits, w)
		}
	}
	return x
}

// thaw lets the last tree that was frozen come back, if there is room, on any cores.
func (p *pair) thaw() {
	p.t.Helper()
	if len(p.cold) == 0 {
		return
	}
	x := p.cold[len(p.cold)-1]
	p.cold = p.cold[:len(p.cold)-1]
	r := p.k.Room()
	if r.Frames < len(x.objects) || r.Files < len(x.files) || r.Pipes < len(x.pipes) {
		p.count["no room"]++
		p.cold = slices.Insert(p.cold, 0, x)
		return
	}
	mask := 1 + uint32(p.r.Intn(1<<p.plain.boot.Cores-1))
	core := p.r.Intn(4) - 1
	p.build(x, mask, core)
	p.plain.build(x, mask, core)
	var seen []api.Seen
	for _, q := range x.procs {
		if q.State == api.ProcLive {
			l, e := p.k.Nudge(q.Pid)
			if e != api.OK {
				p.t.Fatal(e)
			}
			seen = append(seen, l...)
			b := p.plain.beings[q.Pid]
			for sig, is := range b.pending {
				if is {
					p.plain.post(b, sig)
				}
			}
		}
	}
	p.both("thaw", seen, api.OK, api.OK)
	p.count[fmt.Sprint("thaw of ", len(x.procs))]++
	for _, q := range x.procs {
		p.count[fmt.Sprint("thaw in wait ", q.Wait)]++
	}
}

// build makes a tree of the machine's parts.
func (p *pair) build(x parcel, mask uint32, core int) {
	p.t.Helper()
	ok := func(e api.Errno) {
		p.t.Helper()
		if e != api.OK {
			p.t.Fatal(e)
		}
	}
	var frames, pipes, files []int
	for _, b := range x.objects {
		n, e := p.k.Frame(b)
		ok(e)
		frames = append(frames, n)
	}
	for _, s := range x.pipes {
		n, e := p.k.AddPipe(s)
		ok(e)
		pipes = append(pipes, n)
	}
	for _, f := range x.files {
		n, e := p.k.AddFile(api.File{Pipe: pipes[f.Pipe], Write: f.Write})
		ok(e)
		files = append(files, n)
	}
	for i, q := range x.procs {
		if i == 0 {
			q.Parent = 0
		}
		q.Signals.Pending = 0 // these are kept
		q.Affinity, q.Core = mask, core
		q.Fds, q.Pages = slices.Clone(q.Fds), slices.Clone(q.Pages)
		for fd, n := range q.Fds {
			if n >= 0 {
				q.Fds[fd] = files[n]
			}
		}
		for i := range q.Pages {
			q.Pages[i].Entry.Frame = frames[q.Pages[i].Entry.Frame]
		}
		if q.Wait == api.WaitRead || q.Wait == api.WaitWrite {
			q.Pipe = pipes[q.Pipe]
		}
		ok(p.k.May(q.Pid, q.Parent))
		ok(p.k.Add(q))
	}
	for _, w := range x.waits {
		if w.Key.Pid == 0 {
			w.Key.Frame = frames[w.Key.Frame]
		}
		ok(p.k.AddWait(w))
	}
	for _, n := range frames {
		ok(p.k.Unframe(n))
	}
	for _, n := range files {
		ok(p.k.Unfile(n))
	}
}

// build makes the same of the plain machine's.
func (m *model) build(x parcel, mask uint32, core int) {
	var objects []*content
	for _, b := range x.objects {
		objects = append(objects, &content{[64]byte(b)})
	}
	var pipes []*channel
	for _, s := range x.pipes {
		pipes = append(pipes, &channel{s.Bytes})
	}
	var ends []*ending
	for _, f := range x.files {
		ends = append(ends, &ending{pipes[f.Pipe], f.Write})
	}
	for _, q := range x.procs {
		old := m.beings[q.Pid]
		b := &being{pid: q.Pid, parent: old.parent, state: q.State, status: q.Status}
		m.beings[q.Pid] = b
		if q.State != api.ProcLive {
			continue
		}
		b.cpu, b.saved, b.hears, b.busy, b.handlers = q.Cpu, q.Saved, true, q.Signals.Busy, q.Signals.Handlers
		b.pending, b.mask = old.pending, ofBits(q.Signals.Mask)
		b.affinity, b.core = mask, core
		for fd, n := range q.Fds {
			if n >= 0 {
				b.fds[fd] = ends[n]
			}
		}
		for _, y := range q.Pages {
			e := y.Entry
			b.pages[y.Page] = &sheet{objects[e.Frame], e.Write, e.Shared, e.Cow, e.Dirty}
		}
		b.left = q.Left
		switch b.wait = q.Wait; b.wait {
		case api.WaitNone:
			m.ready(b)
		case api.WaitRead, api.WaitWrite:
			b.at = pipes[q.Pipe]
		}
	}
	for _, w := range x.waits {
		b := m.beings[w.Pid]
		b.spot = spot{pid: w.Key.Pid, off: w.Key.Off}
		if w.Key.Pid == 0 {
			b.spot = spot{content: objects[w.Key.Frame], off: w.Key.Off}
		}
		m.line = append(m.line, b)
	}
}

// What was told of a tree, and is gone, is made again by the machine's parts: it goes on as it would have.
func TestP18_4_Rebuilds(t *testing.T) {
	for wait := api.WaitChild; wait <= api.WaitSleep; wait++ {
		m := waits(t, wait)
		p := &pair{machine: m}
		was, room := m.state(2), m.k.Room()
		room.Frames -= m.shared(1, 2) // those that its parent has, too, are its own then
		x := p.collect(2)
		if _, e := m.k.Freeze(2); e != api.OK {
			t.Fatal(e)
		}
		m.check()
		p.build(x, 2, 0)
		m.check()
		now := m.state(2)
		if m.k.Room() != room {
			t.Error(m.k.Room(), room)
		}
		was.Affinity, now.Pages = 2, was.Pages
		if !reflect.DeepEqual(was, now) {
			t.Errorf("%+v was %+v", now, was)
		}
		m.signals(2, 5, result(2, int(was.Cpu.R[0]), minus(api.EINTR)))
		if m.state(2).Core != 1 {
			t.Error(m.state(2))
		}
		m.want(2, delivered(2, 5))
	}
}

// Long runs of any calls: the machine is what the plain one is, behind each step, and P18.7 holds.
func TestP18_7_LongRuns(t *testing.T) {
	runs := 60
	if testing.Short() {
		runs = 20
	}
	count := map[string]int{}
	for seed := range runs {
		r := rand.New(rand.NewSource(int64(seed)))
		p := newPair(t, r)
		p.count = count
		for range 40 { // ahead of its handlers nothing else is done with 1
			p.run(1, p.plain.beings[1].core)
		}
		for range 4000 {
			if !p.k.Halted() {
				p.turn()
			}
		}
		p.end()
		if t.Failed() {
			t.Fatal("seed", seed)
		}
	}
	if testing.Short() {
		return
	}
	for _, what := range rarely(count) {
		t.Error("this was hardly done:", what)
	}
}

// end kills 1: both halt.
func (p *pair) end() {
	p.t.Helper()
	m := p.plain
	first := m.beings[1]
	if !m.halted {
		m.post(first, 9)
		l, e := p.k.Signal(1, 9)
		p.both("kill", l, e, api.OK)
		for !m.halted { // a signal that is less than 9 is delivered ahead of it
			m.step(first)
			l, e = p.k.Run(first.core, 1)
			p.both("end", l, e, api.OK)
		}
	}
	if _, e := p.k.Run(first.core, 1); e != api.ErrHalt {
		p.t.Fatal(e)
	}
}

// rarely is what long runs have to do, and did not.
func rarely(count map[string]int) []string {
	least := map[string]int{"freeze true": 20, "freeze false": 20, "thaw": 20, "signal": 500, "move": 200, "end": 60}
	for n := 1; n <= 21; n++ {
		if n != api.SysExit && n != api.SysSigreturn {
			least[fmt.Sprintf("seen %d of %d", api.SeenResult, n)] = 40
		}
	}
	least["seen 1 of 0"] = 100
	least["seen 2 of 0"] = 100
	least["seen 3 of 0"] = 100
	least["seen 4 of 0"] = 100
	for _, wait := range []int{api.WaitNone, api.WaitChild, api.WaitFutex, api.WaitSleep} {
		least[fmt.Sprint("thaw in wait ", wait)] = 2
	}
	var l []string
	for what, n := range least {
		if count[what] < n {
			l = append(l, fmt.Sprint(what, ": ", count[what]))
		}
	}
	slices.Sort(l)
	return l
}
