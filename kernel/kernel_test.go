package kernel_test

import (
	"bytes"
	"fmt"
	"reflect"
	"slices"
	"strings"
	"testing"

	"carryall/api"
	"carryall/isa"
	"carryall/kernel"
)

// data is an address that is mapped in each process of begin, behind its program.
const data = 1536

// minus is the word that says a code.
func minus(code int) uint32 { return uint32(-int64(code)) }

// words are a program's: / stands for a byte 10.
func words(t *testing.T, s string) []uint32 {
	t.Helper()
	l, line, e := isa.Assemble(strings.ReplaceAll(s, "/", "\n"))
	if e != api.OK {
		t.Fatalf("line %d of %q", line, s)
	}
	return l
}

// set are lines that put a word into a register.
func set(reg int, v uint32) string {
	s := fmt.Sprintf("li %d %d/", reg, int16(v))
	if int32(int16(v)) != int32(v) {
		s += fmt.Sprintf("lui %d %d/", reg, int16(v>>16))
	}
	return s
}

// ask are lines that make a call.
func ask(n int, args ...uint32) string {
	s := set(0, uint32(n))
	for i, a := range args {
		s += set(1+i, a)
	}
	return s + "sys/"
}

// spin does nothing for good.
func spin(label string) string { return label + ":/jmp " + label + "/" }

// fork lets the child go on at a label.
func fork(label string) string { return ask(api.SysFork) + "jz 0 " + label + "/" }

// store are lines that put a word at an address.
func store(a, v uint32) string { return set(6, v) + set(7, a) + "sw 6 7 0/" }

// machine is a kernel that is looked at behind each step. Those who hold frames and open files beside its processes say so.
type machine struct {
	t      *testing.T
	k      *kernel.Kernel
	total  int // frames that there are
	frames map[int]int
	files  map[int]int
}

func start(t *testing.T, b api.Boot) *machine {
	t.Helper()
	k, e := kernel.New(b)
	if e != api.OK {
		t.Fatal(e)
	}
	return &machine{t: t, k: k, total: b.Frames, frames: map[int]int{}, files: map[int]int{}}
}

// long is a program with nops behind it, so that it fills 32 pages, and may keep data there.
func long(t *testing.T, parts ...string) []uint32 {
	t.Helper()
	l := words(t, strings.Join(parts, ""))
	if len(l) > data/4 {
		t.Fatal(len(l))
	}
	return append(l, make([]uint32, 512-len(l))...)
}

// begin is one of two cores, with much room, and pipes of 8 bytes.
func begin(t *testing.T, parts ...string) *machine {
	t.Helper()
	return start(t, api.Boot{Cores: 2, Frames: 256, Procs: 32, Pipe: 8, Program: long(t, parts...)})
}

// short is one of one page, with as many frames.
func short(t *testing.T, frames int, parts ...string) *machine {
	t.Helper()
	return start(t, api.Boot{Cores: 1, Frames: frames, Procs: 8, Pipe: 8, Program: words(t, strings.Join(parts, ""))})
}

// state is a process that is there.
func (m *machine) state(pid int) api.Process {
	m.t.Helper()
	p, ok := m.k.Process(pid)
	if !ok {
		m.t.Fatalf("%d is not there", pid)
	}
	return p
}

func (m *machine) isReady(pid int) bool {
	p, _ := m.k.Process(pid)
	return p.State == api.ProcLive && p.Wait == api.WaitNone && !m.k.Halted()
}

// step lets a Ready one do a step.
func (m *machine) step(pid int) []api.Seen {
	m.t.Helper()
	l, e := m.k.Run(m.state(pid).Core, pid)
	if e != api.OK {
		m.t.Fatalf("a step of %d: %v", pid, e)
	}
	m.check()
	return l
}

// play lets one do steps, until something is seen, or it is not Ready any more.
func (m *machine) play(pid int) []api.Seen {
	m.t.Helper()
	for range 300 {
		if !m.isReady(pid) {
			return nil
		}
		if l := m.step(pid); len(l) > 0 {
			return l
		}
	}
	m.t.Fatalf("nothing is seen of %d", pid)
	return nil
}

func (m *machine) same(l []api.Seen, want ...api.Seen) {
	m.t.Helper()
	if !slices.Equal(l, want) {
		m.t.Fatalf("seen %v, not %v", l, want)
	}
}

func result(pid, n int, v uint32) api.Seen {
	return api.Seen{Pid: pid, Kind: api.SeenResult, Call: n, Value: v}
}

func printed(pid int, v uint32) api.Seen {
	return api.Seen{Pid: pid, Kind: api.SeenPrint, Value: v}
}

func delivered(pid, sig int) api.Seen {
	return api.Seen{Pid: pid, Kind: api.SeenSignal, Value: uint32(sig)}
}

func exited(pid int, status uint32) api.Seen {
	return api.Seen{Pid: pid, Kind: api.SeenExit, Value: status}
}

// want lets one go on up to what is seen next.
func (m *machine) want(pid int, want ...api.Seen) {
	m.t.Helper()
	m.same(m.play(pid), want...)
}

// answers lets one go on up to a call's answer, behind which its registers and Pc are so.
func (m *machine) answers(pid, n int, v uint32) {
	m.t.Helper()
	pc := m.pcOfCall(pid)
	m.want(pid, result(pid, n, v))
	if c := m.state(pid).Cpu; c.R[0] != v || c.Pc != pc+4 {
		m.t.Fatalf("call %d of %d: r0 %d, Pc %d behind %d", n, pid, c.R[0], c.Pc, pc)
	}
}

// pcOfCall lets one go on up to a sys: where that is.
func (m *machine) pcOfCall(pid int) uint32 {
	m.t.Helper()
	for range 300 {
		p := m.state(pid)
		b := m.k.Page(pid, int(p.Cpu.Pc/64))
		if at := p.Cpu.Pc % 64; len(b) == 64 && b[at+3] == api.OpSys {
			return p.Cpu.Pc
		}
		if l := m.step(pid); len(l) > 0 {
			m.t.Fatalf("ahead of a call of %d: %v", pid, l)
		}
	}
	m.t.Fatalf("no call of %d", pid)
	return 0
}

// blocks lets one go on up to a call in which it waits: nothing of it is turned by that.
func (m *machine) blocks(pid, wait int) {
	m.t.Helper()
	m.pcOfCall(pid)
	was := m.state(pid)
	m.same(m.step(pid))
	p := m.state(pid)
	if p.Wait != wait || p.Cpu != was.Cpu || p.Signals != was.Signals || p.Core != was.Core {
		m.t.Fatalf("%d is %+v", pid, p)
	}
}

// refused lets one go on up to a call that is answered by a code, and leaves all else as it was.
func (m *machine) refused(pid, n, code int) {
	m.t.Helper()
	m.pcOfCall(pid)
	was := m.all()
	m.answers(pid, n, minus(code))
	now := m.all()
	for i := range was.procs {
		if was.procs[i].Pid == pid { // what is ignored is pending no more by a step
			was.procs[i].Cpu, now.procs[i].Cpu = api.Cpu{}, api.Cpu{}
			was.procs[i].Signals.Pending, now.procs[i].Signals.Pending = 0, 0
		}
	}
	if d := unlike(was, now); d != "" {
		m.t.Fatalf("call %d of %d: %s", n, pid, d)
	}
}

// unlike tells by what two machines are not alike.
func unlike(a, b all) string {
	x, y := reflect.ValueOf(a), reflect.ValueOf(b)
	for i := range x.NumField() {
		one, other := fmt.Sprint(x.Field(i)), fmt.Sprint(y.Field(i))
		if one != other {
			at := 0
			for at < min(len(one), len(other)) && one[at] == other[at] {
				at++
			}
			from := max(0, at-40)
			return fmt.Sprintf("%s: %q is %q", x.Type().Field(i).Name, one[from:min(len(one), at+40)], other[from:min(len(other), at+40)])
		}
	}
	return ""
}

// all is all that a machine tells.
type all struct {
	procs   []api.Process
	pages   [][]byte
	queues  [][]int
	files   []api.File
	refs    []int
	pipes   []api.PipeState
	frames  []int
	waiters []api.Waiter
	room    api.Room
	next    int
	halted  bool
	trees   [][]int
	dirty   [][]int
}

func (m *machine) all() all {
	return allOf(m.k)
}

func allOf(k *kernel.Kernel) all {
	var a all
	for _, pid := range k.Pids() {
		p, _ := k.Process(pid)
		a.procs = append(a.procs, p)
		for _, x := range p.Pages {
			a.pages = append(a.pages, k.Page(pid, x.Page))
		}
		a.trees = append(a.trees, k.Tree(pid))
		a.dirty = append(a.dirty, k.Dirty(pid))
	}
	for core := range k.Cores() {
		a.queues = append(a.queues, k.Queue(core))
	}
	for n := range api.MaxFiles {
		x, refs := k.File(n)
		a.files, a.refs = append(a.files, x), append(a.refs, refs)
	}
	for slot := range api.MaxPipes {
		x, _ := k.Pipe(slot)
		a.pipes = append(a.pipes, x)
	}
	for n := range api.MaxFrame {
		a.frames = append(a.frames, k.Refs(n))
	}
	a.waiters, a.room, a.next, a.halted = k.Waiters(), k.Room(), k.Next(), k.Halted()
	return a
}

// check holds the machine against P18.7.
func (m *machine) check() {
	m.t.Helper()
	if m.k.Halted() {
		return
	}
	for _, wrong := range []string{m.wrongQueues(), m.wrongFrames(), m.wrongFiles(), m.wrongWaits()} {
		if wrong != "" {
			m.t.Fatal(wrong)
		}
	}
}

func (m *machine) wrongQueues() string {
	in := map[int]int{}
	for core := range m.k.Cores() {
		for _, pid := range m.k.Queue(core) {
			in[pid]++
			if p, _ := m.k.Process(pid); p.Core != core || p.Affinity>>core&1 == 0 {
				return fmt.Sprintf("%d is in the queue of %d, and on %d, mask %b", pid, core, p.Core, p.Affinity)
			}
		}
	}
	for _, pid := range m.k.Pids() {
		p, ok := m.k.Process(pid)
		want := 0
		if p.State == api.ProcLive && p.Wait == api.WaitNone {
			want = 1
		}
		if !ok || p.Pid != pid || in[pid] != want {
			return fmt.Sprintf("%d is in %d queues: %+v", pid, in[pid], p)
		}
		delete(in, pid)
	}
	if len(in) > 0 {
		return fmt.Sprint("in queues, and not there: ", in)
	}
	return ""
}

func (m *machine) wrongFrames() string {
	had := map[int]int{}
	for _, pid := range m.k.Pids() {
		p, _ := m.k.Process(pid)
		for _, x := range p.Pages {
			had[x.Entry.Frame]++
		}
	}
	used := 0
	for n := range api.MaxFrame {
		if m.k.Refs(n) != had[n]+m.frames[n] {
			return fmt.Sprintf("frame %d counts %d, and %d pages have it", n, m.k.Refs(n), had[n])
		}
		if m.k.Refs(n) > 0 {
			used++
		}
	}
	if m.k.Room().Frames != m.total-used {
		return fmt.Sprint(m.k.Room())
	}
	return ""
}

func (m *machine) wrongFiles() string {
	had, sides := map[int]int{}, map[api.File]int{}
	for _, pid := range m.k.Pids() {
		p, _ := m.k.Process(pid)
		for _, n := range p.Fds {
			had[n]++
		}
	}
	open := 0
	for n := range api.MaxFiles {
		x, refs := m.k.File(n)
		if refs != had[n]+m.files[n] {
			return fmt.Sprintf("file %d counts %d, and %d descriptors have it", n, refs, had[n])
		}
		if refs > 0 {
			open++
			sides[x]++
		}
	}
	used := 0
	for slot := range api.MaxPipes {
		x, ok := m.k.Pipe(slot)
		if ok {
			used++
		}
		readers, writers := sides[api.File{Pipe: slot}], sides[api.File{Pipe: slot, Write: true}]
		if x.Readers != readers || x.Writers != writers || ok != (readers+writers > 0) {
			return fmt.Sprintf("pipe %d is %v, with %d readers, %d writers", slot, x, readers, writers)
		}
	}
	if r := m.k.Room(); r.Files != api.MaxFiles-open || r.Pipes != api.MaxPipes-used {
		return fmt.Sprint(r)
	}
	return ""
}

func (m *machine) wrongWaits() string {
	at := map[int]api.Key{}
	for _, w := range m.k.Waiters() {
		at[w.Pid] = w.Key
	}
	for _, pid := range m.k.Pids() {
		p, _ := m.k.Process(pid)
		x, ok := m.k.Pipe(p.Pipe)
		_, waits := at[pid]
		var wrong bool
		switch p.Wait {
		case api.WaitRead:
			wrong = !ok || len(x.Bytes) > 0 || x.Writers == 0
		case api.WaitWrite:
			wrong = !ok || len(x.Bytes) < m.k.Capacity() || x.Readers == 0
		}
		if wrong || p.Key != at[pid] || waits != (p.Wait == api.WaitFutex) || (p.Left > 0) != (p.Wait == api.WaitSleep) {
			return fmt.Sprintf("%+v waits at %+v", p, x)
		}
	}
	return ""
}

// noFds are eight descriptors that are free.
func noFds() []int { return []int{-1, -1, -1, -1, -1, -1, -1, -1} }

func TestP18_1_New(t *testing.T) {
	good := api.Boot{Cores: 2, Frames: 40, Procs: 4, Pipe: 8, Program: make([]uint32, 20)}
	type turn func(b *api.Boot, n int)
	cores := func(b *api.Boot, n int) { b.Cores = n }
	frames := func(b *api.Boot, n int) { b.Frames = n; b.Program = b.Program[:1] }
	procs := func(b *api.Boot, n int) { b.Procs = n }
	pipes := func(b *api.Boot, n int) { b.Pipe = n }
	program := func(b *api.Boot, n int) { b.Program = make([]uint32, n) }
	just := func(words int) turn {
		return func(b *api.Boot, n int) { b.Program, b.Frames = make([]uint32, words), n }
	}
	for _, c := range []struct {
		name string
		do   turn
		ok   []int
		not  []int
	}{
		{"cores", cores, []int{1, 2, 7, 8}, []int{-1 << 62, -1, 0, 9, 64, 1 << 62}},
		{"frames", frames, []int{1, 2, 255, 256}, []int{-1 << 62, -1, 0, 257, 1 << 62}},
		{"procs", procs, []int{1, 2, 31, 32}, []int{-1 << 62, -1, 0, 33, 1 << 62}},
		{"pipe", pipes, []int{1, 2, 63, 64}, []int{-1 << 62, -1, 0, 65, 1 << 62}},
		{"program", program, []int{1, 15, 16, 17, 511, 512}, []int{0, 513, 528, 1000}},
		{"frames for 1 word", just(1), []int{1}, []int{0}},
		{"frames for 16 words", just(16), []int{1, 2}, []int{0}},
		{"frames for 17 words", just(17), []int{2}, []int{1}},
		{"frames for 512 words", just(512), []int{32, 33}, []int{31, 1}},
	} {
		for _, n := range c.ok {
			b := good
			c.do(&b, n)
			if k, e := kernel.New(b); e != api.OK || k == nil {
				t.Error(c.name, n, e)
			}
		}
		for _, n := range c.not {
			b := good
			c.do(&b, n)
			if k, e := kernel.New(b); e != api.ErrArg || k != nil {
				t.Error(c.name, n, e)
			}
		}
	}
	if _, e := kernel.New(api.Boot{}); e != api.ErrArg {
		t.Error(e)
	}
}

func TestP18_1_Begins(t *testing.T) {
	for _, many := range []int{1, 16, 17, 40, 512} {
		for cores := 1; cores <= 8; cores++ {
			b := api.Boot{Cores: cores, Frames: 33, Procs: 5, Pipe: 7, Program: make([]uint32, many)}
			for i := range b.Program {
				b.Program[i] = uint32(i+1) * 0x01020304
			}
			var text []byte
			for _, w := range b.Program {
				text = append(text, byte(w), byte(w>>8), byte(w>>16), byte(w>>24))
			}
			m := start(t, b)
			clear(b.Program) // it is not kept
			pages := (many*4 + 63) / 64
			want := api.Process{Pid: 1, State: api.ProcLive, Fds: noFds(), Affinity: 1<<cores - 1}
			text = append(text, make([]byte, 64*pages-len(text))...)
			for page := range pages {
				want.Pages = append(want.Pages, api.Mapped{Page: page, Entry: api.Entry{Frame: page, Write: true, Dirty: true}})
				if !bytes.Equal(m.k.Page(1, page), text[64*page:64*page+64]) {
					t.Error(many, page)
				}
			}
			if p := m.state(1); !reflect.DeepEqual(p, want) {
				t.Errorf("%+v", p)
			}
			m.check()
			room := api.Room{Frames: 33 - pages, Procs: 4, Files: 64, Pipes: 16}
			if m.k.Room() != room || m.k.Capacity() != 7 || m.k.Cores() != cores || m.k.Halted() || m.k.Next() != 2 {
				t.Error(m.k.Room(), m.k.Capacity(), m.k.Cores(), m.k.Halted(), m.k.Next())
			}
			if !slices.Equal(m.k.Queue(0), []int{1}) || !slices.Equal(m.k.Pids(), []int{1}) || !slices.Equal(m.k.Tree(1), []int{1}) || len(m.k.Waiters()) > 0 {
				t.Error(m.k.Queue(0), m.k.Pids(), m.k.Tree(1))
			}
		}
	}
}

// three has three processes that spin: 1, 2 and 3; the last fork's answer is what it did last.
func three(t *testing.T) *machine {
	m := begin(t, fork("kid"), fork("kid"), spin("me"), spin("kid"))
	m.answers(1, api.SysFork, 2)
	m.answers(1, api.SysFork, 3)
	return m
}

func TestP18_1_Step(t *testing.T) {
	m := three(t)
	if !slices.Equal(m.k.Queue(0), []int{1, 2, 3}) {
		t.Fatal(m.k.Queue(0))
	}
	was := m.all()
	for _, core := range []int{-1 << 62, -1, 2, 3, 8, 1 << 62} {
		if l, e := m.k.Step(core, 0); len(l) > 0 || e != api.ErrKernel {
			t.Error(core, l, e)
		}
	}
	for n := range uint32(5) {
		if l, e := m.k.Step(1, n); len(l) > 0 || e != api.OK {
			t.Error(l, e)
		}
	}
	if d := unlike(was, m.all()); d != "" {
		t.Error(d)
	}
	for _, n := range []uint32{0, 1, 2, 3, 4, 5, 1 << 31, 1<<32 - 1} {
		pid := 1 + int(n%3)
		pcs := m.pcs()
		if l, e := m.k.Step(0, n); len(l) > 0 || e != api.OK {
			t.Error(l, e)
		}
		now := m.pcs()
		pcs[pid-1] = now[pid-1]
		if !slices.Equal(pcs, now) || !slices.Equal(m.k.Queue(0), []int{1, 2, 3}) {
			t.Error(n, pcs, now, m.k.Queue(0))
		}
	}
}

func (m *machine) pcs() []uint32 {
	var l []uint32
	for _, pid := range m.k.Pids() {
		l = append(l, m.state(pid).Cpu.Pc)
	}
	return l
}

func TestP18_1_Run(t *testing.T) {
	m := begin(t, fork("kid"), fork("late"), fork("dead"), ask(api.SysWait, 0), spin("kid"), "late:/", ask(api.SysAffinity, 2), spin("me"), "dead:/", ask(api.SysExit, 3))
	for pid := 2; pid <= 4; pid++ {
		m.answers(1, api.SysFork, uint32(pid))
	}
	m.blocks(1, api.WaitChild)
	m.want(4, exited(4, 3)) // 1 is Ready again
	m.answers(1, api.SysWait, 4)
	m.answers(3, api.SysAffinity, 3)
	m.step(1)
	if !slices.Equal(m.k.Queue(0), []int{2, 1}) || !slices.Equal(m.k.Queue(1), []int{3}) {
		t.Fatal(m.k.Queue(0), m.k.Queue(1))
	}
	was := m.all()
	for _, core := range []int{-1 << 62, -1, 0, 1, 2, 1 << 62} {
		for _, pid := range []int{-1, 0, 1, 2, 3, 4, 5, 99} {
			if core == 1 && pid == 3 || core == 0 && (pid == 1 || pid == 2) {
				continue
			}
			if l, e := m.k.Run(core, pid); len(l) > 0 || e != api.ErrKernel {
				t.Error(core, pid, l, e)
			}
		}
	}
	if d := unlike(was, m.all()); d != "" {
		t.Error(d)
	}
	if l, e := m.k.Run(1, 3); len(l) > 0 || e != api.OK {
		t.Error(l, e)
	}
}

// A zombie, one who is frozen, and one who waits may not be run.
func TestP18_1_RunOfNone(t *testing.T) {
	m := begin(t, fork("dead"), fork("cold"), fork("waits"), spin("me"), "dead:/", ask(api.SysExit, 3), spin("cold"), "waits:/", ask(api.SysSleep, 5))
	for pid := 2; pid <= 4; pid++ {
		m.answers(1, api.SysFork, uint32(pid))
	}
	m.want(2, exited(2, 3))
	m.blocks(4, api.WaitSleep)
	if l, e := m.k.Freeze(3); e != api.OK || !slices.Equal(l, []int{3}) {
		t.Fatal(l, e)
	}
	m.check()
	for pid := 2; pid <= 5; pid++ {
		for core := range 2 {
			if l, e := m.k.Run(core, pid); len(l) > 0 || e != api.ErrKernel {
				t.Error(core, pid, l, e)
			}
		}
	}
	if !slices.Equal(m.k.Queue(0), []int{1}) {
		t.Error(m.k.Queue(0))
	}
}

func TestP18_1_Rotate(t *testing.T) {
	m := three(t)
	was := m.all()
	for _, core := range []int{-1 << 62, -1, 2, 8, 1 << 62} {
		if e := m.k.Rotate(core); e != api.ErrKernel {
			t.Error(core, e)
		}
	}
	if e := m.k.Rotate(1); e != api.OK {
		t.Error(e)
	}
	if d := unlike(was, m.all()); d != "" {
		t.Error(d)
	}
	for _, want := range [][]int{{2, 3, 1}, {3, 1, 2}, {1, 2, 3}} {
		if e := m.k.Rotate(0); e != api.OK || !slices.Equal(m.k.Queue(0), want) {
			t.Error(e, m.k.Queue(0))
		}
	}
}

// ticks lets a tick pass.
func (m *machine) ticks(want ...api.Seen) {
	m.t.Helper()
	l, e := m.k.Tick()
	if e != api.OK {
		m.t.Fatal(e)
	}
	m.check()
	m.same(l, want...)
}

func TestP18_1_Tick(t *testing.T) {
	m := begin(t, fork("two"), fork("two"), fork("one"), ask(api.SysSleep, 3), spin("me"), "two:/", ask(api.SysSleep, 2), spin("a"), "one:/", ask(api.SysAffinity, 2), ask(api.SysSleep, 1), spin("b"))
	m.ticks()
	for pid := 2; pid <= 4; pid++ {
		m.answers(1, api.SysFork, uint32(pid))
	}
	m.answers(4, api.SysAffinity, 3)
	for _, pid := range []int{3, 1, 4, 2} {
		m.blocks(pid, api.WaitSleep)
	}
	for pid, left := range map[int]uint32{1: 3, 2: 2, 3: 2, 4: 1} {
		if m.state(pid).Left != left {
			t.Error(pid, m.state(pid).Left)
		}
	}
	m.ticks(result(4, api.SysSleep, 0))
	if m.state(1).Left != 2 || m.state(2).Left != 1 || !slices.Equal(m.k.Queue(1), []int{4}) {
		t.Error(m.state(1), m.k.Queue(1))
	}
	m.ticks(result(2, api.SysSleep, 0), result(3, api.SysSleep, 0))
	if !slices.Equal(m.k.Queue(0), []int{2, 3}) || m.state(2).Cpu.R[0] != 0 {
		t.Error(m.k.Queue(0))
	}
	m.ticks(result(1, api.SysSleep, 0))
	m.ticks()
	if !slices.Equal(m.k.Queue(0), []int{2, 3, 1}) {
		t.Error(m.k.Queue(0))
	}
}

// signals posts one from outside.
func (m *machine) signals(pid, sig int, want ...api.Seen) {
	m.t.Helper()
	l, e := m.k.Signal(pid, sig)
	if e != api.OK {
		m.t.Fatal(e)
	}
	m.check()
	m.same(l, want...)
}

func TestP18_1_Signal(t *testing.T) {
	m := begin(t, fork("top"), fork("dead"), spin("me"), "top:/", fork("dead"), spin("a"), "dead:/", ask(api.SysExit, 3))
	m.answers(1, api.SysFork, 2)
	m.answers(1, api.SysFork, 3)
	m.answers(2, api.SysFork, 4)
	m.want(3, exited(3, 3))
	m.want(4, exited(4, 3))
	m.step(1) // 12 is ignored by both
	m.step(2)
	if l, e := m.k.Freeze(2); e != api.OK || !slices.Equal(l, []int{2, 4}) {
		t.Fatal(l, e)
	}
	was := m.all()
	for _, pid := range []int{-1 << 62, -1, 0, 3, 4, 5, 99, 65536} { // 3 is a zombie, and 4 was one when it was frozen
		for sig := -1; sig <= 17; sig++ {
			if l, e := m.k.Signal(pid, sig); len(l) > 0 || e != api.ErrKernel {
				t.Error(pid, sig, l, e)
			}
		}
	}
	for _, pid := range []int{1, 2} {
		for _, sig := range []int{-1 << 62, -1, 0, 16, 17, 32, 1 << 62} {
			if l, e := m.k.Signal(pid, sig); len(l) > 0 || e != api.ErrKernel {
				t.Error(pid, sig, l, e)
			}
		}
	}
	if d := unlike(was, m.all()); d != "" {
		t.Error(d)
	}
	for sig := 1; sig <= 15; sig++ {
		m.signals(1, sig)
		m.signals(2, sig)
		if m.state(1).Signals.Pending != 1<<(sig+1)-2 || m.state(2).Signals.Pending != 1<<(sig+1)-2 {
			t.Error(sig, m.state(1).Signals, m.state(2).Signals)
		}
	}
}

// What a step is, by the signals that are pending: the least that is fatal, or handled; and none that is masked, or ignored.
func TestP18_1_StepOfSignals(t *testing.T) {
	m := begin(t, ask(api.SysHandle, 5, 400), ask(api.SysHandle, 7, 1), ask(api.SysMask, 1<<3), spin("me"))
	m.answers(1, api.SysHandle, 0)
	m.answers(1, api.SysHandle, 0)
	m.answers(1, api.SysMask, 0)
	m.step(1)
	cpu := m.state(1).Cpu
	for _, sig := range []int{3, 7, 12, 5} {
		m.signals(1, sig)
	}
	if m.state(1).Cpu != cpu {
		t.Fatal("a signal is delivered by a step alone")
	}
	m.same(m.step(1), delivered(1, 5))
	p := m.state(1)
	want := cpu
	want.R[0], want.Pc = 5, 400
	if p.Cpu != want || p.Saved != cpu || !p.Signals.Busy || p.Signals.Pending != 1<<3|1<<7|1<<12 {
		t.Errorf("%+v", p)
	}
	m.signals(1, 4)
	m.same(m.step(1)) // Busy: an instruction is done
	if p := m.state(1); p.Cpu.Pc != 404 || p.Signals.Pending != 1<<3|1<<4|1<<7|1<<12 {
		t.Errorf("%+v", p)
	}
	m.signals(1, 9)
	m.same(m.step(1), exited(1, 128+9))
	if !m.k.Halted() {
		t.Error("it goes on")
	}
}

func TestP18_1_IgnoredSignals(t *testing.T) {
	m := begin(t, ask(api.SysHandle, 7, 1), spin("me"))
	m.answers(1, api.SysHandle, 0)
	m.signals(1, 12)
	m.signals(1, 7)
	m.same(m.step(1))
	if p := m.state(1); p.Signals.Pending != 0 || p.Signals.Busy {
		t.Errorf("what is ignored is pending no more: %+v", p.Signals)
	}
	m.signals(1, 2)
	m.same(m.step(1), exited(1, 130))
}

func TestP18_1_StepOfTraps(t *testing.T) {
	for _, c := range []struct {
		program string
		status  uint32
	}{
		{"word 4278190080/", 132},
		{"word 4294967295/", 132},
		{"lw 1 2 4096/", 139},
		{"li 2 64/sw 1 2 0/", 139},
		{"lw 1 2 2/", 139},
		{"li 2 2/jr 2/", 139},
		{"li 2 64/jr 2/", 139},
		{"li 2 -4/jr 2/", 139},
	} {
		m := short(t, 4, c.program)
		m.want(1, exited(1, c.status))
		if !m.k.Halted() {
			t.Error(c.program)
		}
	}
	m := short(t, 4, "li 1 77/addi 1 -7/zset 1 0/lw 3 0 0/sw 1 0 60/")
	for range 5 {
		m.same(m.step(1))
	}
	want := api.Cpu{R: [8]uint32{0, 70, 0, 0x0110004D}, Pc: 20}
	want.Z[1] = 70i
	if p := m.state(1); p.Cpu != want || m.k.Page(1, 0)[60] != 70 {
		t.Errorf("%+v", p.Cpu)
	}
}

// A Cow page is not written without a frame for it: that is a fault.
func TestP18_1_StepWithoutFrame(t *testing.T) {
	m := short(t, 1, fork("kid"), "kid:/sw 0 1 60/", spin("me"))
	m.answers(1, api.SysFork, 2)
	m.step(1)
	m.want(2, exited(2, 139))
	m.same(m.step(1)) // it has the frame alone
	m.same(m.step(1))
}

func TestP18_1_Examples(t *testing.T) {
	m := short(t, 4, "li 0 22/li 1 7/sys/li 0 1/li 1 3/sys/")
	m.want(1, printed(1, 7))
	m.want(1, exited(1, 3))
	if !m.k.Halted() {
		t.Error("it goes on")
	}
	text := "li 0 2/sys/jz 0 kid/li 0 3/li 1 0/sys/jmp end/kid:/li 0 1/li 1 9/sys/end:/nop/"
	for how := range 1 << 10 {
		m := short(t, 4, text)
		m.want(1, result(1, api.SysFork, 2))
		var seen []api.Seen
		for i := range 60 {
			pid := 1 + how>>(i%10)&1
			if i > 50 {
				pid = 1
			}
			if len(seen) < 2 && m.isReady(pid) {
				seen = append(seen, m.step(pid)...)
			}
			if len(seen) < 1 && i > 40 && m.isReady(2) {
				seen = append(seen, m.step(2)...)
			}
		}
		m.same(seen, exited(2, 9), result(1, api.SysWait, 2))
	}
}
