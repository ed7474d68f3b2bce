package kernel_test

import (
	"reflect"
	"slices"
	"strings"
	"testing"

	"carryall/api"
)

// asked is a call with what it is answered by.
type asked struct {
	n      int
	answer uint32
	args   []uint32
}

func does(n int, answer uint32, args ...uint32) asked { return asked{n, answer, args} }

func fails(n, code int, args ...uint32) asked { return asked{n, minus(code), args} }

// text are the lines of calls.
func text(l []asked) string {
	var s strings.Builder
	for _, x := range l {
		s.WriteString(ask(x.n, x.args...))
	}
	return s.String()
}

// does lets a process make calls one by one; a code leaves all as it was.
func (m *machine) does(pid int, l []asked) {
	m.t.Helper()
	for _, x := range l {
		if x.answer > minus(100) {
			m.refused(pid, x.n, int(-x.answer))
		} else {
			m.answers(pid, x.n, x.answer)
		}
	}
}

// alone is a machine whose process 1 makes these calls and spins.
func alone(t *testing.T, l ...asked) *machine {
	t.Helper()
	m := begin(t, text(l), spin("end"))
	m.does(1, l)
	return m
}

// at are the word's bytes at an address of a live one.
func (m *machine) at(pid int, a uint32) uint32 {
	m.t.Helper()
	var w uint32
	for i := range uint32(4) {
		b := m.k.Page(pid, int((a+i)/64))
		if len(b) == 0 {
			m.t.Fatalf("nothing is mapped at %d", a)
		}
		w |= uint32(b[(a+i)%64]) << (8 * i)
	}
	return w
}

// hold takes frames, so that just so many are free.
func (m *machine) hold(free int) {
	m.t.Helper()
	for m.k.Room().Frames > free {
		n, e := m.k.Frame(nil)
		if e != api.OK {
			m.t.Fatal(e)
		}
		m.frames[n]++
	}
}

// let gives them back.
func (m *machine) let() {
	m.t.Helper()
	for n := range m.frames {
		if e := m.k.Unframe(n); e != api.OK {
			m.t.Fatal(e)
		}
	}
	clear(m.frames)
}

func TestP18_1_Exit(t *testing.T) {
	for _, status := range []uint32{0, 1, 7, 255, 1 << 31, 1<<32 - 1} {
		m := begin(t, fork("kid"), ask(api.SysWait, data), spin("me"), "kid:/", ask(api.SysExit, status))
		m.answers(1, api.SysFork, 2)
		m.want(2, exited(2, status))
		want := api.Process{Pid: 2, Parent: 1, State: api.ProcZombie, Status: status}
		if p := m.state(2); !reflect.DeepEqual(p, want) {
			t.Errorf("%+v", p)
		}
		if m.state(1).Signals.Pending != 1<<12 || m.k.Page(2, 0) != nil || m.k.Room().Frames != 256-32 {
			t.Error(m.state(1).Signals, m.k.Room())
		}
		m.answers(1, api.SysWait, 2)
		if m.at(1, data) != status {
			t.Error(m.at(1, data))
		}
		if _, ok := m.k.Process(2); ok || m.k.Next() != 3 {
			t.Error("it is there still")
		}
	}
}

// All that a process has is given back: its queue's place, open files, frames.
func TestP18_1_ExitLeavesNothing(t *testing.T) {
	m := begin(t, ask(api.SysPipe, data), fork("kid"), ask(api.SysClose, 0), spin("me"), "kid:/", ask(api.SysDup, 1), ask(api.SysPipe, data), ask(api.SysMap, 40, 3, 3), ask(api.SysExit, 0))
	m.answers(1, api.SysPipe, 0)
	before := m.k.Room()
	m.answers(1, api.SysFork, 2)
	m.does(2, []asked{does(api.SysDup, 2), does(api.SysPipe, 0), does(api.SysMap, 0)})
	if x, refs := m.k.File(1); x != (api.File{Pipe: 0, Write: true}) || refs != 3 {
		t.Error(x, refs)
	}
	m.want(2, exited(2, 0))
	before.Procs--
	if m.k.Room() != before || !slices.Equal(m.k.Queue(0), []int{1}) {
		t.Error(m.k.Room(), m.k.Queue(0))
	}
	if x, refs := m.k.File(1); x != (api.File{Pipe: 0, Write: true}) || refs != 1 {
		t.Error(x, refs)
	}
}

// The children of who exits are those of 1, which is told, if one of them is a zombie and it waits.
func TestP18_1_ExitOfParent(t *testing.T) {
	m := begin(t, fork("top"), ask(api.SysWait, 0), ask(api.SysWait, 0), spin("me"), "top:/", fork("dead"), fork("lives"), ask(api.SysExit, 4), "dead:/", ask(api.SysExit, 5), spin("lives"))
	m.answers(1, api.SysFork, 2)
	m.answers(2, api.SysFork, 3)
	m.answers(2, api.SysFork, 4)
	m.want(3, exited(3, 5))
	if m.state(2).Signals.Pending != 1<<12 || m.state(1).Signals.Pending != 0 {
		t.Error(m.state(1).Signals, m.state(2).Signals)
	}
	m.blocks(1, api.WaitChild)
	m.want(2, exited(2, 4))
	if m.state(3).Parent != 1 || m.state(4).Parent != 1 || !slices.Equal(m.k.Queue(0), []int{4, 1}) {
		t.Error(m.state(3), m.state(4), m.k.Queue(0))
	}
	m.answers(1, api.SysWait, 2)
	m.answers(1, api.SysWait, 3)
}

// 1 is not told, as long as no child that it gets is a zombie.
func TestP18_1_ExitOfGrandchild(t *testing.T) {
	for _, dead := range []bool{false, true} {
		m := begin(t, fork("top"), ask(api.SysWait, 0), spin("me"), "top:/", fork("mid"), spin("a"), "mid:/", fork("low"), ask(api.SysExit, 4), "low:/", ask(api.SysExit, 5))
		m.answers(1, api.SysFork, 2)
		m.answers(2, api.SysFork, 3)
		m.answers(3, api.SysFork, 4)
		m.blocks(1, api.WaitChild)
		if dead {
			m.want(4, exited(4, 5))
		}
		m.want(3, exited(3, 4))
		if m.state(4).Parent != 1 || (m.state(1).Wait == api.WaitNone) != dead {
			t.Error(dead, m.state(1), m.state(4))
		}
	}
}

// One who waits for a child becomes Ready by each that exits, and is not told EINTR then, even if it handles 12.
func TestP18_1_ExitOfChild(t *testing.T) {
	m := begin(t, ask(api.SysHandle, 12, 4*300), fork("kid"), ask(api.SysWait, 0), spin("me"), "kid:/", ask(api.SysExit, 5))
	m.answers(1, api.SysHandle, 0)
	m.answers(1, api.SysFork, 2)
	m.blocks(1, api.WaitChild)
	cpu := m.state(1).Cpu
	m.want(2, exited(2, 5))
	m.want(1, delivered(1, 12))
	if m.state(1).Saved != cpu {
		t.Error("it does its call again behind its handler")
	}
}

// One who waits elsewhere is interrupted by 12, if it handles that.
func TestP18_1_ExitInterrupts(t *testing.T) {
	m := begin(t, fork("kid"), ask(api.SysSleep, 9), ask(api.SysHandle, 12, 8), ask(api.SysSleep, 9), spin("me"), "kid:/", fork("late"), ask(api.SysExit, 5), "late:/", ask(api.SysExit, 6))
	m.answers(1, api.SysFork, 2)
	m.answers(2, api.SysFork, 3)
	m.blocks(1, api.WaitSleep)
	m.want(2, exited(2, 5)) // ignored: it sleeps on
	if p := m.state(1); p.Wait != api.WaitSleep || p.Left != 9 {
		t.Errorf("%+v", p)
	}
	for range 8 {
		m.ticks()
	}
	m.ticks(result(1, api.SysSleep, 0))
	m.answers(1, api.SysHandle, 0)
	m.blocks(1, api.WaitSleep)
	m.want(3, exited(3, 6), result(1, api.SysSleep, minus(api.EINTR)))
	m.want(1, delivered(1, 12))
}

func TestP18_1_Halts(t *testing.T) {
	m := begin(t, ask(api.SysPipe, data), fork("reads"), fork("writes"), fork("cold"), spin("me"),
		"reads:/", ask(api.SysClose, 1), ask(api.SysRead, 0, data, 1), spin("a"),
		"writes:/", ask(api.SysClose, 1), ask(api.SysClose, 0), spin("b"), spin("cold"))
	m.answers(1, api.SysPipe, 0)
	for pid := 2; pid <= 4; pid++ {
		m.answers(1, api.SysFork, uint32(pid))
	}
	m.answers(2, api.SysClose, 0)
	m.blocks(2, api.WaitRead)
	m.answers(3, api.SysClose, 0)
	if _, e := m.k.Freeze(4); e != api.OK {
		t.Fatal(e)
	}
	m.step(1)
	cpu := m.state(1).Cpu
	m.signals(1, 15)
	m.same(m.step(1), exited(1, 143))
	if !m.k.Halted() {
		t.Fatal("it goes on")
	}
	// its files are dropped: who waited to read is Ready
	if m.state(2).Wait != api.WaitNone || !slices.Equal(m.k.Queue(0), []int{3, 2}) {
		t.Error(m.state(2), m.k.Queue(0))
	}
	p := m.state(1)
	if p.State != api.ProcLive || len(p.Pages) > 0 || p.Cpu != cpu || !slices.Equal(p.Fds, noFds()) || m.k.Page(1, 0) != nil {
		t.Errorf("%+v", p)
	}
	halted(t, m)
}

// halted holds each call of a machine against what it has to answer when that has halted: 2 is live, 4 is frozen.
func halted(t *testing.T, m *machine) {
	was := m.all()
	k := m.k
	none := func(name string, l []api.Seen, e api.Errno) {
		if len(l) > 0 || e != api.ErrHalt {
			t.Error(name, l, e)
		}
	}
	for core := -1; core < 3; core++ {
		l, e := k.Step(core, 0)
		none("step", l, e)
		l, e = k.Run(core, 2)
		none("run", l, e)
		none("rotate", nil, k.Rotate(core))
	}
	l, e := k.Tick()
	none("tick", l, e)
	for pid := range 6 {
		l, e = k.Signal(pid, 5)
		none("signal", l, e)
		l, e = k.Nudge(pid)
		none("nudge", l, e)
		none("move", nil, k.Move(pid, 1))
		frozen, e := k.Freeze(pid)
		if len(frozen) > 0 {
			t.Error(frozen)
		}
		none("freeze", nil, e)
		none("add", nil, k.Add(api.Process{Pid: pid, State: api.ProcLive, Affinity: 1}))
		none("add", nil, k.Add(api.Process{Pid: pid}))
	}
	if d := unlike(was, m.all()); d != "" {
		t.Error(d)
	}
	if k.May(4, 0) != api.OK || k.May(2, 1) != api.ErrBusy || k.Next() != 5 || k.Clean(2) != 32 || len(k.Dirty(2)) != 0 {
		t.Error("what only tells goes on")
	}
	n, e := k.Frame([]byte{7})
	if e != api.OK || k.Refs(n) != 1 || k.Unframe(n) != api.OK || k.Unframe(n) != api.ErrFrame {
		t.Error(n, e)
	}
	slot, e := k.AddPipe(api.PipeState{Readers: 1})
	if e != api.OK {
		t.Error(e)
	}
	file, e := k.AddFile(api.File{Pipe: slot})
	if e != api.OK || k.Unfile(file) != api.OK || k.Unfile(file) != api.ErrFile {
		t.Error(file, e)
	}
	if e := k.AddWait(api.Waiter{Pid: 2, Key: api.Key{Pid: 2}}); e != api.ErrKernel {
		t.Error(e)
	}
}

func TestP18_1_Fork(t *testing.T) {
	m := begin(t, "jmp main/", ask(api.SysFork), spin("me"), "main:/", ask(api.SysPipe, data), ask(api.SysMap, 40, 2, 1), ask(api.SysMap, 42, 1, 3), ask(api.SysMap, 43, 1, 0), ask(api.SysAffinity, 2), ask(api.SysHandle, 5, 4), ask(api.SysMask, 8), "li 5 55/li 4 -44/zset 1 4/", spin("you"))
	m.does(1, []asked{does(api.SysPipe, 0), does(api.SysMap, 0), does(api.SysMap, 0), does(api.SysMap, 0), does(api.SysAffinity, 3), does(api.SysHandle, 0), does(api.SysMask, 0)})
	for range 5 {
		m.step(1)
	}
	m.signals(1, 5)
	m.want(1, delivered(1, 5))
	m.signals(1, 3)
	m.signals(1, 6)
	m.pcOfCall(1)
	before, room := m.state(1), m.k.Room()
	m.answers(1, api.SysFork, 2)
	p, c := m.state(1), m.state(2)
	want := before
	want.Cpu.R[0], want.Cpu.Pc = 2, before.Cpu.Pc+4
	want.Pages = slices.Clone(before.Pages)
	for i := range want.Pages {
		x := &want.Pages[i].Entry
		x.Cow = x.Write && !x.Shared
		if m.k.Refs(x.Frame) != 2 {
			t.Error(i, m.k.Refs(x.Frame))
		}
	}
	if !reflect.DeepEqual(p, want) {
		t.Errorf("%+v is not %+v", p, want)
	}
	want.Pid, want.Parent, want.Cpu.R[0], want.Signals.Pending = 2, 1, 0, 0
	if !reflect.DeepEqual(c, want) {
		t.Errorf("%+v is not %+v", c, want)
	}
	if !c.Signals.Busy || c.Signals.Mask != 8 || c.Signals.Handlers[5] != 4 || c.Saved != before.Saved || c.Saved.Z[1] != -44+55i || c.Core != 1 || p.Signals.Pending != 1<<3|1<<6 {
		t.Errorf("%+v", c)
	}
	room.Procs--
	if m.k.Room() != room || !slices.Equal(m.k.Queue(1), []int{1, 2}) || !slices.Equal(m.k.Tree(1), []int{1, 2}) {
		t.Error(m.k.Room(), m.k.Queue(1))
	}
}

func TestP18_1_ForkRefused(t *testing.T) {
	b := api.Boot{Cores: 1, Frames: 1, Procs: 3, Pipe: 1, Program: words(t, "again:/"+ask(api.SysFork)+"jnz 0 again/"+spin("kid"))}
	m := start(t, b)
	m.does(1, []asked{does(api.SysFork, 2), does(api.SysFork, 3), fails(api.SysFork, api.EAGAIN), fails(api.SysFork, api.EAGAIN)})
	if m.k.Refs(0) != 3 || m.k.Room() != (api.Room{Frames: 0, Procs: 0, Files: 64, Pipes: 16}) {
		t.Error(m.k.Refs(0), m.k.Room()) // a clone takes no frame
	}
}

// A child reads what was there, whatever its parent writes then, and the other way about; both read alike what is Shared.
func TestP18_1_ForkMemory(t *testing.T) {
	m := begin(t, ask(api.SysMap, 60, 1, 3), store(data, 7), store(3840, 8), fork("kid"), store(data, 9), store(3840, 10), spin("me"), "kid:/", store(data+4, 11), store(3844, 12), spin("a"))
	m.answers(1, api.SysMap, 0)
	m.answers(1, api.SysFork, 2)
	for range 12 {
		m.step(1)
		m.step(2)
	}
	for _, c := range []struct {
		pid  int
		a, v uint32
	}{{1, data, 9}, {2, data, 7}, {1, data + 4, 0}, {2, data + 4, 11}, {1, 3840, 10}, {2, 3840, 10}, {1, 3844, 12}, {2, 3844, 12}} {
		if m.at(c.pid, c.a) != c.v {
			t.Error(c, m.at(c.pid, c.a))
		}
	}
}

func TestP18_1_Wait(t *testing.T) {
	m := begin(t, fork("kid"), fork("kid"), fork("kid"), ask(api.SysWait, data), ask(api.SysWait, 0), ask(api.SysWait, data+1), ask(api.SysWait, 0), ask(api.SysWait, 1<<31), spin("me"),
		"kid:/", ask(api.SysGetpid), "mov 1 0/li 0 1/shl 1 0/sys/")
	m.does(1, []asked{does(api.SysFork, 2), does(api.SysFork, 3), does(api.SysFork, 4)})
	start := m.at(1, 0)
	m.blocks(1, api.WaitChild)
	m.answers(4, api.SysGetpid, 4)
	m.want(4, exited(4, 8))
	m.answers(2, api.SysGetpid, 2)
	m.want(2, exited(2, 4)) // the least zombie is told
	m.answers(1, api.SysWait, 2)
	if m.at(1, data) != 4 {
		t.Error(m.at(1, data))
	}
	m.answers(1, api.SysWait, 4)
	if m.at(1, data) != 4 || m.at(1, 0) != start {
		t.Error("of address 0 nothing is written")
	}
	m.blocks(1, api.WaitChild)
	m.answers(3, api.SysGetpid, 3)
	m.want(3, exited(3, 6))
	m.answers(1, api.SysWait, 3)
	if m.at(1, data+1) != 6 || m.at(1, data) != 6<<8|4 {
		t.Error(m.at(1, data+1))
	}
	m.refused(1, api.SysWait, api.ECHILD)
	m.refused(1, api.SysWait, api.ECHILD)
}

// The address of the status is looked at when there is a zombie; a code leaves that.
func TestP18_1_WaitRefused(t *testing.T) {
	bad := []uint32{2048, 4094, 4096, 1 << 31, 1<<32 - 1, 1<<32 - 4, 2045, 2560, 2558}
	var waits string
	for _, a := range bad {
		waits += ask(api.SysWait, a)
	}
	m := begin(t, ask(api.SysMap, 39, 1, 1), ask(api.SysMap, 40, 1, 0), ask(api.SysMap, 63, 1, 1), fork("kid"), waits, ask(api.SysWait, data), ask(api.SysWait, data), spin("me"), "kid:/", fork("late"), ask(api.SysExit, 5), "late:/", ask(api.SysSleep, 1), ask(api.SysExit, 6))
	m.does(1, []asked{does(api.SysMap, 0), does(api.SysMap, 0), does(api.SysMap, 0), does(api.SysFork, 2)})
	m.blocks(1, api.WaitChild)
	m.answers(2, api.SysFork, 3)
	m.want(2, exited(2, 5))
	for range bad {
		m.refused(1, api.SysWait, api.EFAULT)
	}
	m.hold(0)
	m.refused(1, api.SysWait, api.ENOMEM) // the page is Cow: 3 has its frame, too
	m.let()
	m.answers(1, api.SysWait, 2)
	if m.at(1, data) != 5 || m.at(3, data) != 0 {
		t.Error(m.at(1, data), m.at(3, data))
	}
}

func TestP18_1_Getpid(t *testing.T) {
	m := begin(t, ask(api.SysGetpid), ask(api.SysGetppid), fork("top"), spin("me"), "top:/", fork("kid"), ask(api.SysGetppid), ask(api.SysExit, 0), "kid:/", ask(api.SysGetpid), ask(api.SysGetppid), ask(api.SysGetppid), spin("a"))
	m.does(1, []asked{does(api.SysGetpid, 1), does(api.SysGetppid, 0), does(api.SysFork, 2)})
	m.does(2, []asked{does(api.SysFork, 3), does(api.SysGetppid, 1)})
	m.does(3, []asked{does(api.SysGetpid, 3), does(api.SysGetppid, 2)})
	m.want(2, exited(2, 0))
	m.answers(3, api.SysGetppid, 1)
}

func TestP18_1_Pipe(t *testing.T) {
	m := alone(t,
		does(api.SysPipe, 0, data), does(api.SysPipe, 0, data+8), does(api.SysClose, 0, 0), does(api.SysClose, 0, 2),
		does(api.SysPipe, 0, data+17), does(api.SysDup, 4, 1), does(api.SysPipe, 0, data+32), fails(api.SysPipe, api.EMFILE, data+40))
	for i, want := range []uint32{0, 1, 2, 3} {
		if w := m.at(1, data+4*uint32(i)); w != want {
			t.Error(i, w)
		}
	}
	if m.at(1, data+17) != 0 || m.at(1, data+21) != 2 || m.at(1, data+32) != 5 || m.at(1, data+36) != 6 || m.at(1, data+40) != 0 {
		t.Error("the two least free descriptors")
	}
	if p := m.state(1); !slices.Equal(p.Fds, []int{0, 1, 2, 3, 1, 4, 5, -1}) {
		t.Error(p.Fds)
	}
	for n, want := range []api.File{{Pipe: 2}, {Pipe: 0, Write: true}, {Pipe: 2, Write: true}, {Pipe: 1, Write: true}, {Pipe: 3}, {Pipe: 3, Write: true}} {
		refs := 1
		if n == 1 {
			refs = 2
		}
		if x, many := m.k.File(n); x != want || many != refs {
			t.Error(n, x, many)
		}
	}
	for slot, want := range []api.PipeState{{Writers: 1}, {Writers: 1}, {Readers: 1, Writers: 1}, {Readers: 1, Writers: 1}} {
		if x, ok := m.k.Pipe(slot); !ok || !reflect.DeepEqual(x, want) {
			t.Error(slot, x, ok)
		}
	}
}

func TestP18_1_PipeRefused(t *testing.T) {
	m := begin(t, ask(api.SysPipe, 2048), ask(api.SysPipe, 2041), ask(api.SysPipe, 1<<32-4), ask(api.SysMap, 40, 1, 0), ask(api.SysPipe, 2560), ask(api.SysPipe, 2556), fork("kid"), ask(api.SysPipe, data), ask(api.SysPipe, data), "kid:/", spin("me"))
	m.does(1, []asked{fails(api.SysPipe, api.EFAULT), fails(api.SysPipe, api.EFAULT), fails(api.SysPipe, api.EFAULT), does(api.SysMap, 0), fails(api.SysPipe, api.EFAULT), fails(api.SysPipe, api.EFAULT), does(api.SysFork, 2)})
	m.hold(0)
	m.refused(1, api.SysPipe, api.ENOMEM)
	m.let()
	m.answers(1, api.SysPipe, 0)
	if !slices.Equal(m.state(1).Fds, []int{0, 1, -1, -1, -1, -1, -1, -1}) {
		t.Error(m.state(1).Fds)
	}
}

// fill adds pipes and open files beside the processes': so many pipes, and files.
func (m *machine) fill(pipes, files int) {
	m.t.Helper()
	for i := range pipes {
		many := 1
		if i == 0 {
			many = files - pipes + 1
		}
		slot, e := m.k.AddPipe(api.PipeState{Readers: many})
		if e != api.OK {
			m.t.Fatal(e)
		}
		for range many {
			n, e := m.k.AddFile(api.File{Pipe: slot})
			if e != api.OK {
				m.t.Fatal(e)
			}
			m.files[n]++
		}
	}
	m.check()
}

func TestP18_1_PipeWithoutRoom(t *testing.T) {
	for _, c := range []struct{ pipes, files, code int }{
		{1, 62, 0}, {1, 63, api.ENFILE}, {1, 64, api.ENFILE}, {15, 15, 0}, {16, 16, api.ENFILE}, {15, 62, 0}, {15, 63, api.ENFILE}, {16, 64, api.ENFILE},
	} {
		m := begin(t, ask(api.SysPipe, data), spin("me"))
		m.fill(c.pipes, c.files)
		if c.code != 0 {
			m.refused(1, api.SysPipe, c.code)
		} else {
			m.answers(1, api.SysPipe, 0)
		}
	}
	// the descriptors are looked at ahead of the files, and these ahead of the address
	m := begin(t, ask(api.SysPipe, data), ask(api.SysPipe, data), ask(api.SysPipe, data), ask(api.SysDup, 0), ask(api.SysPipe, 4096), ask(api.SysClose, 0), ask(api.SysPipe, 4096), ask(api.SysDup, 1), ask(api.SysDup, 1), ask(api.SysPipe, 4096), spin("me"))
	m.does(1, []asked{does(api.SysPipe, 0), does(api.SysPipe, 0), does(api.SysPipe, 0), does(api.SysDup, 6)})
	m.fill(13, 58)
	m.does(1, []asked{fails(api.SysPipe, api.EMFILE), does(api.SysClose, 0), fails(api.SysPipe, api.ENFILE), does(api.SysDup, 0), does(api.SysDup, 7), fails(api.SysPipe, api.EMFILE)})
}

func TestP18_1_ReadWrite(t *testing.T) {
	m := begin(t, ask(api.SysPipe, data), store(data+8, 0x64636261), store(data+12, 0x68676665), store(data+16, 0x6c6b6a69),
		ask(api.SysWrite, 1, data+9, 3), ask(api.SysWrite, 1, data+8, 0), ask(api.SysRead, 0, data+64, 0), ask(api.SysRead, 0, data+64, 2), ask(api.SysWrite, 1, data+8, 4096), ask(api.SysRead, 0, data+128, 3), ask(api.SysRead, 0, data+192, 4096), spin("me"))
	m.answers(1, api.SysPipe, 0)
	pipe := func(want string) {
		t.Helper()
		if x, ok := m.k.Pipe(0); !ok || string(x.Bytes) != want || x.Readers != 1 || x.Writers != 1 {
			t.Errorf("%q", x.Bytes)
		}
	}
	memory := func(a uint32, want string) {
		t.Helper()
		b := m.k.Page(1, int(a/64))
		if string(b) != want+strings.Repeat("\x00", 64-len(want)) {
			t.Errorf("%q", b)
		}
	}
	m.answers(1, api.SysWrite, 3)
	pipe("bcd")
	m.answers(1, api.SysWrite, 0)
	pipe("bcd")
	m.answers(1, api.SysRead, 0)
	pipe("bcd")
	memory(data+64, "")
	m.answers(1, api.SysRead, 2)
	pipe("d")
	memory(data+64, "bc")
	m.answers(1, api.SysWrite, 7)
	pipe("dabcdefg")
	m.answers(1, api.SysRead, 3)
	pipe("cdefg")
	memory(data+128, "dab")
	m.answers(1, api.SysRead, 5)
	pipe("")
	memory(data+192, "cdefg")
}

func TestP18_1_NoEnd(t *testing.T) {
	for _, fd := range []uint32{2, 7, 8, 63, 1 << 31, 1<<32 - 1} {
		m := begin(t, ask(api.SysPipe, data), ask(api.SysRead, fd, data, 4097), ask(api.SysWrite, fd, data, 4097), ask(api.SysClose, fd), ask(api.SysDup, fd), ask(api.SysRead, 1, data, 1), ask(api.SysWrite, 0, data, 1), spin("me"))
		m.does(1, []asked{does(api.SysPipe, 0), fails(api.SysRead, api.EBADF), fails(api.SysWrite, api.EBADF), fails(api.SysClose, api.EBADF), fails(api.SysDup, api.EBADF), fails(api.SysRead, api.EBADF), fails(api.SysWrite, api.EBADF)})
	}
	for _, many := range []uint32{4097, 1 << 31, 1<<32 - 1} {
		m := begin(t, ask(api.SysPipe, data), ask(api.SysRead, 0, data, many), ask(api.SysWrite, 1, data, many), ask(api.SysClose, 0), ask(api.SysWrite, 1, data, many), spin("me"))
		m.does(1, []asked{does(api.SysPipe, 0), fails(api.SysRead, api.EINVAL), fails(api.SysWrite, api.EINVAL), does(api.SysClose, 0), fails(api.SysWrite, api.EINVAL)})
	}
}

func TestP18_1_ReadWriteRefused(t *testing.T) {
	alone(t, does(api.SysPipe, 0, data), does(api.SysMap, 0, 40, 1, 0),
		does(api.SysRead, 0, 0, 4096, 0), does(api.SysWrite, 0, 1, 4096, 0),
		fails(api.SysWrite, api.EFAULT, 1, 4096, 1), fails(api.SysWrite, api.EFAULT, 1, 2041, 8), does(api.SysWrite, 7, 1, 2041, 7),
		does(api.SysWrite, 1, 1, 2047, 4096), // there is room for one alone, and that one is there
		fails(api.SysRead, api.EFAULT, 0, 4096, 1), fails(api.SysRead, api.EFAULT, 0, 2041, 4096), fails(api.SysRead, api.EFAULT, 0, 2560, 1),
		does(api.SysRead, 0, 0, 4096, 0), does(api.SysWrite, 0, 1, 4096, 0), does(api.SysRead, 8, 0, 2040, 4096),
		does(api.SysWrite, 8, 1, 2560, 9)) // what is not Write is read all the same
}
