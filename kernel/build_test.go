package kernel_test

import (
	"bytes"
	"reflect"
	"slices"
	"testing"

	"carryall/api"
	"carryall/kernel"
)

// none are kernels that New did not make.
func none() []*kernel.Kernel { return []*kernel.Kernel{nil, {}, new(kernel.Kernel)} }

func TestP18_1_None(t *testing.T) {
	for _, k := range none() {
		for n := -1; n < 3; n++ {
			if l, e := k.Step(n, 0); len(l) > 0 || e != api.ErrNil {
				t.Error(l, e)
			}
			if l, e := k.Run(n, 1); len(l) > 0 || e != api.ErrNil {
				t.Error(l, e)
			}
			if l, e := k.Signal(n, n); len(l) > 0 || e != api.ErrNil {
				t.Error(l, e)
			}
			if l, e := k.Freeze(n); len(l) > 0 || e != api.ErrNil {
				t.Error(l, e)
			}
			if l, e := k.Nudge(n); len(l) > 0 || e != api.ErrNil {
				t.Error(l, e)
			}
			if k.Rotate(n) != api.ErrNil || k.Unframe(n) != api.ErrNil || k.Unfile(n) != api.ErrNil || k.May(n, n) != api.ErrNil || k.Move(n, 1) != api.ErrNil {
				t.Error(n)
			}
			if e := k.Add(api.Process{Pid: n, State: n, Affinity: 1}); e != api.ErrNil {
				t.Error(e)
			}
			if e := k.AddWait(api.Waiter{Pid: n, Key: api.Key{Pid: n}}); e != api.ErrNil {
				t.Error(e)
			}
			if f, e := k.AddFile(api.File{Pipe: n}); f != 0 || e != api.ErrNil {
				t.Error(f, e)
			}
			if p, e := k.AddPipe(api.PipeState{Readers: n}); p != 0 || e != api.ErrNil {
				t.Error(p, e)
			}
		}
		if l, e := k.Tick(); len(l) > 0 || e != api.ErrNil {
			t.Error(l, e)
		}
		for _, many := range []int{0, 64, 65} {
			if n, e := k.Frame(make([]byte, many)); n != 0 || e != api.ErrNil {
				t.Error(n, e)
			}
		}
	}
}

func TestP18_2_None(t *testing.T) {
	for _, k := range none() {
		for n := -1; n < 3; n++ {
			p, ok := k.Process(n)
			if !reflect.DeepEqual(p, api.Process{}) || ok {
				t.Error(p, ok)
			}
			x, is := k.Pipe(n)
			if !reflect.DeepEqual(x, api.PipeState{}) || is {
				t.Error(x, is)
			}
			if f, refs := k.File(n); f != (api.File{}) || refs != 0 {
				t.Error(f, refs)
			}
			if k.Page(n, 0) != nil || len(k.Queue(n)) > 0 || len(k.Tree(n)) > 0 || k.Refs(n) != 0 || len(k.Dirty(n)) > 0 || k.Clean(n) != 0 {
				t.Error(n)
			}
		}
		if k.Cores() != 0 || k.Halted() || len(k.Pids()) > 0 || k.Capacity() != 0 || len(k.Waiters()) > 0 || k.Room() != (api.Room{}) || k.Next() != 0 {
			t.Error("a machine that is none has something")
		}
	}
}

func TestP18_2_NotThere(t *testing.T) {
	m := kills(t)
	for _, pid := range []int{-1 << 62, -1, 0, 6, 99, 65536, 1 << 62} {
		if p, ok := m.k.Process(pid); ok || !reflect.DeepEqual(p, api.Process{}) {
			t.Error(pid, p)
		}
		if m.k.Page(pid, 0) != nil || len(m.k.Tree(pid)) > 0 || len(m.k.Dirty(pid)) > 0 || m.k.Clean(pid) != 0 {
			t.Error(pid)
		}
	}
	for _, n := range []int{-1 << 62, -1, 0, 15, 16, 63, 64, 256, 1 << 62} {
		if x, ok := m.k.Pipe(n); ok || !reflect.DeepEqual(x, api.PipeState{}) {
			t.Error(n, x)
		}
		if x, refs := m.k.File(n); x != (api.File{}) || refs != 0 {
			t.Error(n, x, refs)
		}
	}
	for _, n := range []int{-1 << 62, -1, 255, 256, 1 << 62} {
		if m.k.Refs(n) != 0 {
			t.Error(n, m.k.Refs(n))
		}
	}
	for _, page := range []int{-1 << 62, -1, 32, 63, 64, 1 << 62} {
		if m.k.Page(1, page) != nil {
			t.Error(page)
		}
	}
	for _, core := range []int{-1 << 62, -1, 1, 2, 8, 1 << 62} {
		if len(m.k.Queue(core)) > 0 {
			t.Error(core)
		}
	}
}

func TestP18_2_States(t *testing.T) {
	m := kills(t)
	for pid, want := range map[int]api.Process{
		3: {Pid: 3, Parent: 1, State: api.ProcZombie, Status: 3},
		4: {Pid: 4, Parent: 1, State: api.ProcFrozen, Signals: api.Signals{Pending: 1 << 12}},
		5: {Pid: 5, Parent: 4, State: api.ProcFrozen},
	} {
		if p := m.state(pid); !reflect.DeepEqual(p, want) {
			t.Errorf("%+v", p)
		}
		if m.k.Page(pid, 0) != nil || len(m.k.Dirty(pid)) > 0 {
			t.Error(pid)
		}
	}
	if !slices.Equal(m.k.Pids(), []int{1, 2, 3, 4, 5}) || !slices.Equal(m.k.Tree(4), []int{4, 5}) || !slices.Equal(m.k.Tree(1), []int{1, 2, 3, 4, 5}) || m.k.Next() != 6 {
		t.Error(m.k.Pids(), m.k.Tree(4))
	}
	if m.k.Room() != (api.Room{Frames: 256 - 32, Procs: 27, Files: 64, Pipes: 16}) {
		t.Error(m.k.Room())
	}
}

func TestP18_2_Waits(t *testing.T) {
	for wait := api.WaitChild; wait <= api.WaitSleep; wait++ {
		m := waits(t, wait)
		p := m.state(2)
		want := api.Process{
			Pid: 2, Parent: 1, State: api.ProcLive, Cpu: p.Cpu, Signals: p.Signals, Wait: wait,
			Fds: []int{0, 1, -1, -1, -1, -1, -1, -1}, Affinity: 3, Pages: p.Pages,
		}
		want.Signals.Mask, want.Signals.Handlers[5], want.Signals.Handlers[6] = 1<<7, 4, 1
		switch wait {
		case api.WaitFutex:
			want.Key = api.Key{Pid: 2, Off: data}
		case api.WaitSleep:
			want.Left = 9
		}
		if !reflect.DeepEqual(p, want) {
			t.Errorf("%+v", p)
		}
	}
}

func TestP18_3_Freeze(t *testing.T) {
	m := kills(t)
	was := m.all()
	for _, pid := range []int{-1 << 62, -1, 0, 1, 3, 4, 5, 6, 99} {
		if l, e := m.k.Freeze(pid); len(l) > 0 || e != api.ErrKernel {
			t.Error(pid, l, e)
		}
	}
	if d := unlike(was, m.all()); d != "" {
		t.Error(d)
	}
	m.signals(2, 7)
	m.signals(2, 9)
	if l, e := m.k.Freeze(2); e != api.OK || !slices.Equal(l, []int{2}) {
		t.Error(l, e)
	}
	m.check()
	if p := m.state(2); !reflect.DeepEqual(p, api.Process{Pid: 2, Parent: 1, State: api.ProcFrozen, Signals: api.Signals{Pending: 1<<7 | 1<<9}}) {
		t.Errorf("%+v", p)
	}
}

// tree is a machine of a tree of 2: of each kind of Wait one, one that is Ready, a zombie; and outside of it 3, that waits to read what 2 alone writes, and 1, that waits for a child.
func tree(t *testing.T) *machine {
	m := begin(t, ask(api.SysPipe, data), fork("top"), fork("reads"), ask(api.SysClose, 1), ask(api.SysWait, 0), spin("me"),
		"reads:/", ask(api.SysClose, 1), ask(api.SysRead, 0, data, 1), spin("c"),
		"top:/", ask(api.SysPipe, data), ask(api.SysPipe, data), ask(api.SysWrite, 5, 0, 8), fork("r"), fork("w"), fork("f"), fork("s"), fork("z"), spin("a"),
		"r:/", ask(api.SysRead, 2, data, 1), "w:/", ask(api.SysWrite, 5, 0, 1), "f:/", ask(api.SysFutexwait, data+8, 0), "s:/", ask(api.SysSleep, 3), "z:/", ask(api.SysExit, 1))
	m.does(1, []asked{does(api.SysPipe, 0), does(api.SysFork, 2), does(api.SysFork, 3), does(api.SysClose, 0)})
	m.answers(3, api.SysClose, 0)
	m.does(2, []asked{does(api.SysPipe, 0), does(api.SysPipe, 0), does(api.SysWrite, 8), does(api.SysFork, 4), does(api.SysFork, 5), does(api.SysFork, 6), does(api.SysFork, 7), does(api.SysFork, 8)})
	m.blocks(1, api.WaitChild)
	m.blocks(3, api.WaitRead)
	for i, wait := range []int{api.WaitRead, api.WaitWrite, api.WaitFutex, api.WaitSleep} {
		m.blocks(4+i, wait)
	}
	m.want(8, exited(8, 1))
	return m
}

func TestP18_3_FreezeTree(t *testing.T) {
	m := tree(t)
	one, three := m.state(1), m.state(3)
	m.signals(7, 12)
	l, e := m.k.Freeze(2)
	if e != api.OK || !slices.Equal(l, []int{2, 4, 5, 6, 7, 8}) {
		t.Error(l, e)
	}
	m.check()
	if p := m.state(1); p.Wait != api.WaitChild || p.Signals != one.Signals || p.Cpu != one.Cpu { // nobody is told
		t.Errorf("%+v", p)
	}
	if p := m.state(3); p.Wait != api.WaitNone || p.Cpu != three.Cpu || p.Signals != three.Signals { // but who waits at its pipes
		t.Errorf("%+v", p)
	}
	if !slices.Equal(m.k.Queue(0), []int{3}) || len(m.k.Queue(1)) > 0 || len(m.k.Waiters()) > 0 {
		t.Error(m.k.Queue(0), m.k.Waiters())
	}
	for _, pid := range l {
		want := api.Process{Pid: pid, Parent: 2, State: api.ProcFrozen}
		switch pid {
		case 2:
			want.Parent, want.Signals.Pending = 1, 1<<12
		case 7:
			want.Signals.Pending = 1 << 12
		}
		if p := m.state(pid); !reflect.DeepEqual(p, want) {
			t.Errorf("%+v", p)
		}
	}
	if m.k.Room() != (api.Room{Frames: 256 - 2*32 + m.shared(1, 3), Procs: 24, Files: 63, Pipes: 15}) {
		t.Error(m.k.Room())
	}
	for range 4 { // 7 sleeps no more
		m.ticks()
	}
	m.answers(3, api.SysRead, 0)
}

// shared is how many frames two have both.
func (m *machine) shared(one, other int) int {
	had, n := map[int]bool{}, 0
	for _, x := range m.state(one).Pages {
		had[x.Entry.Frame] = true
	}
	for _, x := range m.state(other).Pages {
		if had[x.Entry.Frame] {
			n++
		}
	}
	return n
}

// One that waits at a pipe of which it alone has both sides is told of nothing when it is frozen.
func TestP18_3_FreezeOfItsOwnPipe(t *testing.T) {
	for _, wait := range []int{api.WaitRead, api.WaitWrite} {
		m := waits(t, wait)
		if l, e := m.k.Freeze(2); e != api.OK || !slices.Equal(l, []int{2}) {
			t.Error(l, e)
		}
		m.check()
		if m.k.Room().Pipes != 16 || m.k.Room().Files != 64 {
			t.Error(m.k.Room())
		}
		if p := m.state(2); !reflect.DeepEqual(p, api.Process{Pid: 2, Parent: 1, State: api.ProcFrozen}) { // of its signals the pending ones alone are kept
			t.Errorf("%+v", p)
		}
	}
}

func TestP18_4_Frame(t *testing.T) {
	m := short(t, 4, spin("me"))
	text := make([]byte, 65)
	for i := range text {
		text[i] = byte(1 + i)
	}
	for i, many := range []int{0, 1, 64} {
		b := slices.Clone(text[:many])
		n, e := m.k.Frame(b)
		if e != api.OK || n != 1+i || m.k.Refs(n) != 1 {
			t.Error(n, e)
		}
		clear(b) // it is not kept
		if e := m.k.Add(api.Process{Pid: 2 + i, Parent: 1, State: api.ProcLive, Affinity: 1, Pages: []api.Mapped{{Page: 9, Entry: api.Entry{Frame: n}}}}); e != api.OK {
			t.Fatal(e)
		}
		want := append(slices.Clone(text[:many]), make([]byte, 64-many)...)
		if !bytes.Equal(m.k.Page(2+i, 9), want) {
			t.Error(m.k.Page(2+i, 9))
		}
	}
	for _, many := range []int{65, 66, 4096} {
		if n, e := m.k.Frame(make([]byte, many)); n != 0 || e != api.ErrArg {
			t.Error(n, e)
		}
	}
	for _, many := range []int{0, 64} {
		if n, e := m.k.Frame(text[:many]); n != 0 || e != api.ErrFrames {
			t.Error(n, e)
		}
	}
	for n := 1; n < 4; n++ {
		if e := m.k.Unframe(n); e != api.OK || m.k.Refs(n) != 1 {
			t.Error(n, e)
		}
	}
	m.check()
	if n, e := m.k.Frame(nil); n != 0 || e != api.ErrFrames { // pages have them still
		t.Error(n, e)
	}
}

func TestP18_4_Unframe(t *testing.T) {
	m := short(t, 4, spin("me"))
	for _, n := range []int{-1 << 62, -1, 1, 3, 4, 256, 1 << 62} {
		if e := m.k.Unframe(n); e != api.ErrFrame {
			t.Error(n, e)
		}
	}
	n, _ := m.k.Frame([]byte("abc"))
	if m.k.Unframe(n) != api.OK || m.k.Refs(n) != 0 || m.k.Unframe(n) != api.ErrFrame {
		t.Error("it is taken still")
	}
	if again, e := m.k.Frame(nil); again != n || e != api.OK {
		t.Error(again, e)
	}
}

func TestP18_4_AddPipe(t *testing.T) {
	m := begin(t, spin("me"))
	nine := []byte("123456789")
	for _, c := range []struct {
		x api.PipeState
		e api.Errno
	}{
		{api.PipeState{Bytes: nine, Readers: 1}, api.ErrRing},
		{api.PipeState{Bytes: nine}, api.ErrRing},
		{api.PipeState{}, api.ErrPipe},
		{api.PipeState{Readers: -1, Writers: 1}, api.ErrPipe},
		{api.PipeState{Readers: 1, Writers: -1}, api.ErrPipe},
		{api.PipeState{Readers: 65}, api.ErrPipe},
		{api.PipeState{Writers: 65}, api.ErrPipe},
	} {
		if n, e := m.k.AddPipe(c.x); n != 0 || e != c.e {
			t.Error(c.x, n, e)
		}
	}
	good := []api.PipeState{{Bytes: nine[:8], Readers: 64, Writers: 64}, {Readers: 1}, {Bytes: nine[:1], Writers: 1}}
	for slot := range 16 {
		x := good[slot%3]
		x.Bytes = slices.Clone(x.Bytes)
		n, e := m.k.AddPipe(x)
		if n != slot || e != api.OK {
			t.Error(n, e)
		}
		clear(x.Bytes) // it is not kept
		want := good[slot%3]
		if y, ok := m.k.Pipe(slot); !ok || !bytes.Equal(y.Bytes, want.Bytes) || y.Readers != want.Readers || y.Writers != want.Writers {
			t.Error(y)
		}
		if m.k.Room().Pipes != 15-slot {
			t.Error(m.k.Room())
		}
	}
	if n, e := m.k.AddPipe(good[0]); n != 0 || e != api.ErrFiles {
		t.Error(n, e)
	}
	if n, e := m.k.AddPipe(api.PipeState{}); n != 0 || e != api.ErrPipe { // pipe's error is the first
		t.Error(n, e)
	}
}

func TestP18_4_AddFile(t *testing.T) {
	m := begin(t, spin("me"))
	m.k.AddPipe(api.PipeState{Readers: 64, Writers: 1})
	m.k.AddPipe(api.PipeState{Readers: 1})
	m.k.AddPipe(api.PipeState{Writers: 1})
	for _, x := range []api.File{{Pipe: -1 << 62}, {Pipe: -1}, {Pipe: 3}, {Pipe: 15}, {Pipe: 16}, {Pipe: 1 << 62}, {Pipe: 3, Write: true}, {Pipe: 1, Write: true}, {Pipe: 2}} {
		if n, e := m.k.AddFile(x); n != 0 || e != api.ErrPipe {
			t.Error(x, n, e)
		}
	}
	for i, x := range []api.File{{Pipe: 2, Write: true}, {Pipe: 1}, {Pipe: 0, Write: true}, {Pipe: 0}} {
		n, e := m.k.AddFile(x)
		if n != i || e != api.OK {
			t.Error(x, n, e)
		}
		if y, refs := m.k.File(n); y != x || refs != 1 {
			t.Error(y, refs)
		}
	}
	for n := 4; n < 64; n++ {
		if f, e := m.k.AddFile(api.File{}); f != n || e != api.OK {
			t.Error(f, e)
		}
	}
	if n, e := m.k.AddFile(api.File{}); n != 0 || e != api.ErrFiles {
		t.Error(n, e)
	}
	if n, e := m.k.AddFile(api.File{Pipe: 3}); n != 0 || e != api.ErrPipe {
		t.Error(n, e)
	}
	if x, _ := m.k.Pipe(0); x.Readers != 64 || x.Writers != 1 { // the counts have them already
		t.Error(x)
	}
}

func TestP18_4_Unfile(t *testing.T) {
	m := begin(t, spin("me"))
	for _, n := range []int{-1 << 62, -1, 0, 63, 64, 1 << 62} {
		if e := m.k.Unfile(n); e != api.ErrFile {
			t.Error(n, e)
		}
	}
	slot, _ := m.k.AddPipe(api.PipeState{Readers: 2, Writers: 2})
	var files []int
	for _, write := range []bool{false, false, true, true} {
		n, _ := m.k.AddFile(api.File{Pipe: slot, Write: write})
		files = append(files, n)
	}
	// 2 waits to read, and 1 writes: the last writer's Unfile tells it
	x := api.Process{Pid: 2, Parent: 1, State: api.ProcLive, Affinity: 2, Core: 1, Wait: api.WaitRead, Pipe: slot, Fds: files[:1]}
	if e := m.k.Add(x); e != api.OK {
		t.Fatal(e)
	}
	if e := m.k.Unfile(files[0]); e != api.OK {
		t.Error(e)
	}
	if f, refs := m.k.File(files[0]); f != (api.File{Pipe: slot}) || refs != 1 || m.state(2).Wait != api.WaitRead {
		t.Error(f, refs)
	}
	if e := m.k.Unfile(files[1]); e != api.OK {
		t.Error(e)
	}
	if p, _ := m.k.Pipe(slot); p.Readers != 1 || p.Writers != 2 || m.state(2).Wait != api.WaitRead {
		t.Error(p)
	}
	if e := m.k.Unfile(files[3]); e != api.OK {
		t.Error(e)
	}
	if p, _ := m.k.Pipe(slot); p.Readers != 1 || p.Writers != 1 || m.state(2).Wait != api.WaitRead {
		t.Error(p)
	}
	if e := m.k.Unfile(files[2]); e != api.OK {
		t.Error(e)
	}
	m.check()
	if m.state(2).Wait != api.WaitNone || !slices.Equal(m.k.Queue(1), []int{2}) {
		t.Error(m.state(2))
	}
	if e := m.k.Unfile(files[2]); e != api.ErrFile {
		t.Error(e)
	}
	if e := m.k.Unfile(files[0]); e != api.OK { // the last one of a pipe that nobody writes to
		t.Error(e)
	}
	if _, ok := m.k.Pipe(slot); ok {
		t.Error("it is there")
	}
}

func TestP18_4_May(t *testing.T) {
	m := kills(t)
	for _, c := range []struct {
		pid, parent int
		e           api.Errno
	}{{4, 1, api.OK}, {4, 0, api.OK}, {4, 2, api.ErrBusy}, {5, 4, api.OK}, {5, 0, api.OK}, {5, 1, api.ErrBusy}, {6, 1, api.OK}, {6, 2, api.OK}, {6, 4, api.OK}, {6, 3, api.ErrBusy}, {6, 0, api.ErrBusy}, {6, 99, api.ErrBusy},
		{1, 0, api.ErrBusy}, {2, 1, api.ErrBusy}, {3, 1, api.ErrBusy}, {65535, 1, api.OK}, {65536, 1, api.ErrBusy}, {0, 1, api.ErrBusy}, {-1, 1, api.ErrBusy}} {
		if e := m.k.May(c.pid, c.parent); e != c.e {
			t.Error(c, e)
		}
	}
	full := start(t, api.Boot{Cores: 1, Frames: 1, Procs: 1, Pipe: 1, Program: []uint32{0}})
	if e := full.k.May(2, 1); e != api.ErrFull {
		t.Error(e)
	}
}

// newcomer is a process that may be added to kills as 6, with all that one has: a page of each kind, files 0 and 1, which are ends of pipe 1 with these bytes; file 2 is one of pipe 0.
func newcomer(t *testing.T, m *machine, b string) api.Process {
	t.Helper()
	var frames []int
	for range 2 {
		n, e := m.k.Frame([]byte("abc"))
		if e != api.OK {
			t.Fatal(e)
		}
		frames = append(frames, n)
		m.frames[n]++
	}
	for slot, s := range []api.PipeState{{Readers: 1}, {Bytes: []byte(b), Readers: 1, Writers: 1}} {
		if n, e := m.k.AddPipe(s); n != slot || e != api.OK {
			t.Fatal(n, e)
		}
	}
	for n, f := range []api.File{{Pipe: 1}, {Pipe: 1, Write: true}, {Pipe: 0}} {
		if k, e := m.k.AddFile(f); k != n || e != api.OK {
			t.Fatal(k, e)
		}
		m.files[n]++
	}
	x := api.Process{
		Pid: 6, Parent: 1, State: api.ProcLive,
		Cpu:     api.Cpu{R: [8]uint32{7, 1, 2, 3, 4, 5, 6, 7}, Z: [2]complex128{1 + 2i, -3}, Pc: 8},
		Saved:   api.Cpu{R: [8]uint32{9}, Pc: 12},
		Signals: api.Signals{Pending: 1 << 3, Mask: 1 << 3, Busy: true},
		Fds:     []int{-1, 1, 0, -1, -1, 1, -1, -1}, Affinity: 2, Core: 1,
		Pages: []api.Mapped{
			{Page: 0, Entry: api.Entry{Frame: frames[0], Write: true, Cow: true, Dirty: true}},
			{Page: 7, Entry: api.Entry{Frame: frames[0], Write: true, Cow: true}},
			{Page: 8, Entry: api.Entry{Frame: frames[1], Shared: true}},
			{Page: 63, Entry: api.Entry{Frame: frames[1], Write: true, Shared: true, Dirty: true}},
		},
	}
	x.Signals.Handlers[5], x.Signals.Handlers[6] = 1, 400
	return x
}

func TestP18_4_Add(t *testing.T) {
	for wait := api.WaitNone; wait <= api.WaitSleep; wait++ {
		m := kills(t)
		full := ""
		if wait == api.WaitWrite {
			full = "12345678"
		}
		x := newcomer(t, m, full)
		x.Wait = wait
		switch wait {
		case api.WaitSleep:
			x.Left = 3
		case api.WaitRead, api.WaitWrite:
			x.Pipe = 1
		}
		given := x
		given.Fds, given.Pages = slices.Clone(x.Fds), slices.Clone(x.Pages)
		was := m.state(2)
		if e := m.k.Add(given); e != api.OK {
			t.Fatal(wait, e)
		}
		clear(given.Fds) // they are not kept
		clear(given.Pages)
		if wait == api.WaitFutex {
			key := api.Key{Frame: x.Pages[3].Entry.Frame, Off: 8}
			if e := m.k.AddWait(api.Waiter{Pid: 6, Key: key}); e != api.OK {
				t.Error(e)
			}
			x.Key = key
		}
		m.check()
		if p := m.state(6); !reflect.DeepEqual(p, x) {
			t.Errorf("%+v is not %+v", p, x)
		}
		if !slices.Equal(m.k.Dirty(6), []int{0, 63}) || m.k.Next() != 7 || !reflect.DeepEqual(was, m.state(2)) {
			t.Error(m.k.Dirty(6), m.k.Next())
		}
		if slices.Equal(m.k.Queue(1), []int{6}) != (wait == api.WaitNone) {
			t.Error(m.k.Queue(1))
		}
		if string(m.k.Page(6, 7)[:4]) != "abc\x00" {
			t.Error(m.k.Page(6, 7))
		}
		for n, refs := range []int{2, 3} {
			if _, many := m.k.File(n); many != refs {
				t.Error(n, many)
			}
		}
	}
}

func TestP18_4_AddRefused(t *testing.T) {
	m := kills(t)
	x := newcomer(t, m, "")
	free, _ := m.k.Frame(nil)
	m.k.Unframe(free)
	was := m.all()
	for name, turn := range map[string]func(x *api.Process){
		"bit 0 pending":        func(x *api.Process) { x.Signals.Pending |= 1 },
		"bit 16 masked":        func(x *api.Process) { x.Signals.Mask |= 1 << 16 },
		"9 masked":             func(x *api.Process) { x.Signals.Mask |= 1 << 9 },
		"9 handled":            func(x *api.Process) { x.Signals.Handlers[9] = 4 },
		"no affinity":          func(x *api.Process) { x.Affinity = 0 },
		"no such core":         func(x *api.Process) { x.Affinity = 4 + 1<<31 },
		"nine descriptors":     func(x *api.Process) { x.Fds = append(x.Fds, -1) },
		"no such file":         func(x *api.Process) { x.Fds[3] = 3 },
		"nor any":              func(x *api.Process) { x.Fds[0] = 64 },
		"Wait -1":              func(x *api.Process) { x.Wait = -1 },
		"Wait 6":               func(x *api.Process) { x.Wait = 6 },
		"Left, and no sleep":   func(x *api.Process) { x.Left = 1 },
		"Left, and no sleep 2": func(x *api.Process) { x.Left, x.Wait = 1, api.WaitFutex },
		"no Left":              func(x *api.Process) { x.Wait = api.WaitSleep },
		"read pipe 2":          func(x *api.Process) { x.Wait, x.Pipe = api.WaitRead, 2 },
		"write pipe 2":         func(x *api.Process) { x.Wait, x.Pipe = api.WaitWrite, 2 },
		"read pipe -1":         func(x *api.Process) { x.Wait, x.Pipe = api.WaitRead, -1 },
		"write pipe 16":        func(x *api.Process) { x.Wait, x.Pipe = api.WaitWrite, 16 },
		"page twice":           func(x *api.Process) { x.Pages[1].Page = 0 },
		"pages fall":           func(x *api.Process) { x.Pages[1].Page = 9 },
		"page -1":              func(x *api.Process) { x.Pages[0].Page = -1 },
		"page 64":              func(x *api.Process) { x.Pages[3].Page = 64 },
		"frame -1":             func(x *api.Process) { x.Pages[3].Entry.Frame = -1 },
		"frame 256":            func(x *api.Process) { x.Pages[3].Entry.Frame = 256 },
		"a free frame":         func(x *api.Process) { x.Pages[3].Entry.Frame = free },
		"Shared and Cow":       func(x *api.Process) { x.Pages[3].Entry.Cow = true },
	} {
		y := x
		y.Fds, y.Pages = slices.Clone(x.Fds), slices.Clone(x.Pages)
		turn(&y)
		if e := m.k.Add(y); e != api.ErrArg {
			t.Error(name, e)
		}
		y.Pid = 2 // the first error is that
		if e := m.k.Add(y); e != api.ErrArg {
			t.Error(name, e)
		}
	}
	for name, c := range map[string]struct {
		turn func(x *api.Process)
		e    api.Errno
	}{
		"state 0":            {func(x *api.Process) { x.State = api.ProcNone }, api.ErrArg},
		"state 4":            {func(x *api.Process) { x.State = 4 }, api.ErrArg},
		"frozen":             {func(x *api.Process) { x.State = api.ProcFrozen }, api.ErrArg},
		"a status":           {func(x *api.Process) { x.Status = 1 }, api.ErrArg},
		"one that is live":   {func(x *api.Process) { x.Pid = 2 }, api.ErrBusy},
		"1":                  {func(x *api.Process) { x.Pid, x.Parent = 1, 0 }, api.ErrBusy},
		"a zombie":           {func(x *api.Process) { x.Pid = 3 }, api.ErrBusy},
		"frozen, not so":     {func(x *api.Process) { x.Pid, x.Parent = 4, 2 }, api.ErrBusy},
		"a zombie's":         {func(x *api.Process) { x.Parent = 3 }, api.ErrBusy},
		"nobody's":           {func(x *api.Process) { x.Parent = 0 }, api.ErrBusy},
		"a great pid":        {func(x *api.Process) { x.Pid = 65536 }, api.ErrBusy},
		"a parent that dies": {func(x *api.Process) { x.Pid, x.State, x.Parent = 4, api.ProcZombie, 1 }, api.ErrArg},
	} {
		y := x
		c.turn(&y)
		if e := m.k.Add(y); e != c.e {
			t.Error(name, e)
		}
	}
	if d := unlike(was, m.all()); d != "" {
		t.Error(d)
	}
	if e := m.k.Add(x); e != api.OK {
		t.Error(e)
	}
}

func TestP18_4_AddFull(t *testing.T) {
	m := short(t, 1, spin("me"))
	x := api.Process{Parent: 1, State: api.ProcLive, Affinity: 1}
	for x.Pid = 2; x.Pid <= 8; x.Pid++ {
		if e := m.k.Add(x); e != api.OK {
			t.Error(e)
		}
	}
	was := m.all()
	if e := m.k.Add(x); e != api.ErrFull {
		t.Error(e)
	}
	if d := unlike(was, m.all()); d != "" {
		t.Error(d)
	}
	m.check()
}

// Few, or other, numbers are free descriptors; what does not wait there has no Pipe; the core is one of the affinity.
func TestP18_4_AddLoosely(t *testing.T) {
	m := kills(t)
	x := newcomer(t, m, "")
	x.Fds, x.Pipe, x.Key, x.Core = []int{-7, 1}, 9, api.Key{Pid: 3}, 77
	if e := m.k.Add(x); e != api.OK {
		t.Fatal(e)
	}
	m.check()
	p := m.state(6)
	if !slices.Equal(p.Fds, []int{-1, 1, -1, -1, -1, -1, -1, -1}) || p.Pipe != 0 || p.Key != (api.Key{}) || p.Core != 1 {
		t.Errorf("%+v", p)
	}
	x.Pid, x.Affinity, x.Core, x.Fds = 7, 3, -1, nil
	if e := m.k.Add(x); e != api.OK || m.state(7).Core != 1 { // core 0 has two
		t.Error(e, m.state(7).Core, m.k.Queue(0), m.k.Queue(1))
	}
}

// What was posted to one that is frozen is pending when it is there again; what else it had is as it is given.
func TestP18_4_AddThawed(t *testing.T) {
	m := kills(t)
	m.signals(4, 2)
	x := newcomer(t, m, "")
	x.Pid, x.Parent = 4, 0
	if e := m.k.Add(x); e != api.OK {
		t.Fatal(e)
	}
	m.check()
	if p := m.state(4); p.Signals.Pending != 1<<3|1<<2|1<<12 || p.Parent != 1 || p.Signals.Mask != 1<<3 || !p.Signals.Busy {
		t.Errorf("%+v", p)
	}
	if e := m.k.Add(api.Process{Pid: 5, Parent: 4, State: api.ProcZombie, Status: 77}); e != api.OK {
		t.Error(e)
	}
	if p := m.state(5); !reflect.DeepEqual(p, api.Process{Pid: 5, Parent: 4, State: api.ProcZombie, Status: 77}) {
		t.Errorf("%+v", p)
	}
	// what was kept is kept no more: it is posted to the live one, and to the zombie not at all
	m.signals(4, 1)
	if m.state(4).Signals.Pending != 1<<3|1<<2|1<<1|1<<12 {
		t.Error(m.state(4).Signals)
	}
	if _, e := m.k.Freeze(4); e != api.OK {
		t.Fatal(e)
	}
	if m.state(4).Signals.Pending != 1<<3|1<<2|1<<1|1<<12 || m.state(5).Signals.Pending != 0 {
		t.Error(m.state(4).Signals)
	}
	if _, e := m.k.Signal(5, 1); e != api.ErrKernel {
		t.Error(e)
	}
}

// One that was live may come back as a zombie: nothing is posted to it then; and the other way about.
func TestP18_4_AddAsZombie(t *testing.T) {
	m := kills(t)
	m.k.Freeze(2)
	if e := m.k.Add(api.Process{Pid: 2, Parent: 1, State: api.ProcZombie, Status: 5, Signals: api.Signals{Pending: 1}, Affinity: 0, Wait: 99}); e != api.OK {
		t.Fatal(e)
	}
	m.check()
	if p := m.state(2); !reflect.DeepEqual(p, api.Process{Pid: 2, Parent: 1, State: api.ProcZombie, Status: 5}) {
		t.Errorf("%+v", p)
	}
	if _, e := m.k.Signal(2, 1); e != api.ErrKernel {
		t.Error(e)
	}
	if e := m.k.Add(api.Process{Pid: 5, Parent: 4, State: api.ProcLive, Affinity: 1}); e != api.OK {
		t.Error(e)
	}
	m.check()
	m.signals(5, 1)
	m.want(5, exited(5, 129)) // its parent is frozen, and is told
	if m.state(4).Signals.Pending != 1<<12 {
		t.Error(m.state(4).Signals)
	}
}

func TestP18_4_AddWait(t *testing.T) {
	m := begin(t, fork("waits"), fork("sleeps"), spin("me"), "waits:/", ask(api.SysFutexwait, data, 0), "sleeps:/", ask(api.SysSleep, 5))
	m.answers(1, api.SysFork, 2)
	m.answers(1, api.SysFork, 3)
	m.blocks(2, api.WaitFutex)
	m.blocks(3, api.WaitSleep)
	for pid := 4; pid <= 5; pid++ {
		if e := m.k.Add(api.Process{Pid: pid, Parent: 1, State: api.ProcLive, Affinity: 1, Wait: api.WaitFutex, Cpu: api.Cpu{R: [8]uint32{api.SysFutexwait}}}); e != api.OK {
			t.Fatal(e)
		}
	}
	key := api.Key{Pid: 2, Off: data}
	for _, pid := range []int{-1 << 62, -1, 0, 1, 3, 6, 99} {
		if e := m.k.AddWait(api.Waiter{Pid: pid, Key: key}); e != api.ErrKernel {
			t.Error(pid, e)
		}
	}
	for _, bad := range []api.Key{{}, {Pid: 4, Off: 4096}, {Pid: 4, Frame: 1}, {Frame: 256}, {Off: 64}, {Off: -1}} {
		if e := m.k.AddWait(api.Waiter{Pid: 4, Key: bad}); bad != (api.Key{}) && e != api.ErrArg {
			t.Error(bad, e)
		}
		if bad == (api.Key{}) {
			continue
		}
		if e := m.k.AddWait(api.Waiter{Pid: 2, Key: bad}); e != api.ErrArg {
			t.Error(bad, e)
		}
	}
	if e := m.k.AddWait(api.Waiter{Pid: 2, Key: key}); e != api.ErrFutex {
		t.Error(e)
	}
}

// Those who are added wait in the order in which they come.
func TestP18_4_AddWaitOrder(t *testing.T) {
	m := begin(t, ask(api.SysMap, 60, 1, 3), ask(api.SysFutexwake, 3848, 9), spin("me"))
	m.answers(1, api.SysMap, 0)
	key := api.Key{Frame: 32, Off: 8}
	for _, pid := range []int{4, 2, 3} {
		if e := m.k.Add(api.Process{Pid: pid, Parent: 1, State: api.ProcLive, Affinity: 1, Wait: api.WaitFutex, Cpu: api.Cpu{R: [8]uint32{uint32(pid * 5)}}}); e != api.OK {
			t.Fatal(e)
		}
		if e := m.k.AddWait(api.Waiter{Pid: pid, Key: key}); e != api.OK {
			t.Fatal(e)
		}
	}
	m.check()
	// what call is answered stands in r0: 20, 10 and 15
	m.want(1, result(4, api.SysUnmap, 0), result(2, api.SysDup, 0), result(3, api.SysFutexwait, 0), result(1, api.SysFutexwake, 3))
}

func TestP18_4_Next(t *testing.T) {
	m := short(t, 1, spin("me"))
	if e := m.k.Add(api.Process{Pid: 65535, Parent: 1, State: api.ProcLive, Affinity: 1}); e != api.OK || m.k.Next() != 0 {
		t.Error(e, m.k.Next())
	}
	if e := m.k.Add(api.Process{Pid: 9, Parent: 65535, State: api.ProcZombie, Status: 1}); e != api.OK {
		t.Error(e)
	}
}

func TestP18_4_Nudge(t *testing.T) {
	m := kills(t)
	for _, pid := range []int{-1 << 62, -1, 0, 3, 4, 5, 6, 99} {
		if l, e := m.k.Nudge(pid); len(l) > 0 || e != api.ErrKernel {
			t.Error(pid, l, e)
		}
	}
	add := func(x api.Process) {
		t.Helper()
		x.Parent, x.State, x.Affinity = 1, api.ProcLive, 1
		x.Signals.Handlers[2] = 1
		if e := m.k.Add(x); e != api.OK {
			t.Fatal(e)
		}
	}
	sleeping := api.Cpu{R: [8]uint32{api.SysSleep}, Pc: 40}
	add(api.Process{Pid: 6, Wait: api.WaitSleep, Left: 5, Cpu: sleeping, Signals: api.Signals{Pending: 1<<2 | 1<<5 | 1<<7 | 1<<12}})
	add(api.Process{Pid: 7, Wait: api.WaitSleep, Left: 5, Cpu: sleeping, Signals: api.Signals{Pending: 1<<2 | 1<<5, Mask: 1 << 5}})
	add(api.Process{Pid: 8, Wait: api.WaitSleep, Left: 5, Cpu: sleeping})
	add(api.Process{Pid: 9, Cpu: sleeping, Signals: api.Signals{Pending: 1 << 5}})
	for pid, want := range map[int][]api.Seen{6: {result(6, api.SysSleep, minus(api.EINTR))}, 7: nil, 8: nil, 9: nil, 1: nil} {
		was := m.state(pid)
		l, e := m.k.Nudge(pid)
		if e != api.OK {
			t.Error(e)
		}
		m.same(l, want...)
		m.check()
		p := m.state(pid)
		if p.Signals != was.Signals || (p.Wait == was.Wait) != (pid != 6) || (p.Cpu == was.Cpu) != (pid != 6) {
			t.Errorf("%+v", p)
		}
	}
	if p := m.state(6); p.Cpu.R[0] != minus(api.EINTR) || p.Cpu.Pc != 44 || p.Wait != api.WaitNone {
		t.Errorf("%+v", p)
	}
}

// What call one waits in is told by its r0, 0 if that is no call's.
func TestP18_4_NudgeOfNoCall(t *testing.T) {
	m := begin(t, spin("me"))
	if e := m.k.Add(api.Process{Pid: 2, Parent: 1, State: api.ProcLive, Affinity: 1, Wait: api.WaitChild, Cpu: api.Cpu{R: [8]uint32{99}, Pc: 1<<32 - 4}, Signals: api.Signals{Pending: 1 << 5}}); e != api.OK {
		t.Fatal(e)
	}
	l, e := m.k.Nudge(2)
	if e != api.OK {
		t.Error(e)
	}
	m.same(l, result(2, 0, minus(api.EINTR)))
	if m.state(2).Cpu.Pc != 0 {
		t.Error(m.state(2).Cpu)
	}
}

func TestP18_5_Dirty(t *testing.T) {
	m := begin(t, store(data, 1), store(200, 1), fork("kid"), store(data, 2), spin("me"), spin("kid"))
	if n := m.k.Clean(1); n != 32 || len(m.k.Dirty(1)) > 0 || m.k.Clean(1) != 0 {
		t.Error(n)
	}
	m.answers(1, api.SysFork, 2)
	if !slices.Equal(m.k.Dirty(1), []int{3, 24}) || !slices.Equal(m.k.Dirty(2), []int{3, 24}) || m.k.Clean(1) != 2 {
		t.Error(m.k.Dirty(1), m.k.Dirty(2))
	}
	for range 5 {
		m.step(1)
	}
	if !slices.Equal(m.k.Dirty(1), []int{24}) || !slices.Equal(m.k.Dirty(2), []int{3, 24}) || m.k.Clean(2) != 2 || !slices.Equal(m.k.Dirty(1), []int{24}) {
		t.Error(m.k.Dirty(1), m.k.Dirty(2))
	}
}

func TestP18_5_Move(t *testing.T) {
	m := kills(t)
	was := m.all()
	for _, pid := range []int{-1 << 62, -1, 0, 3, 4, 5, 6, 99} {
		if e := m.k.Move(pid, 3); e != api.ErrKernel {
			t.Error(pid, e)
		}
	}
	for _, mask := range []uint32{0, 4, 1 << 31} {
		if e := m.k.Move(2, mask); e != api.ErrKernel {
			t.Error(mask, e)
		}
	}
	if d := unlike(was, m.all()); d != "" {
		t.Error(d)
	}
	for _, c := range []struct {
		pid  int
		mask uint32
		core int
	}{{2, 1, 0}, {2, 6, 1}, {2, 3, 1}, {2, 1, 0}, {1, 1<<31 + 2, 1}} {
		if e := m.k.Move(c.pid, c.mask); e != api.OK {
			t.Error(c, e)
		}
		m.check()
		if p := m.state(c.pid); p.Core != c.core || p.Affinity != c.mask || p.Wait != api.WaitNone {
			t.Errorf("%v: %+v", c, p)
		}
	}
}

func TestP18_5_MoveOfBlocked(t *testing.T) {
	for wait := api.WaitChild; wait <= api.WaitSleep; wait++ {
		m := waits(t, wait)
		want := m.state(2)
		if e := m.k.Move(2, 2); e != api.OK {
			t.Error(e)
		}
		m.check()
		want.Affinity = 2
		if p := m.state(2); !reflect.DeepEqual(p, want) {
			t.Errorf("%+v", p)
		}
	}
}

func TestP18_5_MoveOfBlockedElsewhere(t *testing.T) {
	m := begin(t, spin("me"))
	x := api.Process{Pid: 2, Parent: 1, State: api.ProcLive, Wait: api.WaitChild, Core: 1, Affinity: 3}
	if e := m.k.Add(x); e != api.OK {
		t.Fatal(e)
	}
	if e := m.k.Move(2, 1); e != api.OK || m.state(2).Core != 1 || m.state(2).Affinity != 1 { // where it was last
		t.Error(e, m.state(2))
	}
	m.signals(2, 5, result(2, 0, minus(api.EINTR)))
	if m.state(2).Core != 0 {
		t.Error(m.state(2))
	}
}

// What is answered is new memory: whatever is done with it, the machine is as it was.
func TestP18_6_NewMemory(t *testing.T) {
	m := tree(t)
	was := m.all()
	spoil := m.all()
	for _, p := range spoil.procs {
		clear(p.Fds)
		clear(p.Pages)
	}
	for _, l := range [][][]int{spoil.queues, spoil.trees, spoil.dirty} {
		for _, one := range l {
			clear(one)
		}
	}
	for _, b := range spoil.pages {
		clear(b)
	}
	for _, x := range spoil.pipes {
		clear(x.Bytes)
	}
	clear(spoil.waiters)
	clear(m.k.Pids())
	if d := unlike(was, m.all()); d != "" {
		t.Error(d)
	}
	l, _ := m.k.Freeze(2)
	pids := m.k.Pids()
	clear(l)
	if !slices.Equal(pids, m.k.Pids()) || m.state(4).State != api.ProcFrozen {
		t.Error("the tree is kept")
	}
	m.signals(1, 5, result(1, api.SysWait, minus(api.EINTR)))
}

// What a call saw is told once, and stays as it was told.
func TestP18_6_SeenIsNew(t *testing.T) {
	m := begin(t, ask(api.SysPrint, 7), ask(api.SysPrint, 8), ask(api.SysGetpid), spin("me"))
	one := m.play(1)
	two := m.play(1)
	three := m.play(1)
	m.same(one, printed(1, 7))
	m.same(two, printed(1, 8))
	m.same(three, result(1, api.SysGetpid, 1))
	clear(three)
	m.same(m.step(1))
}
