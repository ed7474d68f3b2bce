package kernel_test

import (
	"slices"
	"testing"

	"carryall/api"
)

// kids is a machine whose process 1 has a pipe, and so many children, each of which goes on at the label kid.
func kids(t *testing.T, many int, rest ...string) *machine {
	t.Helper()
	program := ask(api.SysPipe, data)
	for range many {
		program += fork("kid")
	}
	for _, s := range rest {
		program += s
	}
	m := begin(t, program)
	m.answers(1, api.SysPipe, 0)
	for i := range many {
		m.answers(1, api.SysFork, uint32(2+i))
	}
	return m
}

func TestP18_1_ReadWaits(t *testing.T) {
	m := kids(t, 3, store(data, 0x64636261), ask(api.SysWrite, 1, data, 0), ask(api.SysWrite, 1, data, 2), ask(api.SysWrite, 1, data+2, 2), spin("me"),
		"kid:/", ask(api.SysRead, 0, data+64, 4), spin("a"))
	for _, pid := range []int{4, 2, 3} {
		m.blocks(pid, api.WaitRead)
	}
	m.answers(1, api.SysWrite, 0)
	if m.state(2).Wait != api.WaitRead { // no byte is there
		t.Error(m.state(2))
	}
	m.answers(1, api.SysWrite, 2)
	if !slices.Equal(m.k.Queue(0), []int{1, 2, 3, 4}) { // by pids
		t.Fatal(m.k.Queue(0))
	}
	cpu := m.state(3).Cpu
	m.answers(3, api.SysRead, 2) // it does its call again
	if m.state(3).Cpu.Pc != cpu.Pc+4 || m.at(3, data+64) != 0x6261 {
		t.Error(m.state(3).Cpu, m.at(3, data+64))
	}
	m.blocks(2, api.WaitRead)
	m.blocks(4, api.WaitRead)
	m.answers(1, api.SysWrite, 2)
	if !slices.Equal(m.k.Queue(0), []int{1, 3, 2, 4}) {
		t.Fatal(m.k.Queue(0))
	}
	m.answers(4, api.SysRead, 2)
	m.blocks(2, api.WaitRead)
	if m.at(4, data+64) != 0x6463 || m.state(2).Pipe != 0 {
		t.Error(m.at(4, data+64))
	}
}

func TestP18_1_WriteWaits(t *testing.T) {
	m := kids(t, 3, ask(api.SysWrite, 1, 0, 9), ask(api.SysRead, 0, data, 1), ask(api.SysRead, 0, data, 0), ask(api.SysRead, 0, data, 4096), spin("me"),
		"kid:/", store(data, 0x78787878), ask(api.SysWrite, 1, data, 3), spin("a"))
	m.answers(1, api.SysWrite, 8) // fewer than it asked for: as many as there is room for
	for _, pid := range []int{4, 2, 3} {
		m.blocks(pid, api.WaitWrite)
	}
	m.answers(1, api.SysRead, 1)
	if !slices.Equal(m.k.Queue(0), []int{1, 2, 3, 4}) {
		t.Fatal(m.k.Queue(0))
	}
	m.answers(2, api.SysWrite, 1)
	m.blocks(4, api.WaitWrite)
	m.blocks(3, api.WaitWrite)
	m.answers(1, api.SysRead, 0) // nothing is gone: nobody becomes Ready
	if m.state(3).Wait != api.WaitWrite {
		t.Error(m.state(3))
	}
	m.answers(1, api.SysRead, 8)
	m.answers(4, api.SysWrite, 3)
	m.answers(3, api.SysWrite, 3)
	if x, _ := m.k.Pipe(0); string(x.Bytes) != "xxxxxx" {
		t.Errorf("%q", x.Bytes)
	}
}

// Who waits at one pipe is not told of another one.
func TestP18_1_WaitsAtOnePipe(t *testing.T) {
	m := begin(t, ask(api.SysPipe, data), ask(api.SysPipe, data), fork("one"), fork("two"), ask(api.SysWrite, 3, data, 1), ask(api.SysClose, 1), spin("me"),
		"one:/", ask(api.SysRead, 0, data, 1), spin("a"), "two:/", ask(api.SysRead, 2, data, 1), spin("b"))
	m.does(1, []asked{does(api.SysPipe, 0), does(api.SysPipe, 0), does(api.SysFork, 2), does(api.SysFork, 3)})
	m.blocks(2, api.WaitRead)
	m.blocks(3, api.WaitRead)
	if m.state(2).Pipe != 0 || m.state(3).Pipe != 1 {
		t.Error(m.state(2).Pipe, m.state(3).Pipe)
	}
	m.answers(1, api.SysWrite, 1)
	if m.state(2).Wait != api.WaitRead || m.state(3).Wait != api.WaitNone || m.state(3).Pipe != 0 {
		t.Error(m.state(2), m.state(3))
	}
	m.answers(1, api.SysClose, 0)
	if m.state(2).Wait != api.WaitRead { // its own, and 3's, is a writing end still
		t.Error(m.state(2))
	}
}

func TestP18_1_CloseTellsReaders(t *testing.T) {
	m := kids(t, 3, ask(api.SysDup, 1), ask(api.SysClose, 1), ask(api.SysClose, 2), spin("me"),
		"kid:/", ask(api.SysClose, 1), ask(api.SysRead, 0, 4096, 1), ask(api.SysRead, 0, 4096, 1), spin("a"))
	for pid := 2; pid <= 4; pid++ {
		m.answers(pid, api.SysClose, 0)
	}
	for _, pid := range []int{4, 2, 3} {
		m.blocks(pid, api.WaitRead)
	}
	m.answers(1, api.SysDup, 2)
	m.answers(1, api.SysClose, 0)
	if m.state(2).Wait != api.WaitRead { // the open file has a descriptor still
		t.Fatal(m.state(2))
	}
	m.answers(1, api.SysClose, 0)
	if !slices.Equal(m.k.Queue(0), []int{1, 2, 3, 4}) {
		t.Fatal(m.k.Queue(0))
	}
	for pid := 2; pid <= 4; pid++ { // the end: again and again
		m.answers(pid, api.SysRead, 0)
		m.answers(pid, api.SysRead, 0)
	}
	if x, ok := m.k.Pipe(0); !ok || x.Writers != 0 || x.Readers != 1 {
		t.Error(x)
	}
}

func TestP18_1_CloseTellsWriters(t *testing.T) {
	m := kids(t, 2, ask(api.SysWrite, 1, 0, 8), ask(api.SysClose, 0), ask(api.SysWrite, 1, 0, 0), ask(api.SysWrite, 1, 4096, 1), ask(api.SysClose, 1), spin("me"),
		"kid:/", ask(api.SysClose, 0), ask(api.SysWrite, 1, 0, 1), spin("a"))
	m.answers(1, api.SysWrite, 8)
	for _, pid := range []int{3, 2} {
		m.answers(pid, api.SysClose, 0)
		m.blocks(pid, api.WaitWrite)
	}
	m.answers(1, api.SysClose, 0)
	if !slices.Equal(m.k.Queue(0), []int{1, 2, 3}) {
		t.Fatal(m.k.Queue(0))
	}
	m.refused(2, api.SysWrite, api.EPIPE)
	m.refused(3, api.SysWrite, api.EPIPE)
	m.refused(1, api.SysWrite, api.EPIPE)
	m.refused(1, api.SysWrite, api.EPIPE)
}

func TestP18_1_Close(t *testing.T) {
	m := alone(t, does(api.SysPipe, 0, data), does(api.SysPipe, 0, data), does(api.SysDup, 4, 0),
		does(api.SysClose, 0, 0), fails(api.SysClose, api.EBADF, 0), fails(api.SysRead, api.EBADF, 0, 0, 0), does(api.SysRead, 0, 4, 0, 0),
		does(api.SysClose, 0, 4), fails(api.SysWrite, api.EPIPE, 1, 0, 0), does(api.SysClose, 0, 1))
	if !slices.Equal(m.state(1).Fds, []int{-1, -1, 2, 3, -1, -1, -1, -1}) {
		t.Error(m.state(1).Fds)
	}
	if _, ok := m.k.Pipe(0); ok {
		t.Error("a pipe that has nobody is there")
	}
	if x, refs := m.k.File(0); x != (api.File{}) || refs != 0 {
		t.Error(x, refs)
	}
}

func TestP18_1_Dup(t *testing.T) {
	m := alone(t, does(api.SysPipe, 0, data), does(api.SysDup, 2, 1), does(api.SysDup, 3, 0), does(api.SysDup, 4, 2),
		does(api.SysClose, 0, 0), does(api.SysDup, 0, 4), does(api.SysDup, 5, 3), does(api.SysDup, 6, 3), does(api.SysDup, 7, 3),
		fails(api.SysDup, api.EMFILE, 3), fails(api.SysDup, api.EBADF, 8))
	if !slices.Equal(m.state(1).Fds, []int{1, 1, 1, 0, 1, 0, 0, 0}) {
		t.Error(m.state(1).Fds)
	}
	if x, _ := m.k.Pipe(0); x.Readers != 1 || x.Writers != 1 {
		t.Error(x)
	}
}

// kills is a machine of a live one that spins (2), a zombie (3), one that is frozen, and was live (4), and one that was a zombie then (5); 1 makes the calls.
func kills(t *testing.T, l ...asked) *machine {
	t.Helper()
	m := begin(t, fork("lives"), fork("dead"), fork("cold"), text(l), spin("me"), spin("lives"), "dead:/", ask(api.SysExit, 3), "cold:/", fork("dead"), spin("a"))
	m.does(1, []asked{does(api.SysFork, 2), does(api.SysFork, 3), does(api.SysFork, 4)})
	m.answers(4, api.SysFork, 5)
	m.want(5, exited(5, 3))
	m.want(3, exited(3, 3))
	if _, e := m.k.Freeze(4); e != api.OK {
		t.Fatal(e)
	}
	m.step(1)
	return m
}

func TestP18_1_Kill(t *testing.T) {
	l := []asked{
		fails(api.SysKill, api.EINVAL, 2, 16), fails(api.SysKill, api.EINVAL, 99, 16), fails(api.SysKill, api.EINVAL, 2, 1<<32-1),
		fails(api.SysKill, api.ESRCH, 3, 5), fails(api.SysKill, api.ESRCH, 3, 0), fails(api.SysKill, api.ESRCH, 5, 5), fails(api.SysKill, api.ESRCH, 0, 5), fails(api.SysKill, api.ESRCH, 6, 0), fails(api.SysKill, api.ESRCH, 1<<32-1, 1),
	}
	m := kills(t, l...)
	m.does(1, l)
	if m.state(4).Signals != (api.Signals{Pending: 1 << 12}) { // its child's exit, that was pending
		t.Error(m.state(4).Signals)
	}
	m = kills(t, does(api.SysKill, 0, 2, 0), does(api.SysKill, 0, 4, 0), does(api.SysKill, 0, 2, 15), does(api.SysKill, 0, 2, 1), does(api.SysKill, 0, 4, 15), does(api.SysKill, 0, 4, 9), does(api.SysKill, 0, 1, 0), does(api.SysKill, 0, 1, 7))
	m.does(1, []asked{does(api.SysKill, 0), does(api.SysKill, 0)})
	if m.state(2).Signals.Pending != 0 || m.state(4).Signals.Pending != 1<<12 {
		t.Error("0 is posted")
	}
	m.does(1, []asked{does(api.SysKill, 0), does(api.SysKill, 0), does(api.SysKill, 0), does(api.SysKill, 0), does(api.SysKill, 0)})
	if m.state(2).Signals.Pending != 1<<15|1<<1 || m.state(4).Signals != (api.Signals{Pending: 1<<15 | 1<<9 | 1<<12}) {
		t.Error(m.state(2).Signals, m.state(4).Signals)
	}
	m.want(2, exited(2, 129))
	m.answers(1, api.SysKill, 0)
	m.want(1, exited(1, 135))
}

// Who kills one that waits is answered first.
func TestP18_1_KillInterrupts(t *testing.T) {
	m := begin(t, fork("kid"), ask(api.SysKill, 2, 3), spin("me"), "kid:/", ask(api.SysSleep, 9), spin("a"))
	m.answers(1, api.SysFork, 2)
	m.blocks(2, api.WaitSleep)
	m.want(1, result(1, api.SysKill, 0), result(2, api.SysSleep, minus(api.EINTR)))
	m.want(2, exited(2, 131))
}

func TestP18_1_Mask(t *testing.T) {
	m := alone(t, does(api.SysMask, 0, 6), does(api.SysMask, 6, 0xfffe), does(api.SysMask, 0xfdfe, 8),
		fails(api.SysMask, api.EINVAL, 1), fails(api.SysMask, api.EINVAL, 65536), fails(api.SysMask, api.EINVAL, 1<<32-1), does(api.SysMask, 8, 0))
	m.signals(1, 1)
	m = alone(t, does(api.SysMask, 0, 6))
	m.signals(1, 1)
	m.signals(1, 2)
	m.same(m.step(1))
	m.signals(1, 15)
	m.same(m.step(1), exited(1, 143))
}

func TestP18_1_Handle(t *testing.T) {
	alone(t, does(api.SysHandle, 0, 5, 400), does(api.SysHandle, 400, 5, 1), does(api.SysHandle, 1, 5, 3), does(api.SysHandle, 0, 15, 1<<31), does(api.SysHandle, 1<<31, 15, 0), does(api.SysHandle, 0, 1, 4), does(api.SysHandle, 3, 5, 0), does(api.SysHandle, 0, 12, 4),
		fails(api.SysHandle, api.EINVAL, 0, 4), fails(api.SysHandle, api.EINVAL, 9, 4), fails(api.SysHandle, api.EINVAL, 16, 4), fails(api.SysHandle, api.EINVAL, 1<<32-1, 4))
}

func TestP18_1_Sigreturn(t *testing.T) {
	m := begin(t, "jmp main/", ask(api.SysPrint, 77), "li 3 99/zset 0 2/", ask(api.SysSigreturn), "main:/", ask(api.SysHandle, 5, 4), ask(api.SysSigreturn), "li 3 -7/", ask(api.SysPrint, 66), ask(api.SysPrint, 55), spin("me"))
	m.answers(1, api.SysHandle, 0)
	m.refused(1, api.SysSigreturn, api.EINVAL)
	m.want(1, printed(1, 66))
	m.signals(1, 5)
	was := m.state(1)
	m.want(1, delivered(1, 5))
	m.want(1, printed(1, 77))
	m.pcOfCall(1)
	if m.state(1).Cpu == was.Cpu || m.state(1).Saved != was.Cpu {
		t.Fatal("the handler does nothing")
	}
	m.same(m.step(1)) // nothing is seen of it
	if p := m.state(1); p.Cpu != was.Cpu || p.Signals.Busy || p.Signals.Pending != 0 {
		t.Errorf("%+v", p)
	}
	m.want(1, printed(1, 55))
}

// A handler that is busy is not interrupted but by 9; behind its return the next signal is delivered.
func TestP18_1_SigreturnThenNext(t *testing.T) {
	m := begin(t, "jmp main/", ask(api.SysSigreturn), "main:/", ask(api.SysHandle, 5, 4), ask(api.SysHandle, 6, 4), spin("me"))
	m.answers(1, api.SysHandle, 0)
	m.answers(1, api.SysHandle, 0)
	m.signals(1, 6)
	m.signals(1, 5)
	m.want(1, delivered(1, 5))
	m.want(1, delivered(1, 6))
	m.signals(1, 5)
	m.want(1, delivered(1, 5))
}

func TestP18_1_Futexwait(t *testing.T) {
	m := alone(t, does(api.SysMap, 0, 40, 1, 0), fails(api.SysFutexwait, api.EFAULT, data+1, 0), fails(api.SysFutexwait, api.EFAULT, data+2, 0), fails(api.SysFutexwait, api.EFAULT, data+3, 0), fails(api.SysFutexwait, api.EFAULT, 2048, 0),
		fails(api.SysFutexwait, api.EFAULT, 4096, 0), fails(api.SysFutexwait, api.EFAULT, 1<<32-4, 0), fails(api.SysFutexwait, api.EAGAIN, data, 1), fails(api.SysFutexwait, api.EAGAIN, 2560, 1<<31),
		fails(api.SysFutexwake, api.EFAULT, data+1, 1), fails(api.SysFutexwake, api.EFAULT, 2046, 0), fails(api.SysFutexwake, api.EFAULT, 2048, 0), fails(api.SysFutexwake, api.EFAULT, 1<<32-4, 0),
		does(api.SysFutexwake, 0, data, 0), does(api.SysFutexwake, 0, 2560, 1<<32-1))
	m.check()
}

func TestP18_1_FutexKeys(t *testing.T) {
	// 2 waits at its private page, 3 at one that is Shared (its page 60: the frame of which is 1's, too), 4 at a page of its own that is not Write
	m := begin(t, ask(api.SysMap, 60, 1, 3), store(3852, 5), fork("two"), fork("three"), fork("four"), ask(api.SysFutexwake, data, 9), ask(api.SysFutexwake, 3844, 9), ask(api.SysFutexwake, 3852, 9), spin("me"),
		"two:/", ask(api.SysFutexwait, data, 0), spin("a"), "three:/", ask(api.SysFutexwait, 3852, 5), spin("b"), "four:/", ask(api.SysMap, 50, 1, 2), ask(api.SysFutexwait, 3200, 0), spin("c"))
	m.does(1, []asked{does(api.SysMap, 0), does(api.SysFork, 2), does(api.SysFork, 3), does(api.SysFork, 4)})
	m.blocks(3, api.WaitFutex)
	m.blocks(2, api.WaitFutex)
	m.answers(4, api.SysMap, 0)
	m.blocks(4, api.WaitFutex)
	frame := func(pid, page int) int {
		for _, x := range m.state(pid).Pages {
			if x.Page == page {
				return x.Entry.Frame
			}
		}
		return -1
	}
	want := []api.Waiter{{Pid: 3, Key: api.Key{Frame: frame(1, 60), Off: 12}}, {Pid: 2, Key: api.Key{Pid: 2, Off: data}}, {Pid: 4, Key: api.Key{Frame: frame(4, 50)}}}
	if l := m.k.Waiters(); !slices.Equal(l, want) {
		t.Error(l, want)
	}
	for _, w := range want {
		if m.state(w.Pid).Key != w.Key {
			t.Error(m.state(w.Pid))
		}
	}
	m.answers(1, api.SysFutexwake, 0) // the private page of 2 is another one, though its frame is the same
	m.answers(1, api.SysFutexwake, 0)
	m.want(1, result(3, api.SysFutexwait, 0), result(1, api.SysFutexwake, 1))
	if !slices.Equal(m.k.Queue(0), []int{1, 3}) || m.state(3).Key != (api.Key{}) {
		t.Error(m.k.Queue(0))
	}
}

func TestP18_1_Futexwake(t *testing.T) {
	m := begin(t, ask(api.SysMap, 60, 1, 3), fork("kid"), fork("kid"), fork("kid"), fork("kid"), fork("kid"),
		ask(api.SysFutexwake, 3840, 0), ask(api.SysFutexwake, 3840, 1), ask(api.SysFutexwake, 3840, 2), ask(api.SysFutexwake, 3840, 1<<32-1), ask(api.SysFutexwake, 3840, 5), spin("me"),
		"kid:/", ask(api.SysFutexwait, 3840, 0), spin("a"))
	m.answers(1, api.SysMap, 0)
	for pid := 2; pid <= 6; pid++ {
		m.answers(1, api.SysFork, uint32(pid))
	}
	for _, pid := range []int{5, 2, 6, 4, 3} {
		m.blocks(pid, api.WaitFutex)
	}
	m.answers(1, api.SysFutexwake, 0)
	cpu := m.state(5).Cpu
	m.want(1, result(5, api.SysFutexwait, 0), result(1, api.SysFutexwake, 1))
	cpu.R[0], cpu.Pc = 0, cpu.Pc+4
	if m.state(5).Cpu != cpu {
		t.Error(m.state(5).Cpu)
	}
	m.want(1, result(2, api.SysFutexwait, 0), result(6, api.SysFutexwait, 0), result(1, api.SysFutexwake, 2))
	m.want(1, result(4, api.SysFutexwait, 0), result(3, api.SysFutexwait, 0), result(1, api.SysFutexwake, 2))
	if !slices.Equal(m.k.Queue(0), []int{1, 5, 2, 6, 4, 3}) {
		t.Error(m.k.Queue(0))
	}
	m.answers(1, api.SysFutexwake, 0)
}

func TestP18_1_Sleep(t *testing.T) {
	m := begin(t, ask(api.SysSleep, 0), ask(api.SysSleep, 1), ask(api.SysSleep, 1<<32-1), spin("me"))
	m.answers(1, api.SysSleep, 0)
	m.blocks(1, api.WaitSleep)
	m.ticks(result(1, api.SysSleep, 0))
	m.blocks(1, api.WaitSleep)
	if m.state(1).Left != 1<<32-1 || len(m.k.Queue(0)) > 0 {
		t.Error(m.state(1))
	}
	m.ticks()
	if m.state(1).Left != 1<<32-2 {
		t.Error(m.state(1))
	}
	if l, e := m.k.Step(0, 0); len(l) > 0 || e != api.OK { // all wait
		t.Error(l, e)
	}
	m.signals(1, 12)
	m.signals(1, 3, result(1, api.SysSleep, minus(api.EINTR)))
}

func TestP18_1_Yield(t *testing.T) {
	m := begin(t, ask(api.SysYield), fork("kid"), fork("kid"), ask(api.SysAffinity, 2), ask(api.SysYield), ask(api.SysAffinity, 3), spin("me"), "kid:/", ask(api.SysYield), spin("a"))
	m.answers(1, api.SysYield, 0)
	m.does(1, []asked{does(api.SysFork, 2), does(api.SysFork, 3)})
	for _, c := range []struct {
		pid  int
		want []int
	}{{2, []int{1, 3, 2}}, {3, []int{1, 2, 3}}} {
		m.answers(c.pid, api.SysYield, 0)
		if !slices.Equal(m.k.Queue(0), c.want) {
			t.Error(m.k.Queue(0))
		}
	}
	m.answers(1, api.SysAffinity, 3)
	m.answers(1, api.SysYield, 0)
	m.answers(1, api.SysAffinity, 2)
	if !slices.Equal(m.k.Queue(0), []int{2, 3}) || !slices.Equal(m.k.Queue(1), []int{1}) {
		t.Error(m.k.Queue(0), m.k.Queue(1))
	}
}

func TestP18_1_Map(t *testing.T) {
	m := alone(t,
		fails(api.SysMap, api.EINVAL, 40, 1, 4), fails(api.SysMap, api.EINVAL, 40, 1, 1<<32-1), fails(api.SysMap, api.EINVAL, 40, 0, 3), fails(api.SysMap, api.EINVAL, 31, 1, 3), fails(api.SysMap, api.EINVAL, 64, 1, 3),
		fails(api.SysMap, api.EINVAL, 63, 2, 3), fails(api.SysMap, api.EINVAL, 1<<32-1, 1, 3), fails(api.SysMap, api.EINVAL, 40, 1<<32-1, 3), fails(api.SysMap, api.EINVAL, 1<<31, 1<<31, 3),
		does(api.SysMap, 0, 40, 1, 0), does(api.SysMap, 0, 41, 2, 1), does(api.SysMap, 0, 43, 1, 2), does(api.SysMap, 0, 63, 1, 3), fails(api.SysMap, api.EINVAL, 39, 2, 3))
	l := m.state(1).Pages[32:]
	want := []api.Mapped{
		{Page: 40, Entry: api.Entry{Frame: 32, Dirty: true}},
		{Page: 41, Entry: api.Entry{Frame: 33, Write: true, Dirty: true}},
		{Page: 42, Entry: api.Entry{Frame: 34, Write: true, Dirty: true}},
		{Page: 43, Entry: api.Entry{Frame: 35, Shared: true, Dirty: true}},
		{Page: 63, Entry: api.Entry{Frame: 36, Write: true, Shared: true, Dirty: true}},
	}
	if !slices.Equal(l, want) {
		t.Error(l)
	}
	m = begin(t, ask(api.SysMap, 40, 3, 1), ask(api.SysMap, 40, 2, 1), spin("me"))
	m.hold(2)
	m.refused(1, api.SysMap, api.ENOMEM)
	m.answers(1, api.SysMap, 0)
}

func TestP18_1_Unmap(t *testing.T) {
	m := alone(t, does(api.SysMap, 0, 40, 3, 1),
		fails(api.SysUnmap, api.EINVAL, 40, 0), fails(api.SysUnmap, api.EINVAL, 39, 2), fails(api.SysUnmap, api.EINVAL, 40, 4), fails(api.SysUnmap, api.EINVAL, 64, 1), fails(api.SysUnmap, api.EINVAL, 1<<32-1, 1), fails(api.SysUnmap, api.EINVAL, 40, 1<<32-1),
		does(api.SysUnmap, 0, 41, 1), fails(api.SysUnmap, api.EINVAL, 40, 3), does(api.SysUnmap, 0, 40, 1), does(api.SysUnmap, 0, 42, 1), fails(api.SysUnmap, api.EINVAL, 42, 1))
	if m.k.Room().Frames != 256-32 {
		t.Error(m.k.Room())
	}
	m = short(t, 4, ask(api.SysUnmap, 0, 1)) // its own program's page
	m.answers(1, api.SysUnmap, 0)
	m.want(1, exited(1, 139))
}

func TestP18_1_Affinity(t *testing.T) {
	m := begin(t, fork("kid"), ask(api.SysAffinity, 0), ask(api.SysAffinity, 4), ask(api.SysAffinity, 1<<31), ask(api.SysAffinity, 1), ask(api.SysAffinity, 6), ask(api.SysAffinity, 3), spin("me"), spin("kid"))
	m.answers(1, api.SysFork, 2)
	m.does(1, []asked{fails(api.SysAffinity, api.EINVAL), fails(api.SysAffinity, api.EINVAL), fails(api.SysAffinity, api.EINVAL), does(api.SysAffinity, 3)})
	if p := m.state(1); p.Core != 0 || p.Affinity != 1 || !slices.Equal(m.k.Queue(0), []int{1, 2}) { // it stays where it is
		t.Errorf("%+v", p)
	}
	m.answers(1, api.SysAffinity, 1)
	if p := m.state(1); p.Core != 1 || p.Affinity != 6 || !slices.Equal(m.k.Queue(1), []int{1}) {
		t.Errorf("%+v", p)
	}
	m.answers(1, api.SysAffinity, 6)
	if p := m.state(1); p.Core != 1 || p.Affinity != 3 {
		t.Errorf("%+v", p)
	}
}

func TestP18_1_Print(t *testing.T) {
	for _, v := range []uint32{0, 7, 1 << 31, 1<<32 - 1} {
		m := begin(t, ask(api.SysPrint, v), spin("me"))
		pc := m.pcOfCall(1)
		m.want(1, printed(1, v))
		if c := m.state(1).Cpu; c.R[0] != 0 || c.Pc != pc+4 || c.R[1] != v {
			t.Error(c)
		}
	}
}

func TestP18_1_NoCall(t *testing.T) {
	for _, n := range []int{0, 23, 24, 255, 256, 1 << 16, 1 << 31, 1<<32 - 1} {
		m := begin(t, ask(n, 1, 2, 3), spin("me"))
		m.pcOfCall(1)
		was := m.all()
		pc := was.procs[0].Cpu.Pc
		m.want(1, result(1, 0, minus(api.ENOSYS)))
		now := m.all()
		if c := now.procs[0].Cpu; c.R[0] != minus(api.ENOSYS) || c.Pc != pc+4 {
			t.Error(c)
		}
		was.procs[0].Cpu, now.procs[0].Cpu = api.Cpu{}, api.Cpu{}
		if d := unlike(was, now); d != "" {
			t.Error(d)
		}
	}
}

// waits is a machine of one that waits so (2), with a handler of 5, with 6 ignored, and 7 masked.
func waits(t *testing.T, wait int) *machine {
	t.Helper()
	how := map[int]string{
		api.WaitChild: fork("grandkid") + ask(api.SysWait, 0),
		api.WaitRead:  ask(api.SysRead, 0, data, 1),
		api.WaitWrite: ask(api.SysWrite, 1, data, 9) + ask(api.SysWrite, 1, data, 1),
		api.WaitFutex: ask(api.SysFutexwait, data, 0),
		api.WaitSleep: ask(api.SysSleep, 9),
	}
	m := begin(t, "jmp main/", ask(api.SysSigreturn), "main:/", ask(api.SysHandle, 5, 4), ask(api.SysHandle, 6, 1), ask(api.SysMask, 1<<7), fork("kid"), spin("me"), "kid:/", ask(api.SysPipe, data+64), how[wait], spin("on"), spin("grandkid"))
	m.does(1, []asked{does(api.SysHandle, 0), does(api.SysHandle, 0), does(api.SysMask, 0), does(api.SysFork, 2)})
	m.answers(2, api.SysPipe, 0)
	switch wait {
	case api.WaitChild:
		m.answers(2, api.SysFork, 3)
	case api.WaitWrite:
		m.answers(2, api.SysWrite, 8)
	}
	m.blocks(2, wait)
	return m
}

func TestP18_1_Interrupts(t *testing.T) {
	calls := map[int]int{api.WaitChild: api.SysWait, api.WaitRead: api.SysRead, api.WaitWrite: api.SysWrite, api.WaitFutex: api.SysFutexwait, api.WaitSleep: api.SysSleep}
	for wait, n := range calls {
		m := waits(t, wait)
		was := m.state(2)
		for _, sig := range []int{6, 7, 12} { // ignored, and masked
			m.signals(2, sig)
		}
		if p := m.state(2); p.Wait != wait || p.Cpu != was.Cpu || p.Signals.Pending != 1<<6|1<<7|1<<12 {
			t.Errorf("%+v", p)
		}
		m.signals(2, 5, result(2, n, minus(api.EINTR)))
		p := m.state(2)
		if p.Wait != api.WaitNone || p.Key != (api.Key{}) || p.Left != 0 || p.Pipe != 0 || p.Cpu.R[0] != minus(api.EINTR) || p.Cpu.Pc != was.Cpu.Pc+4 {
			t.Errorf("%+v", p)
		}
		if l := m.k.Queue(0); l[len(l)-1] != 2 || len(m.k.Waiters()) > 0 {
			t.Error(l)
		}
		m.ticks()
		m.want(2, delivered(2, 5))
		if m.state(2).Saved != p.Cpu {
			t.Error(m.state(2).Saved)
		}
		m = waits(t, wait)
		m.signals(2, 9, result(2, n, minus(api.EINTR)))
		m.want(2, exited(2, 137))
	}
}

// Who becomes Ready goes to its core, or, if that is not in its affinity any more, to the one of it with the fewest.
func TestP18_1_BecomesReady(t *testing.T) {
	for mask, want := range map[uint32]int{1: 0, 2: 1, 3: 0, 7: 0, 6: 1} {
		m := waits(t, api.WaitSleep)
		if e := m.k.Move(2, mask); e != api.OK || m.state(2).Core != 0 || m.state(2).Affinity != mask {
			t.Error(e, m.state(2))
		}
		m.signals(2, 5, result(2, api.SysSleep, minus(api.EINTR)))
		if m.state(2).Core != want || !slices.Contains(m.k.Queue(want), 2) {
			t.Error(mask, m.state(2))
		}
	}
}
