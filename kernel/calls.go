package kernel

import (
	"math"

	"carryall/api"
	"carryall/call"
	"carryall/files"
	"carryall/isa"
	"carryall/pipe"
	"carryall/signal"
	"carryall/space"
)

const (
	ends = 2 // of a pipe: so many descriptors and open files it needs

	// What map's third argument says.
	mapWrite  = 1
	mapShared = 2
	mapAll    = mapWrite | mapShared
)

// arguments are a call's.
type arguments [3]uint32

// calls are all, by their numbers.
func (k *Kernel) calls() map[int]func(*process, arguments) {
	return map[int]func(*process, arguments){
		api.SysExit:      k.sysExit,
		api.SysFork:      k.sysFork,
		api.SysWait:      k.sysWait,
		api.SysGetpid:    k.sysGetpid,
		api.SysGetppid:   k.sysGetppid,
		api.SysPipe:      k.sysPipe,
		api.SysRead:      k.sysRead,
		api.SysWrite:     k.sysWrite,
		api.SysClose:     k.sysClose,
		api.SysDup:       k.sysDup,
		api.SysKill:      k.sysKill,
		api.SysMask:      k.sysMask,
		api.SysHandle:    k.sysHandle,
		api.SysSigreturn: k.sysSigreturn,
		api.SysFutexwait: k.sysFutexwait,
		api.SysFutexwake: k.sysFutexwake,
		api.SysSleep:     k.sysSleep,
		api.SysYield:     k.sysYield,
		api.SysMap:       k.sysMap,
		api.SysUnmap:     k.sysUnmap,
		api.SysAffinity:  k.sysAffinity,
		api.SysPrint:     k.sysPrint,
	}
}

// ask lets the call be done that a process' registers say.
func (k *Kernel) ask(p *process) {
	c, _ := call.Of(p.cpu.R)
	do, is := k.calls()[c.N]
	if !is {
		k.refuse(p, api.ENOSYS)
		return
	}
	do(p, c.Args)
}

// number is an argument as one that no size of an int turns: all that is asked by one ends far below.
func number(a uint32) int {
	return int(min(a, math.MaxInt32))
}

// put writes words.
func put(s *space.Space, a uint32, words ...uint32) int {
	return s.Write(a, isa.Bytes(words))
}

// end is the slot, and the pipe, of which read or write, as their arguments say, have that end; or why not.
func (k *Kernel) end(p *process, args arguments, write bool) (slot int, at *pipe.Pipe, code int) {
	x, open := k.files.Get(p.fds.Get(number(args[0])))
	switch {
	case !open || x.Write != write || !k.hasSide(x):
		return 0, nil, api.EBADF
	case args[2] > api.Space:
		return 0, nil, api.EINVAL
	}
	return x.Pipe, k.pipeAt(x.Pipe), 0
}

// key is that of an address in a page that is mapped.
func (p *process) key(a uint32) api.Key {
	frame, shared := p.space.Frame(a)
	if shared {
		return api.Key{Frame: frame, Off: int(a % api.PageSize)}
	}
	return api.Key{Pid: p.pid, Off: int(a)}
}

// futexAt is the word at an address, if one may wait there.
func (p *process) futexAt(a uint32) (uint32, bool) {
	w, ok := p.space.Word(a)
	return w, ok && a%wordSize == 0
}

func (k *Kernel) sysExit(p *process, args arguments) {
	k.exit(p, args[0])
}

func (k *Kernel) sysFork(p *process, _ arguments) {
	pid, e := k.table.Fork(p.pid)
	if e != api.OK {
		k.refuse(p, api.EAGAIN)
		return
	}
	child := *p
	child.pid = pid
	child.space = p.space.Clone()
	child.fds = files.Fds{}
	child.signals = signal.Fork(p.signals)
	k.share(p.fds.List(), &child.fds)
	k.pass(&child, 0)
	k.live[pid] = &child
	k.ready(&child)
	k.answer(p, uint32(pid))
}

func (k *Kernel) sysWait(p *process, args arguments) {
	child, status, e := k.table.Zombie(p.pid)
	switch e {
	case api.ErrChild:
		k.refuse(p, api.ECHILD)
		return
	case api.ErrBlock:
		k.block(p, api.WaitChild, 0)
		return
	}
	if at := args[0]; at != 0 {
		if code := put(p.space, at, status); code != 0 {
			k.refuse(p, code)
			return
		}
	}
	k.table.Reap(p.pid)
	k.answer(p, uint32(child))
}

func (k *Kernel) sysGetpid(p *process, _ arguments) {
	k.answer(p, uint32(p.pid))
}

func (k *Kernel) sysGetppid(p *process, _ arguments) {
	k.answer(p, uint32(k.table.Parent(p.pid)))
}

func (k *Kernel) sysPipe(p *process, args arguments) {
	slot := k.slot()
	switch {
	case p.fds.Len()+ends > api.MaxFds:
		k.refuse(p, api.EMFILE)
		return
	case k.files.Free() < ends || slot < 0:
		k.refuse(p, api.ENFILE)
		return
	}
	// Which descriptors it gets is asked of a copy: it gets none, if they can't be written.
	var fds [ends]uint32
	free := p.fds.Copy()
	for i := range fds {
		fd, _ := free.Put(0)
		fds[i] = uint32(fd)
	}
	if code := put(p.space, args[0], fds[:]...); code != 0 {
		k.refuse(p, code)
		return
	}
	k.pipes[slot], _ = pipe.New(k.capacity)
	for _, write := range [ends]bool{false, true} {
		n, _ := k.files.Open(api.File{Pipe: slot, Write: write})
		p.fds.Put(n)
	}
	k.answer(p, 0)
}

func (k *Kernel) sysRead(p *process, args arguments) {
	slot, from, code := k.end(p, args, false)
	at, most := args[1], args[2]
	switch {
	case code != 0:
		k.refuse(p, code)
		return
	case most > 0 && !from.Ready(false):
		k.block(p, api.WaitRead, slot)
		return
	}
	b := from.All()
	b = b[:min(len(b), int(most))]
	if code := p.space.Write(at, b); code != 0 {
		k.refuse(p, code)
		return
	}
	from.Read(len(b))
	if len(b) > 0 {
		k.wake(api.WaitWrite, slot)
	}
	k.answer(p, uint32(len(b)))
}

func (k *Kernel) sysWrite(p *process, args arguments) {
	slot, to, code := k.end(p, args, true)
	at, most := args[1], args[2]
	switch {
	case code != 0:
		k.refuse(p, code)
		return
	case to.Readers() == 0:
		k.refuse(p, api.EPIPE)
		return
	case most > 0 && !to.Ready(true):
		k.block(p, api.WaitWrite, slot)
		return
	}
	b, code := p.space.Read(at, min(to.Cap()-len(to.All()), int(most)))
	if code != 0 {
		k.refuse(p, code)
		return
	}
	to.Write(b)
	if len(b) > 0 {
		k.wake(api.WaitRead, slot)
	}
	k.answer(p, uint32(len(b)))
}

func (k *Kernel) sysClose(p *process, args arguments) {
	n, e := p.fds.Close(number(args[0]))
	if e != api.OK {
		k.refuse(p, api.EBADF)
		return
	}
	k.answer(p, 0)
	k.drop(n)
}

func (k *Kernel) sysDup(p *process, args arguments) {
	fd, e := p.fds.Dup(number(args[0]))
	switch e {
	case api.ErrFd:
		k.refuse(p, api.EBADF)
		return
	case api.ErrFds:
		k.refuse(p, api.EMFILE)
		return
	}
	k.files.Share(p.fds.Get(fd))
	k.answer(p, uint32(fd))
}

// sysKill posts behind its answer, as who kills itself is told of that first.
func (k *Kernel) sysKill(p *process, args arguments) {
	pid, sig := number(args[0]), number(args[1])
	switch {
	case sig > api.MaxSig:
		k.refuse(p, api.EINVAL)
		return
	case !k.hears(pid):
		k.refuse(p, api.ESRCH)
		return
	}
	k.answer(p, 0)
	if sig > 0 {
		k.post(pid, sig)
	}
}

// change gives a process other signals, unless that is refused, and answers what was there.
func (k *Kernel) change(p *process, old uint32, after api.Signals, e api.Errno) {
	if e != api.OK {
		k.refuse(p, api.EINVAL)
		return
	}
	p.signals = after
	k.answer(p, old)
}

func (k *Kernel) sysMask(p *process, args arguments) {
	old, after, e := signal.Mask(p.signals, args[0])
	k.change(p, old, after, e)
}

func (k *Kernel) sysHandle(p *process, args arguments) {
	old, after, e := signal.Handle(p.signals, number(args[0]), args[1])
	k.change(p, old, after, e)
}

func (k *Kernel) sysSigreturn(p *process, _ arguments) {
	after, e := signal.Return(p.signals)
	if e != api.OK {
		k.refuse(p, api.EINVAL)
		return
	}
	p.signals, p.cpu = after, p.saved
}

func (k *Kernel) sysFutexwait(p *process, args arguments) {
	there, ok := p.futexAt(args[0])
	switch {
	case !ok:
		k.refuse(p, api.EFAULT)
		return
	case there != args[1]:
		k.refuse(p, api.EAGAIN)
		return
	}
	k.block(p, api.WaitFutex, 0)
	k.futexes.Wait(p.pid, p.key(args[0]))
}

func (k *Kernel) sysFutexwake(p *process, args arguments) {
	if _, ok := p.futexAt(args[0]); !ok {
		k.refuse(p, api.EFAULT)
		return
	}
	woken := k.futexes.Wake(p.key(args[0]), number(args[1]))
	for _, pid := range woken {
		k.release(k.live[pid], 0)
	}
	k.answer(p, uint32(len(woken)))
}

func (k *Kernel) sysSleep(p *process, args arguments) {
	ticks := args[0]
	if ticks == 0 {
		k.answer(p, 0)
		return
	}
	k.block(p, api.WaitSleep, 0)
	k.sleepers.Add(p.pid, ticks)
}

func (k *Kernel) sysYield(p *process, _ arguments) {
	k.queues.Cut(p.pid)
	k.ready(p)
	k.answer(p, 0)
}

func (k *Kernel) sysMap(p *process, args arguments) {
	how := args[2]
	if how > mapAll {
		k.refuse(p, api.EINVAL)
		return
	}
	k.refuse(p, p.space.Map(number(args[0]), number(args[1]), how&mapWrite != 0, how&mapShared != 0))
}

func (k *Kernel) sysUnmap(p *process, args arguments) {
	k.refuse(p, p.space.Unmap(number(args[0]), number(args[1])))
}

func (k *Kernel) sysAffinity(p *process, args arguments) {
	old := p.affinity
	if !k.queues.May(args[0]) {
		k.refuse(p, api.EINVAL)
		return
	}
	k.answer(p, old)
	k.settle(p, args[0])
}

// sysPrint is not told as a result beside what is printed.
func (k *Kernel) sysPrint(p *process, args arguments) {
	k.see(api.Seen{Pid: p.pid, Kind: api.SeenPrint, Value: args[0]})
	k.pass(p, 0)
}

// settle gives a process an affinity; one that is Blocked goes there when it becomes Ready.
func (k *Kernel) settle(p *process, mask uint32) {
	p.affinity = mask
	if p.wait == api.WaitNone {
		p.core, _ = k.queues.Move(p.pid, mask)
	}
}
