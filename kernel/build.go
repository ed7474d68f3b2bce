package kernel

import (
	"carryall/api"
	"carryall/pages"
	"carryall/pipe"
	"carryall/signal"
	"carryall/space"
)

// Freeze takes a tree's processes away.
func (k *Kernel) Freeze(pid int) ([]int, api.Errno) {
	switch e := k.over(); {
	case e != api.OK:
		return nil, e
	case pid == 1 || k.live[pid] == nil:
		return nil, api.ErrKernel
	}
	all, _ := k.table.Freeze(pid)
	for _, one := range all {
		if p := k.live[one]; p != nil {
			k.kept[one] = api.Signals{Pending: p.signals.Pending}
			k.leave(p)
			delete(k.live, one)
		}
	}
	return all, api.OK
}

// Frame takes a frame, with bytes.
func (k *Kernel) Frame(b []byte) (int, api.Errno) {
	switch e := k.unmade(); {
	case e != api.OK:
		return 0, e
	case len(b) > api.PageSize:
		return 0, api.ErrArg
	}
	n, e := k.frames.Take()
	if e != api.OK {
		return 0, e
	}
	return n, k.frames.Write(n, 0, b)
}

// Unframe gives one back.
func (k *Kernel) Unframe(frame int) api.Errno {
	_, e := k.held().frames.Drop(frame)
	return e
}

// AddPipe makes a pipe.
func (k *Kernel) AddPipe(x api.PipeState) (int, api.Errno) {
	if e := k.unmade(); e != api.OK {
		return 0, e
	}
	p, e := pipe.Of(k.capacity, x.Bytes, x.Readers, x.Writers)
	slot := k.slot()
	switch {
	case e != api.OK:
		return 0, e
	case slot < 0:
		return 0, api.ErrFiles
	}
	k.pipes[slot] = p
	return slot, api.OK
}

// AddFile opens an end of a pipe, whose counts have it already.
func (k *Kernel) AddFile(x api.File) (int, api.Errno) {
	switch e := k.unmade(); {
	case e != api.OK:
		return 0, e
	case !k.hasSide(x):
		return 0, api.ErrPipe
	}
	return k.files.Open(x)
}

// Unfile closes one.
func (k *Kernel) Unfile(n int) api.Errno {
	switch e := k.unmade(); {
	case e != api.OK:
		return e
	case k.files.Refs(n) == 0:
		return api.ErrFile
	}
	k.drop(n)
	return api.OK
}

// May says whether a process may be added, of its pid and parent (0: as it was).
func (k *Kernel) May(pid, parent int) api.Errno {
	return k.held().table.May(pid, parent)
}

// Add lets a process be there (again).
func (k *Kernel) Add(x api.Process) api.Errno {
	isLive := x.State == api.ProcLive
	switch e := k.over(); {
	case e != api.OK:
		return e
	case isLive && !k.fits(x):
		return api.ErrArg
	}
	if e := k.table.Thaw(x.Pid, x.Parent, x.State, x.Status); e != api.OK {
		return e
	}
	if isLive {
		k.revive(x)
	}
	delete(k.kept, x.Pid)
	return api.OK
}

// fits says whether a live one may be there as it is, but for what the table says.
func (k *Kernel) fits(x api.Process) bool {
	return signal.Check(x.Signals) == api.OK && k.queues.May(x.Affinity) && k.fitFds(x.Fds) && k.fitsWait(x) && k.fitPages(x.Pages)
}

func (k *Kernel) fitFds(fds []int) bool {
	for _, n := range fds {
		if n >= 0 && k.files.Refs(n) == 0 {
			return false
		}
	}
	return len(fds) <= api.MaxFds
}

func (k *Kernel) fitsWait(x api.Process) bool {
	switch {
	case x.Wait < api.WaitNone || x.Wait > api.WaitSleep:
		return false
	case isAtPipe(x.Wait) && k.pipeAt(x.Pipe) == nil:
		return false
	}
	return (x.Wait == api.WaitSleep) == (x.Left > 0)
}

func isAtPipe(wait int) bool {
	return wait == api.WaitRead || wait == api.WaitWrite
}

func (k *Kernel) fitPages(l []api.Mapped) bool {
	last := -1
	for _, m := range l {
		if m.Page <= last || m.Page >= api.Pages || pages.Check(m.Entry) != api.OK || k.frames.Refs(m.Entry.Frame) == 0 {
			return false
		}
		last = m.Page
	}
	return true
}

// revive lets a live one be there that fits.
func (k *Kernel) revive(x api.Process) {
	p := &process{
		pid:      x.Pid,
		cpu:      x.Cpu,
		saved:    x.Saved,
		space:    space.New(k.frames),
		signals:  x.Signals,
		affinity: x.Affinity,
		core:     x.Core,
	}
	p.signals.Pending |= k.kept[p.pid].Pending
	for _, m := range x.Pages {
		p.space.Attach(m.Page, m.Entry)
	}
	k.share(x.Fds, &p.fds)
	k.live[p.pid] = p
	switch {
	case x.Wait == api.WaitNone:
		k.ready(p)
	case isAtPipe(x.Wait):
		k.block(p, x.Wait, x.Pipe)
	default:
		k.block(p, x.Wait, 0)
	}
	if x.Wait == api.WaitSleep {
		k.sleepers.Add(p.pid, x.Left)
	}
}

// AddWait lets a process wait at a futex.
func (k *Kernel) AddWait(x api.Waiter) api.Errno {
	if e := k.unmade(); e != api.OK {
		return e
	}
	if p := k.live[x.Pid]; p == nil || p.wait != api.WaitFutex {
		return api.ErrKernel
	}
	return k.futexes.Wait(x.Pid, x.Key)
}

// Nudge lets a signal that is pending wake a process.
func (k *Kernel) Nudge(pid int) ([]api.Seen, api.Errno) {
	if e := k.over(); e != api.OK {
		return nil, e
	}
	p := k.live[pid]
	if p == nil {
		return nil, api.ErrKernel
	}
	for _, sig := range signal.List(p.signals.Pending) {
		k.post(pid, sig)
	}
	return k.told(), api.OK
}

// Move sets a process' affinity, and moves it there.
func (k *Kernel) Move(pid int, mask uint32) api.Errno {
	if e := k.over(); e != api.OK {
		return e
	}
	p := k.live[pid]
	if p == nil || !k.queues.May(mask) {
		return api.ErrKernel
	}
	k.settle(p, mask)
	return api.OK
}
