package kernel

import "carryall/api"

// Cores is how many there are.
func (k *Kernel) Cores() int { return k.held().queues.Cores() }

// Halted says whether process 1 has exited.
func (k *Kernel) Halted() bool { return k.held().halted }

// Queue is a core's.
func (k *Kernel) Queue(core int) []int { return k.held().queues.List(core) }

// Pids are all processes'.
func (k *Kernel) Pids() []int { return k.held().table.All() }

// Tree is a process'.
func (k *Kernel) Tree(pid int) []int { return k.held().table.Tree(pid) }

// Next is the next pid.
func (k *Kernel) Next() int { return k.held().table.Next() }

// Capacity is pipes'.
func (k *Kernel) Capacity() int { return k.held().capacity }

// Refs is how many pages have a frame.
func (k *Kernel) Refs(frame int) int { return k.held().frames.Refs(frame) }

// Waiters are those who wait at futexes, in the order in which they came.
func (k *Kernel) Waiters() []api.Waiter { return k.held().futexes.All() }

// Page is a page's bytes.
func (k *Kernel) Page(pid, page int) []byte { return k.held().spaceOf(pid).Page(page) }

// Dirty are a process' dirty pages.
func (k *Kernel) Dirty(pid int) []int { return k.held().spaceOf(pid).Dirty() }

// Clean lets none be dirty.
func (k *Kernel) Clean(pid int) int { return k.held().spaceOf(pid).Clean() }

// File is an open file, and how many descriptors have it.
func (k *Kernel) File(n int) (api.File, int) {
	x, _ := k.held().files.Get(n)
	return x, k.held().files.Refs(n)
}

// Pipe is one, as it is.
func (k *Kernel) Pipe(slot int) (api.PipeState, bool) {
	p := k.held().pipeAt(slot)
	return api.PipeState{Bytes: p.All(), Readers: p.Readers(), Writers: p.Writers()}, p != nil
}

// Room is how much is free.
func (k *Kernel) Room() api.Room {
	if !k.made() {
		return api.Room{}
	}
	free := 0
	for _, p := range k.pipes {
		if p == nil {
			free++
		}
	}
	return api.Room{Frames: k.frames.Free(), Procs: k.table.Free(), Files: k.files.Free(), Pipes: free}
}

// Process is one, as it is.
func (k *Kernel) Process(pid int) (api.Process, bool) {
	t := k.held().table
	state := t.State(pid)
	if state == api.ProcNone {
		return api.Process{}, false
	}
	x := api.Process{Pid: pid, Parent: t.Parent(pid), State: state, Status: t.Status(pid), Signals: k.kept[pid]}
	if p := k.live[pid]; p != nil {
		k.tell(p, &x)
	}
	return x, true
}

// tell tells what a live one alone has.
func (k *Kernel) tell(p *process, x *api.Process) {
	x.Cpu, x.Saved = p.cpu, p.saved
	x.Signals = p.signals
	x.Wait, x.Pipe = p.wait, p.slot
	x.Key, _ = k.futexes.Key(p.pid)
	x.Left, _ = k.sleepers.Left(p.pid)
	x.Fds = p.fds.List()
	x.Affinity, x.Core = p.affinity, p.core
	x.Pages = p.space.List()
}
