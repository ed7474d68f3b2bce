package kernel

import (
	"slices"

	"carryall/api"
	"carryall/call"
	"carryall/core"
	"carryall/signal"
)

const (
	ended   = 128 // what a status is more than the signal by which a process ended
	illegal = 4   // what counts as that signal of a word that is no instruction
)

// Step lets the n-th one of a core's queue do a step.
func (k *Kernel) Step(core int, n uint32) ([]api.Seen, api.Errno) {
	switch e := k.over(); {
	case e != api.OK:
		return nil, e
	case !k.isCore(core):
		return nil, api.ErrKernel
	}
	if p := k.live[k.queues.Pick(core, n)]; p != nil {
		k.step(p)
	}
	return k.told(), api.OK
}

// Run lets a process of a core's queue do one.
func (k *Kernel) Run(core, pid int) ([]api.Seen, api.Errno) {
	switch e := k.over(); {
	case e != api.OK:
		return nil, e
	case !k.isCore(core) || k.queues.Where(pid) != core:
		return nil, api.ErrKernel
	}
	k.step(k.live[pid])
	return k.told(), api.OK
}

// Rotate rotates a core's queue.
func (k *Kernel) Rotate(core int) api.Errno {
	switch e := k.over(); {
	case e != api.OK:
		return e
	case !k.isCore(core):
		return api.ErrKernel
	}
	k.queues.Rotate(core)
	return api.OK
}

// Tick lets a tick pass.
func (k *Kernel) Tick() ([]api.Seen, api.Errno) {
	if e := k.over(); e != api.OK {
		return nil, e
	}
	for _, pid := range k.sleepers.Tick() {
		k.release(k.live[pid], 0)
	}
	return k.told(), api.OK
}

// Signal posts a signal from outside.
func (k *Kernel) Signal(pid, sig int) ([]api.Seen, api.Errno) {
	switch e := k.over(); {
	case e != api.OK:
		return nil, e
	case !k.hears(pid) || sig < 1 || sig > api.MaxSig:
		return nil, api.ErrKernel
	}
	k.post(pid, sig)
	return k.told(), api.OK
}

// step lets a Ready one do a step. Its signals are those behind Next also where that tells none: what is ignored is pending no more.
func (k *Kernel) step(p *process) {
	sig, becomes, after := signal.Next(p.signals)
	p.signals = after
	switch becomes {
	case api.SigFatal:
		k.exit(p, ended+uint32(sig))
	case api.SigHandled:
		k.deliver(p, sig)
	default:
		k.instruct(p)
	}
}

// deliver lets a handler begin.
func (k *Kernel) deliver(p *process, sig int) {
	p.saved = p.cpu
	p.cpu.R[0] = uint32(sig)
	p.cpu.Pc = p.signals.Handlers[sig]
	k.see(api.Seen{Pid: p.pid, Kind: api.SeenSignal, Value: uint32(sig)})
}

// instruct lets an instruction be done.
func (k *Kernel) instruct(p *process) {
	cpu, trap := core.Step(p.cpu, p.space)
	switch trap {
	case api.TrapFault:
		k.exit(p, ended+api.SigFault)
	case api.TrapIllegal:
		k.exit(p, ended+illegal)
	case api.TrapSys:
		k.ask(p)
	default:
		p.cpu = cpu
	}
}

// answer lets a call be answered by a word: that of one who waits still stands in its registers.
func (k *Kernel) answer(p *process, w uint32) {
	c, _ := call.Of(p.cpu.R)
	k.pass(p, w)
	k.see(api.Seen{Pid: p.pid, Kind: api.SeenResult, Call: c.N, Value: w})
}

// refuse lets one be answered by a code, or by 0 where there is none.
func (k *Kernel) refuse(p *process, code int) {
	k.answer(p, call.Answer(code))
}

// release lets the call of one who waits be answered.
func (k *Kernel) release(p *process, w uint32) {
	k.answer(p, w)
	k.ready(p)
}

// pass lets a process go on behind its call.
func (k *Kernel) pass(p *process, w uint32) {
	p.cpu.R[0] = w
	p.cpu.Pc += wordSize
}

// hears says whether a signal may be posted to one: it is live, or frozen, and was live.
func (k *Kernel) hears(pid int) bool {
	_, isKept := k.kept[pid]
	return isKept || k.live[pid] != nil
}

// post posts a signal to one who hears it.
func (k *Kernel) post(pid, sig int) {
	if s, isKept := k.kept[pid]; isKept {
		k.kept[pid], _ = signal.Post(s, sig)
	}
	p := k.live[pid]
	if p == nil {
		return
	}
	p.signals, _ = signal.Post(p.signals, sig)
	if p.wait != api.WaitNone && signal.Wakes(p.signals) {
		k.release(p, call.Answer(api.EINTR))
	}
}

// exit lets a process end.
func (k *Kernel) exit(p *process, status uint32) {
	k.see(api.Seen{Pid: p.pid, Kind: api.SeenExit, Value: status})
	k.leave(p)
	if p.pid == 1 {
		k.halted = true
		return
	}
	delete(k.live, p.pid)
	parent := k.table.Parent(p.pid)
	orphans, _ := k.table.Exit(p.pid, status)
	if slices.ContainsFunc(orphans, k.isZombie) {
		k.bereave(1)
	}
	k.bereave(parent)
	k.post(parent, api.SigChild)
}

func (k *Kernel) isZombie(pid int) bool {
	return k.table.State(pid) == api.ProcZombie
}

// bereave lets one who waits for a child ask again.
func (k *Kernel) bereave(pid int) {
	if p := k.live[pid]; p != nil && p.wait == api.WaitChild {
		k.ready(p)
	}
}
