package kernel_test

import (
	"slices"

	"carryall/api"
	"carryall/core"
)

// What follows is a plain machine: beings that point at what they have. It has no numbers of frames, open files and pipes, and counts what is had by going through all beings.

// content is a page's bytes, which several may have.
type content struct{ bytes [64]byte }

type sheet struct {
	content                   *content
	write, shared, cow, dirty bool
}

type channel struct{ bytes []byte }

// ending is an open file.
type ending struct {
	to    *channel
	write bool
}

// spot is where one waits: at a content, or at a being's own address.
type spot struct {
	pid     int
	content *content
	off     int
}

type being struct {
	pid, parent, state int
	status             uint32
	cpu, saved         api.Cpu
	pages              [64]*sheet
	fds                [8]*ending
	pending            [16]bool // of one that is frozen, too, if it hears
	hears              bool
	mask               [16]bool
	handlers           [16]uint32
	busy               bool
	wait               int
	at                 *channel
	spot               spot
	left               uint32
	affinity           uint32
	core               int
}

type model struct {
	boot   api.Boot
	beings map[int]*being
	next   int
	queues [8][]*being
	line   []*being
	seen   []api.Seen
	halted bool
}

func newModel(b api.Boot) *model {
	m := &model{boot: b, beings: map[int]*being{}, next: 2}
	first := &being{pid: 1, state: api.ProcLive, hears: true, affinity: 1<<b.Cores - 1}
	for i, w := range b.Program {
		page := i * 4 / 64
		if first.pages[page] == nil {
			first.pages[page] = &sheet{content: &content{}, write: true, dirty: true}
		}
		for j := range 4 {
			first.pages[page].content.bytes[i*4%64+j] = byte(w >> (8 * j))
		}
	}
	m.beings[1] = first
	m.ready(first)
	return m
}

func (m *model) pids() []int {
	var l []int
	for pid := range m.beings {
		l = append(l, pid)
	}
	slices.Sort(l)
	return l
}

// live are those that are, by pids.
func (m *model) live() []*being {
	var l []*being
	for _, pid := range m.pids() {
		if m.beings[pid].state == api.ProcLive {
			l = append(l, m.beings[pid])
		}
	}
	return l
}

// contents counts how many pages have each.
func (m *model) contents() map[*content]int {
	had := map[*content]int{}
	for _, b := range m.live() {
		for _, s := range b.pages {
			if s != nil {
				had[s.content]++
			}
		}
	}
	return had
}

// endings counts how many descriptors have each.
func (m *model) endings() map[*ending]int {
	had := map[*ending]int{}
	for _, b := range m.live() {
		for _, x := range b.fds {
			if x != nil {
				had[x]++
			}
		}
	}
	return had
}

// sides counts a pipe's readers and writers.
func (m *model) sides(c *channel) (readers, writers int) {
	for x := range m.endings() {
		switch {
		case x.to != c:
		case x.write:
			writers++
		default:
			readers++
		}
	}
	return readers, writers
}

func (m *model) channels() int {
	all := map[*channel]bool{}
	for x := range m.endings() {
		all[x.to] = true
	}
	return len(all)
}

func (m *model) room() api.Room {
	return api.Room{Frames: m.boot.Frames - len(m.contents()), Procs: m.boot.Procs - len(m.beings), Files: 64 - len(m.endings()), Pipes: 16 - m.channels()}
}

// fewest is the core of a mask with the fewest.
func (m *model) fewest(mask uint32) int {
	best := -1
	for c := range m.boot.Cores {
		if mask>>c&1 == 1 && (best < 0 || len(m.queues[c]) < len(m.queues[best])) {
			best = c
		}
	}
	return best
}

func (m *model) ready(b *being) {
	b.wait, b.at, b.spot, b.left = api.WaitNone, nil, spot{}, 0
	m.line = slices.DeleteFunc(m.line, func(x *being) bool { return x == b })
	if b.core < 0 || b.core >= m.boot.Cores || b.affinity>>b.core&1 == 0 {
		b.core = m.fewest(b.affinity)
	}
	m.queues[b.core] = append(m.queues[b.core], b)
}

func (m *model) cut(b *being) {
	for c := range m.queues {
		m.queues[c] = slices.DeleteFunc(m.queues[c], func(x *being) bool { return x == b })
	}
}

func (m *model) block(b *being, wait int) {
	m.cut(b)
	b.wait = wait
}

func (m *model) answer(b *being, w uint32) {
	n := int(b.cpu.R[0])
	if n > 22 {
		n = 0
	}
	b.cpu.R[0], b.cpu.Pc = w, b.cpu.Pc+4
	m.seen = append(m.seen, api.Seen{Pid: b.pid, Kind: api.SeenResult, Call: n, Value: w})
}

// Word, and its like, are what core asks of a memory.
type view struct {
	m *model
	b *being
}

func (v view) Word(a uint32) (uint32, bool) {
	l, ok := v.b.read(a, 4)
	if !ok {
		return 0, false
	}
	return uint32(l[0]) | uint32(l[1])<<8 | uint32(l[2])<<16 | uint32(l[3])<<24, true
}

func (v view) Byte(a uint32) (byte, bool) {
	l, ok := v.b.read(a, 1)
	if !ok {
		return 0, false
	}
	return l[0], true
}

func (v view) SetWord(a, w uint32) bool { return v.m.store(v.b, a, w) == 0 }

func (v view) SetByte(a uint32, w byte) bool { return v.m.write(v.b, a, []byte{w}) == 0 }

func (b *being) read(a uint32, n int) ([]byte, bool) {
	var l []byte
	for i := range uint64(n) {
		at := uint64(a) + i
		if at >= 4096 || b.pages[at/64] == nil {
			return nil, false
		}
		l = append(l, b.pages[at/64].content.bytes[at%64])
	}
	return l, true
}

func (m *model) store(b *being, a uint32, words ...uint32) int {
	var l []byte
	for _, w := range words {
		l = append(l, byte(w), byte(w>>8), byte(w>>16), byte(w>>24))
	}
	return m.write(b, a, l)
}

func (m *model) write(b *being, a uint32, l []byte) int {
	pages := map[uint64]bool{}
	for i := range uint64(len(l)) {
		at := uint64(a) + i
		if at >= 4096 || b.pages[at/64] == nil || !b.pages[at/64].write {
			return api.EFAULT
		}
		pages[at/64] = true
	}
	had := m.contents()
	free := m.boot.Frames - len(had)
	for page := range uint64(64) {
		if s := b.pages[page]; pages[page] && s.cow && had[s.content] > 1 {
			free--
			had[s.content]--
		}
	}
	if free < 0 {
		return api.ENOMEM
	}
	for i, x := range l {
		at := uint64(a) + uint64(i)
		s := b.pages[at/64]
		if s.cow && m.contents()[s.content] > 1 {
			s.content = &content{s.content.bytes}
		}
		s.cow, s.dirty = false, true
		s.content.bytes[at%64] = x
	}
	return 0
}

// next is the signal that a being is told next: 0, if there is none. What is ignored goes, if it goes for good.
func (b *being) nextSignal(for_ bool) int {
	for sig := 1; sig <= 15; sig++ {
		if !b.pending[sig] || sig != 9 && (b.busy || b.mask[sig]) {
			continue
		}
		h := b.handlers[sig]
		if sig != 9 && (h == 1 || h == 0 && sig == 12) {
			if for_ {
				b.pending[sig] = false
			}
			continue
		}
		return sig
	}
	return 0
}

func (m *model) post(b *being, sig int) {
	if b == nil || !b.hears {
		return
	}
	b.pending[sig] = true
	if b.state == api.ProcLive && b.wait != api.WaitNone && b.nextSignal(false) != 0 {
		m.answer(b, minus(api.EINTR))
		m.ready(b)
	}
}

func (m *model) step(b *being) {
	sig := b.nextSignal(true)
	if sig != 0 {
		b.pending[sig] = false
		if sig == 9 || b.handlers[sig] == 0 {
			m.exit(b, 128+uint32(sig))
			return
		}
		b.saved = b.cpu
		b.busy = true
		b.cpu.R[0], b.cpu.Pc = uint32(sig), b.handlers[sig]
		m.seen = append(m.seen, api.Seen{Pid: b.pid, Kind: api.SeenSignal, Value: uint32(sig)})
		return
	}
	c, trap := core.Step(b.cpu, view{m, b})
	switch trap {
	case api.TrapFault:
		m.exit(b, 139)
	case api.TrapIllegal:
		m.exit(b, 132)
	case api.TrapSys:
		m.call(b, b.cpu.R[0], b.cpu.R[1], b.cpu.R[2], b.cpu.R[3])
	default:
		b.cpu = c
	}
}

// drop lets a descriptor be free, and tells those who wait for that.
func (m *model) drop(b *being, fd int) {
	x := b.fds[fd]
	b.fds[fd] = nil
	if m.endings()[x] > 0 {
		return
	}
	readers, writers := m.sides(x.to)
	if x.write && writers == 0 {
		m.wake(x.to, api.WaitRead)
	}
	if !x.write && readers == 0 {
		m.wake(x.to, api.WaitWrite)
	}
}

func (m *model) wake(c *channel, wait int) {
	for _, b := range m.live() {
		if b.wait == wait && b.at == c {
			m.ready(b)
		}
	}
}

// leave takes all from a being.
func (m *model) leave(b *being) {
	m.cut(b)
	m.line = slices.DeleteFunc(m.line, func(x *being) bool { return x == b })
	b.wait, b.at, b.spot, b.left = api.WaitNone, nil, spot{}, 0
	b.pages = [64]*sheet{}
	for fd := range b.fds {
		if b.fds[fd] != nil {
			m.drop(b, fd)
		}
	}
}

func (m *model) exit(b *being, status uint32) {
	m.seen = append(m.seen, api.Seen{Pid: b.pid, Kind: api.SeenExit, Value: status})
	m.leave(b)
	if b.pid == 1 {
		m.halted = true
		return
	}
	*b = being{pid: b.pid, parent: b.parent, state: api.ProcZombie, status: status}
	for _, x := range m.beings {
		if x.parent == b.pid {
			x.parent = 1
			if one := m.beings[1]; x.state == api.ProcZombie && one.wait == api.WaitChild {
				m.ready(one)
			}
		}
	}
	parent := m.beings[b.parent]
	if parent.state == api.ProcLive && parent.wait == api.WaitChild {
		m.ready(parent)
	}
	m.post(parent, 12)
}

// inTree says whether one is of another one's tree.
func (m *model) inTree(pid, top int) bool {
	for pid != 0 && pid != top {
		pid = m.beings[pid].parent
	}
	return pid == top
}

func (m *model) tree(top int) []*being {
	var l []*being
	for _, pid := range m.pids() {
		if m.inTree(pid, top) {
			l = append(l, m.beings[pid])
		}
	}
	return l
}

func (m *model) freeze(pid int) {
	for _, b := range m.tree(pid) {
		was := *b
		if b.state == api.ProcLive {
			m.leave(b)
		}
		*b = being{pid: b.pid, parent: b.parent, state: api.ProcFrozen}
		if was.hears {
			b.hears, b.pending = true, was.pending
		}
	}
}

func (m *model) settle(b *being, mask uint32) {
	b.affinity = mask
	if b.wait == api.WaitNone && mask>>b.core&1 == 0 {
		m.cut(b)
		m.ready(b)
	}
}

func (m *model) may(mask uint32) bool { return m.fewest(mask) >= 0 }

func bits(l [16]bool) uint32 {
	var w uint32
	for i, is := range l {
		if is {
			w |= 1 << i
		}
	}
	return w
}

func ofBits(w uint32) [16]bool {
	var l [16]bool
	for i := range l {
		l[i] = w>>i&1 == 1
	}
	return l
}
