package kernel_test

import (
	"slices"

	"carryall/api"
)

// fd is an open file of that side; none, if a descriptor is of another one, or none.
func (b *being) fd(a uint32, write bool) *ending {
	if a > 7 || b.fds[a] == nil || b.fds[a].write != write {
		return nil
	}
	return b.fds[a]
}

func (b *being) free() []int {
	var l []int
	for fd, x := range b.fds {
		if x == nil {
			l = append(l, fd)
		}
	}
	return l
}

// call does one: by the chapter's table.
func (m *model) call(b *being, n, x, y, z uint32) {
	code := func(code int) { m.answer(b, minus(code)) }
	switch n {
	case api.SysExit:
		m.exit(b, x)
	case api.SysFork:
		m.fork(b)
	case api.SysWait:
		m.wait(b, x)
	case api.SysGetpid:
		m.answer(b, uint32(b.pid))
	case api.SysGetppid:
		m.answer(b, uint32(b.parent))
	case api.SysPipe:
		m.pipe(b, x)
	case api.SysRead:
		m.readPipe(b, x, y, z)
	case api.SysWrite:
		m.writePipe(b, x, y, z)
	case api.SysClose:
		if x > 7 || b.fds[x] == nil {
			code(api.EBADF)
			return
		}
		m.answer(b, 0)
		m.drop(b, int(x))
	case api.SysDup:
		switch {
		case x > 7 || b.fds[x] == nil:
			code(api.EBADF)
		case len(b.free()) == 0:
			code(api.EMFILE)
		default:
			to := b.free()[0]
			b.fds[to] = b.fds[x]
			m.answer(b, uint32(to))
		}
	case api.SysKill:
		other := m.beings[int(x)]
		switch {
		case y > 15:
			code(api.EINVAL)
		case other == nil || !other.hears:
			code(api.ESRCH)
		default:
			m.answer(b, 0)
			if y > 0 {
				m.post(other, int(y))
			}
		}
	case api.SysMask:
		if x&^0xfffe != 0 {
			code(api.EINVAL)
			return
		}
		old := bits(b.mask)
		b.mask = ofBits(x &^ (1 << 9))
		m.answer(b, old)
	case api.SysHandle:
		if x == 0 || x > 15 || x == 9 {
			code(api.EINVAL)
			return
		}
		old := b.handlers[x]
		b.handlers[x] = y
		m.answer(b, old)
	case api.SysSigreturn:
		if !b.busy {
			code(api.EINVAL)
			return
		}
		b.busy, b.cpu = false, b.saved
	case api.SysPrint:
		m.seen = append(m.seen, api.Seen{Pid: b.pid, Kind: api.SeenPrint, Value: x})
		b.cpu.R[0], b.cpu.Pc = 0, b.cpu.Pc+4
	default:
		m.callOn(b, n, x, y, z)
	}
}

func (m *model) callOn(b *being, n, x, y, z uint32) {
	code := func(code int) { m.answer(b, minus(code)) }
	switch n {
	case api.SysFutexwait:
		w, ok := view{m, b}.Word(x)
		switch {
		case !ok || x%4 != 0:
			code(api.EFAULT)
		case w != y:
			code(api.EAGAIN)
		default:
			m.block(b, api.WaitFutex)
			b.spot = b.spotOf(x)
			m.line = append(m.line, b)
		}
	case api.SysFutexwake:
		if _, ok := (view{m, b}).Word(x); !ok || x%4 != 0 {
			code(api.EFAULT)
			return
		}
		woken := uint32(0)
		for _, other := range slices.Clone(m.line) {
			if woken < y && other.spot == b.spotOf(x) {
				woken++
				m.answer(other, 0)
				m.ready(other)
			}
		}
		m.answer(b, woken)
	case api.SysSleep:
		if x == 0 {
			m.answer(b, 0)
			return
		}
		m.block(b, api.WaitSleep)
		b.left = x
	case api.SysYield:
		m.cut(b)
		m.ready(b)
		m.answer(b, 0)
	case api.SysMap:
		m.mapPages(b, x, y, z)
	case api.SysUnmap:
		if y == 0 || uint64(x)+uint64(y) > 64 || slices.Contains(b.pages[x:x+y], nil) {
			code(api.EINVAL)
			return
		}
		clear(b.pages[x : x+y])
		m.answer(b, 0)
	case api.SysAffinity:
		if !m.may(x) {
			code(api.EINVAL)
			return
		}
		m.answer(b, b.affinity)
		m.settle(b, x)
	default:
		code(api.ENOSYS)
	}
}

func (b *being) spotOf(a uint32) spot {
	if s := b.pages[a/64]; s.shared {
		return spot{content: s.content, off: int(a % 64)}
	}
	return spot{pid: b.pid, off: int(a)}
}

func (m *model) fork(b *being) {
	if len(m.beings) == m.boot.Procs {
		m.answer(b, minus(api.EAGAIN))
		return
	}
	child := *b
	child.pid, child.parent = m.next, b.pid
	m.next++
	child.pending = [16]bool{}
	child.cpu.R[0], child.cpu.Pc = 0, b.cpu.Pc+4
	for page, s := range b.pages {
		if s != nil {
			s.cow = s.cow || s.write && !s.shared
			twin := *s
			child.pages[page] = &twin
		}
	}
	m.beings[child.pid] = &child
	m.ready(&child)
	m.answer(b, uint32(child.pid))
}

func (m *model) wait(b *being, a uint32) {
	children := 0
	for _, pid := range m.pids() {
		x := m.beings[pid]
		if x.parent != b.pid {
			continue
		}
		children++
		if x.state != api.ProcZombie {
			continue
		}
		if a != 0 {
			if code := m.store(b, a, x.status); code != 0 {
				m.answer(b, minus(code))
				return
			}
		}
		delete(m.beings, pid)
		m.answer(b, uint32(pid))
		return
	}
	if children == 0 {
		m.answer(b, minus(api.ECHILD))
		return
	}
	m.block(b, api.WaitChild)
}

func (m *model) pipe(b *being, a uint32) {
	free := b.free()
	switch {
	case len(free) < 2:
		m.answer(b, minus(api.EMFILE))
		return
	case m.room().Files < 2 || m.room().Pipes < 1:
		m.answer(b, minus(api.ENFILE))
		return
	}
	if code := m.store(b, a, uint32(free[0]), uint32(free[1])); code != 0 {
		m.answer(b, minus(code))
		return
	}
	c := &channel{}
	b.fds[free[0]] = &ending{c, false}
	b.fds[free[1]] = &ending{c, true}
	m.answer(b, 0)
}

func (m *model) readPipe(b *being, fd, a, n uint32) {
	x := b.fd(fd, false)
	switch {
	case x == nil:
		m.answer(b, minus(api.EBADF))
		return
	case n > 4096:
		m.answer(b, minus(api.EINVAL))
		return
	}
	_, writers := m.sides(x.to)
	if n > 0 && len(x.to.bytes) == 0 && writers > 0 {
		m.block(b, api.WaitRead)
		b.at = x.to
		return
	}
	l := x.to.bytes[:min(int(n), len(x.to.bytes))]
	if code := m.write(b, a, l); code != 0 {
		m.answer(b, minus(code))
		return
	}
	x.to.bytes = x.to.bytes[len(l):]
	if len(l) > 0 {
		m.wake(x.to, api.WaitWrite)
	}
	m.answer(b, uint32(len(l)))
}

func (m *model) writePipe(b *being, fd, a, n uint32) {
	x := b.fd(fd, true)
	switch {
	case x == nil:
		m.answer(b, minus(api.EBADF))
		return
	case n > 4096:
		m.answer(b, minus(api.EINVAL))
		return
	}
	readers, _ := m.sides(x.to)
	room := m.boot.Pipe - len(x.to.bytes)
	switch {
	case readers == 0:
		m.answer(b, minus(api.EPIPE))
		return
	case n > 0 && room == 0:
		m.block(b, api.WaitWrite)
		b.at = x.to
		return
	}
	l, ok := b.read(a, min(int(n), room))
	if !ok {
		m.answer(b, minus(api.EFAULT))
		return
	}
	x.to.bytes = append(slices.Clone(x.to.bytes), l...)
	if len(l) > 0 {
		m.wake(x.to, api.WaitRead)
	}
	m.answer(b, uint32(len(l)))
}

func (m *model) mapPages(b *being, page, n, how uint32) {
	switch {
	case how > 3 || n == 0 || uint64(page)+uint64(n) > 64:
		m.answer(b, minus(api.EINVAL))
		return
	}
	for i := range n {
		if b.pages[page+i] != nil {
			m.answer(b, minus(api.EINVAL))
			return
		}
	}
	if m.room().Frames < int(n) {
		m.answer(b, minus(api.ENOMEM))
		return
	}
	for i := range n {
		b.pages[page+i] = &sheet{content: &content{}, write: how&1 != 0, shared: how&2 != 0, dirty: true}
	}
	m.answer(b, 0)
}
