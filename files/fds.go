package files

import "carryall/api"

// free stands for the number of a descriptor that is of none.
const free = -1

// Fds are a process' descriptors. Each stands as one more than the number that it is of, so that their zero has none, and nobody has to make them.
type Fds struct {
	over [api.MaxFds]int
}

// least is the least one that is free; MaxFds, if none is.
func (d *Fds) least() int {
	for fd, n := range d.List() {
		if n == free {
			return fd
		}
	}
	return api.MaxFds
}

// of is the number that a descriptor has to be of, or what is wrong with it.
func (d *Fds) of(fd int) (int, api.Errno) {
	n := d.Get(fd)
	switch {
	case d == nil:
		return 0, api.ErrNil
	case n == free:
		return 0, api.ErrFd
	}
	return n, api.OK
}

// Put gives the least free one a number.
func (d *Fds) Put(n int) (int, api.Errno) {
	fd := d.least()
	switch {
	case d == nil:
		return 0, api.ErrNil
	case !below(n, api.MaxFiles):
		return 0, api.ErrArg
	case fd == api.MaxFds:
		return 0, api.ErrFds
	}
	return fd, d.Set(fd, n)
}

// Set gives one a number.
func (d *Fds) Set(fd, n int) api.Errno {
	switch {
	case d == nil:
		return api.ErrNil
	case !below(n, api.MaxFiles):
		return api.ErrArg
	case !below(fd, api.MaxFds) || d.Get(fd) != free:
		return api.ErrFd
	}
	d.over[fd] = n + 1
	return api.OK
}

// Get is what one is of.
func (d *Fds) Get(fd int) int {
	if d == nil || !below(fd, api.MaxFds) {
		return free
	}
	return d.over[fd] - 1
}

// Close frees one.
func (d *Fds) Close(fd int) (int, api.Errno) {
	n, e := d.of(fd)
	if e == api.OK {
		d.over[fd] = 0
	}
	return n, e
}

// Dup gives another one the same.
func (d *Fds) Dup(fd int) (int, api.Errno) {
	n, e := d.of(fd)
	if e != api.OK {
		return 0, e
	}
	return d.Put(n)
}

// List are all.
func (d *Fds) List() []int {
	if d == nil {
		return nil
	}
	l := make([]int, api.MaxFds)
	for fd := range l {
		l[fd] = d.Get(fd)
	}
	return l
}

// Len is how many are not free.
func (d *Fds) Len() int {
	many := 0
	for _, n := range d.List() {
		if n != free {
			many++
		}
	}
	return many
}

// Copy is the same.
func (d *Fds) Copy() *Fds {
	if d == nil {
		return nil
	}
	other := *d
	return &other
}
