package kernel_test

import (
	"math/rand"
	"testing"

	"carryall/api"
	"carryall/kernel"
)

// any calls with any arguments, also such as give frames and files back that somebody has still: each of them ends without a panic.
func anyCall(r *rand.Rand, k *kernel.Kernel) {
	n := func() int { return one(r, r.Intn(4), r.Intn(70), -1, 1<<62, -1<<62) }
	few := func() int { return r.Intn(9) }
	switch r.Intn(24) {
	case 0, 1, 2, 3, 4, 5, 6:
		k.Step(r.Intn(3), r.Uint32())
	case 7, 8:
		k.Run(r.Intn(3), few())
	case 9:
		k.Rotate(n())
	case 10, 11:
		k.Tick()
	case 12:
		k.Signal(few(), n())
	case 13:
		k.Freeze(few())
	case 14:
		k.Frame(make([]byte, r.Intn(67)))
	case 15:
		k.Unframe(n())
	case 16:
		k.AddPipe(api.PipeState{Bytes: make([]byte, r.Intn(5)), Readers: r.Intn(3), Writers: r.Intn(3)})
	case 17:
		k.AddFile(api.File{Pipe: n(), Write: r.Intn(2) == 0})
	case 18:
		k.Unfile(n())
	case 19, 20:
		k.Add(anyProcess(r))
	case 21:
		k.AddWait(api.Waiter{Pid: few(), Key: api.Key{Pid: r.Intn(3), Frame: few(), Off: r.Intn(64)}})
	case 22:
		k.Nudge(few())
	default:
		k.Move(few(), uint32(r.Intn(5)))
	}
}

func anyProcess(r *rand.Rand) api.Process {
	x := api.Process{Pid: 2 + r.Intn(9), Parent: r.Intn(5), State: one(r, 1, 1, 1, 2, r.Intn(5)), Affinity: uint32(r.Intn(4)), Core: r.Intn(4) - 1, Wait: r.Intn(7)}
	x.Cpu.R[0], x.Cpu.Pc = uint32(r.Intn(24)), uint32(4*r.Intn(200))
	for i := 1; i < 8; i++ {
		x.Cpu.R[i] = one(r, uint32(r.Intn(5)), uint32(r.Intn(1200)), r.Uint32())
	}
	if x.Wait == api.WaitSleep {
		x.Left = uint32(r.Intn(4))
	}
	x.Pipe = r.Intn(4)
	x.Signals = api.Signals{Pending: uint32(r.Intn(1<<16)) &^ 1, Mask: uint32(r.Intn(1<<16)) &^ (1 | 1<<9), Busy: r.Intn(2) == 0}
	for range r.Intn(9) {
		x.Fds = append(x.Fds, r.Intn(7)-1)
	}
	for page := range 16 {
		if r.Intn(3) == 0 {
			x.Pages = append(x.Pages, api.Mapped{Page: page, Entry: api.Entry{Frame: r.Intn(24), Write: r.Intn(3) > 0, Cow: r.Intn(2) == 0}})
		}
	}
	return x
}

func tells(r *rand.Rand, k *kernel.Kernel) {
	for n := -1; n < 20; n++ {
		k.Process(n)
		k.Page(n, n)
		k.File(n)
		k.Pipe(n)
		k.Refs(n)
		k.Queue(n)
		k.Tree(n)
		k.May(n, r.Intn(4))
		k.Dirty(n)
		k.Clean(n)
	}
	k.Waiters()
	k.Room()
	k.Pids()
	k.Next()
}

func TestP18_1_AnyCalls(t *testing.T) {
	live := 0
	for seed := range 2000 {
		r := rand.New(rand.NewSource(int64(seed)))
		k, e := kernel.New(api.Boot{Cores: 2, Frames: 26, Procs: 9, Pipe: 3, Program: program(t, r)})
		if e != api.OK {
			t.Fatal(e)
		}
		for range 600 {
			anyCall(r, k)
			if r.Intn(20) == 0 {
				tells(r, k)
			}
		}
		if !k.Halted() {
			live++
		}
	}
	if live < 50 {
		t.Error(live)
	}
}
