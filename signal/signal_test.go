package signal_test

import (
	"math"
	"math/rand"
	"slices"
	"testing"

	"carryall/api"
	"carryall/signal"
)

// plain is a process' signals, as the chapter's words say them, one by one: 1 to 15 have a place each, 0 has one that is never used.
type plain struct {
	pending, masked [16]bool
	handlers        [16]uint32
	busy            bool
}

// signals are these as the package has them.
func (p plain) signals() api.Signals {
	s := api.Signals{Handlers: p.handlers, Busy: p.busy}
	for sig := range 16 {
		if p.pending[sig] {
			s.Pending += uint32(math.Pow(2, float64(sig)))
		}
		if p.masked[sig] {
			s.Mask += uint32(math.Pow(2, float64(sig)))
		}
	}
	return s
}

// plainOf is what signals that may be are, one by one.
func plainOf(s api.Signals) plain {
	p := plain{handlers: s.Handlers, busy: s.Busy}
	for sig := 1; sig <= 15; sig++ {
		p.pending[sig] = s.Pending>>sig%2 == 1
		p.masked[sig] = s.Mask>>sig%2 == 1
	}
	return p
}

func (p plain) fatal(sig int) bool {
	return sig == 9 || p.handlers[sig] == 0 && sig != 12
}

func (p plain) ignored(sig int) bool {
	return !p.fatal(sig) && (p.handlers[sig] == 1 || sig == 12 && p.handlers[sig] == 0)
}

func (p plain) deliverable(sig int) bool {
	return sig == 9 || !p.masked[sig] && !p.busy
}

func (p *plain) post(sig int) api.Errno {
	if sig < 1 || sig > 15 {
		return api.ErrSignal
	}
	p.pending[sig] = true
	return api.OK
}

func (p *plain) next() (int, int) {
	for sig := 1; sig <= 15; sig++ {
		if !p.pending[sig] || !p.deliverable(sig) {
			continue
		}
		p.pending[sig] = false
		switch {
		case p.fatal(sig):
			return sig, 1
		case !p.ignored(sig):
			p.busy = true
			return sig, 2
		}
	}
	return 0, 0
}

func (p *plain) mask(m uint32) (uint32, api.Errno) {
	old := p.signals().Mask
	if m%2 == 1 || m >= 65536 {
		return 0, api.ErrSignal
	}
	for sig := 1; sig <= 15; sig++ {
		p.masked[sig] = m>>sig%2 == 1 && sig != 9
	}
	return old, api.OK
}

func (p *plain) handle(sig int, at uint32) (uint32, api.Errno) {
	if sig < 1 || sig > 15 || sig == 9 {
		return 0, api.ErrSignal
	}
	old := p.handlers[sig]
	p.handlers[sig] = at
	return old, api.OK
}

func (p *plain) back() api.Errno {
	if !p.busy {
		return api.ErrSignal
	}
	p.busy = false
	return api.OK
}

// Each of these does one call on s, which is what p is, and answers the signals behind it.

func doPost(t *testing.T, s api.Signals, p *plain, sig int) api.Signals {
	t.Helper()
	want := p.post(sig)
	after, e := signal.Post(s, sig)
	if after != p.signals() || e != want {
		t.Fatalf("Post(%+v, %d): %+v %v, not %+v %v", s, sig, after, e, p.signals(), want)
	}
	return after
}

func doNext(t *testing.T, s api.Signals, p *plain) api.Signals {
	t.Helper()
	wantSig, wantBecomes := p.next()
	if wakes := signal.Wakes(s); wakes != (wantSig != 0) {
		t.Fatalf("Wakes(%+v): %v", s, wakes)
	}
	sig, becomes, after := signal.Next(s)
	if sig != wantSig || becomes != wantBecomes || after != p.signals() {
		t.Fatalf("Next(%+v): %d %d %+v, not %d %d %+v", s, sig, becomes, after, wantSig, wantBecomes, p.signals())
	}
	return after
}

func doMask(t *testing.T, s api.Signals, p *plain, m uint32) api.Signals {
	t.Helper()
	wantOld, want := p.mask(m)
	old, after, e := signal.Mask(s, m)
	if old != wantOld || after != p.signals() || e != want {
		t.Fatalf("Mask(%+v, %x): %x %+v %v, not %x %+v %v", s, m, old, after, e, wantOld, p.signals(), want)
	}
	return after
}

func doHandle(t *testing.T, s api.Signals, p *plain, sig int, at uint32) api.Signals {
	t.Helper()
	wantOld, want := p.handle(sig, at)
	old, after, e := signal.Handle(s, sig, at)
	if old != wantOld || after != p.signals() || e != want {
		t.Fatalf("Handle(%+v, %d, %d): %d %+v %v, not %d %+v %v", s, sig, at, old, after, e, wantOld, p.signals(), want)
	}
	return after
}

func doReturn(t *testing.T, s api.Signals, p *plain) api.Signals {
	t.Helper()
	want := p.back()
	after, e := signal.Return(s)
	if after != p.signals() || e != want {
		t.Fatalf("Return(%+v): %+v %v, not %+v %v", s, after, e, p.signals(), want)
	}
	return after
}

// allBits are those of signals 1 to 15, nine that of 9.
const (
	allBits = 0xFFFE
	nine    = 0x0200
)

// full has all that signals may have.
func full() api.Signals {
	s := api.Signals{Pending: allBits, Mask: allBits - nine, Busy: true}
	for sig := 1; sig <= 15; sig++ {
		if sig != 9 {
			s.Handlers[sig] = math.MaxUint32 - uint32(sig)
		}
	}
	return s
}

// handlers are the default, the ignoring one, and addresses.
var handlers = []uint32{0, 1, 2, 64, 4095, 4096, 1 << 31, math.MaxUint32}

// anySignals are some that may be.
func anySignals(x *rand.Rand) api.Signals {
	s := api.Signals{Pending: x.Uint32() & x.Uint32() & allBits, Mask: x.Uint32() & x.Uint32() & (allBits - nine), Busy: x.Intn(3) == 0}
	for sig := 1; sig <= 15; sig++ {
		if sig != 9 {
			s.Handlers[sig] = handlers[[]int{0, 0, 1, 1, 2, 3, 7}[x.Intn(7)]]
		}
	}
	return s
}

// some are signals that may be, plain ones first.
func some() []api.Signals {
	x := rand.New(rand.NewSource(12))
	busy := full()
	free := full()
	free.Busy = false
	l := []api.Signals{{}, {Busy: true}, {Pending: allBits}, {Mask: allBits - nine}, {Pending: allBits, Mask: allBits - nine}, busy, free}
	for range 60 {
		l = append(l, anySignals(x))
	}
	return l
}

// wrong are signals that may not be, each for one thing, and one for all.
func wrong() []api.Signals {
	var l []api.Signals
	for _, base := range some()[:12] {
		add := func(spoil func(s *api.Signals)) {
			s := base
			spoil(&s)
			l = append(l, s)
		}
		for _, b := range []int{0, 16, 17, 24, 25, 30, 31} {
			add(func(s *api.Signals) { s.Pending |= 1 << b })
			add(func(s *api.Signals) { s.Mask |= 1 << b })
		}
		add(func(s *api.Signals) { s.Mask |= nine })
		for _, at := range handlers[1:] {
			add(func(s *api.Signals) { s.Handlers[0] = at })
			add(func(s *api.Signals) { s.Handlers[9] = at })
		}
		add(func(s *api.Signals) {
			s.Pending, s.Mask = math.MaxUint32, math.MaxUint32
			s.Handlers[0], s.Handlers[9] = 64, 64
		})
	}
	return l
}

// far are numbers that are no signals, also where a narrower kind of number would take them for some.
var far = []int{-16, -15, -9, -5, -1, 0, 16, 17, 21, 31, 32, 33, 37, 63, 64, 65, 69, 255, 256, 257, 261, 65536 + 5, 1 << 32, 1<<32 + 5, 5 - 1<<32, math.MaxInt, math.MaxInt - 1, math.MinInt, math.MinInt + 5}

func TestP12_1_CheckBits(t *testing.T) {
	for _, base := range some() {
		if e := signal.Check(base); e != api.OK {
			t.Errorf("Check(%+v): %v", base, e)
		}
		for b := range 32 {
			s := base
			s.Pending |= 1 << b
			if e := signal.Check(s); (e == api.OK) != (b >= 1 && b <= 15) || e != api.OK && e != api.ErrSignal {
				t.Errorf("Check with %d pending: %v", b, e)
			}
			s = base
			s.Mask |= 1 << b
			if e := signal.Check(s); (e == api.OK) != (b >= 1 && b <= 15 && b != 9) || e != api.OK && e != api.ErrSignal {
				t.Errorf("Check with %d masked: %v", b, e)
			}
		}
	}
}

func TestP12_1_CheckHandlers(t *testing.T) {
	for _, base := range some() {
		for sig := range 16 {
			for _, at := range handlers {
				s := base
				s.Handlers[sig] = at
				want := api.OK
				if (sig == 0 || sig == 9) && at != 0 {
					want = api.ErrSignal
				}
				if e := signal.Check(s); e != want {
					t.Errorf("Check with handler %d of %d: %v, not %v", at, sig, e, want)
				}
			}
		}
	}
}

func TestP12_1_CheckWrong(t *testing.T) {
	for _, s := range wrong() {
		if e := signal.Check(s); e != api.ErrSignal {
			t.Errorf("Check(%+v): %v", s, e)
		}
	}
}

// Signals that may not be are refused by each call, whatever else it is given, and are answered as they were.
func TestP12_1_WrongSignals(t *testing.T) {
	for _, s := range wrong() {
		for _, sig := range []int{-1, 0, 1, 5, 9, 15, 16} {
			if after, e := signal.Post(s, sig); after != s || e != api.ErrSignal {
				t.Errorf("Post(%+v, %d): %+v %v", s, sig, after, e)
			}
			for _, at := range []uint32{0, 1, 64} {
				if old, after, e := signal.Handle(s, sig, at); old != 0 || after != s || e != api.ErrSignal {
					t.Errorf("Handle(%+v, %d, %d): %d %+v %v", s, sig, at, old, after, e)
				}
			}
		}
		for _, m := range []uint32{0, 2, nine, allBits, 1, 65536, math.MaxUint32} {
			if old, after, e := signal.Mask(s, m); old != 0 || after != s || e != api.ErrSignal {
				t.Errorf("Mask(%+v, %x): %x %+v %v", s, m, old, after, e)
			}
		}
		for _, busy := range []bool{false, true} {
			s.Busy = busy
			if after, e := signal.Return(s); after != s || e != api.ErrSignal {
				t.Errorf("Return(%+v): %+v %v", s, after, e)
			}
		}
	}
}

func TestP12_1_Post(t *testing.T) {
	for sig := 1; sig <= 15; sig++ {
		s, e := signal.Post(api.Signals{}, sig)
		if s != (api.Signals{Pending: 1 << sig}) || e != api.OK {
			t.Errorf("Post of %d: %+v %v", sig, s, e)
		}
		if again, e := signal.Post(s, sig); again != s || e != api.OK {
			t.Errorf("Post of %d, which is pending: %+v %v", sig, again, e)
		}
	}
	for _, s := range some() {
		for sig := 1; sig <= 15; sig++ {
			p := plainOf(s)
			doPost(t, doPost(t, s, &p, sig), &p, sig)
		}
		for _, sig := range far {
			p := plainOf(s)
			doPost(t, s, &p, sig)
			if after, e := signal.Post(s, sig); after != s || e != api.ErrSignal {
				t.Errorf("Post(%+v, %d): %+v %v", s, sig, after, e)
			}
		}
	}
}

func TestP12_1_Mask(t *testing.T) {
	for _, c := range []struct {
		m, want uint32
		e       api.Errno
	}{
		{0, 0, api.OK}, {2, 2, api.OK}, {nine, 0, api.OK}, {nine + 2, 2, api.OK}, {1 << 15, 1 << 15, api.OK},
		{allBits, allBits - nine, api.OK}, {allBits - nine, allBits - nine, api.OK},
		{1, 32, api.ErrSignal}, {allBits + 1, 32, api.ErrSignal}, {65536, 32, api.ErrSignal}, {65536 + nine, 32, api.ErrSignal},
		{65536 + 2, 32, api.ErrSignal}, {1 << 25, 32, api.ErrSignal}, {1 << 31, 32, api.ErrSignal}, {math.MaxUint32, 32, api.ErrSignal},
	} {
		s := api.Signals{Pending: 34, Mask: 32, Busy: true}
		old, after, e := signal.Mask(s, c.m)
		wantOld := uint32(32)
		if c.e != api.OK {
			wantOld = 0
		}
		if old != wantOld || e != c.e || after != (api.Signals{Pending: 34, Mask: c.want, Busy: true}) {
			t.Errorf("Mask of %x: %x %+v %v", c.m, old, after, e)
		}
	}
	for _, s := range some() {
		for b := range 32 {
			p, q := plainOf(s), plainOf(s)
			doMask(t, s, &p, 1<<b)
			doMask(t, s, &q, allBits|1<<b)
		}
	}
}

func TestP12_1_MaskOfAnyBits(t *testing.T) {
	x := rand.New(rand.NewSource(1))
	s := anySignals(x)
	for m := range uint32(1 << 17) {
		p := plainOf(s)
		doMask(t, s, &p, m)
	}
	for range 5000 {
		s = anySignals(x)
		p := plainOf(s)
		s = doMask(t, s, &p, x.Uint32()>>x.Intn(32))
		doMask(t, s, &p, x.Uint32()&allBits)
	}
}

func TestP12_1_Handle(t *testing.T) {
	for _, s := range some() {
		for _, at := range handlers {
			for sig := 1; sig <= 15; sig++ {
				p := plainOf(s)
				doHandle(t, doHandle(t, s, &p, sig, at), &p, sig, 64)
			}
			for _, sig := range append(far, 9) {
				p := plainOf(s)
				doHandle(t, s, &p, sig, at)
				if old, after, e := signal.Handle(s, sig, at); old != 0 || after != s || e != api.ErrSignal {
					t.Errorf("Handle(%+v, %d, %d): %d %+v %v", s, sig, at, old, after, e)
				}
			}
		}
	}
	s, want := api.Signals{}, api.Signals{}
	for sig := 1; sig <= 15; sig++ {
		if sig != 9 {
			want.Handlers[sig] = uint32(100 * sig)
			_, s, _ = signal.Handle(s, sig, uint32(100*sig))
		}
	}
	if s != want {
		t.Errorf("Handle of each: %+v, not %+v", s, want)
	}
}

func TestP12_1_Return(t *testing.T) {
	for _, s := range some() {
		s.Busy = true
		want := s
		want.Busy = false
		after, e := signal.Return(s)
		if after != want || e != api.OK {
			t.Errorf("Return(%+v): %+v %v", s, after, e)
		}
		if again, e := signal.Return(after); again != after || e != api.ErrSignal {
			t.Errorf("Return(%+v): %+v %v", after, again, e)
		}
	}
}

// What becomes of each signal, with each handler.
func TestP12_2_Becomes(t *testing.T) {
	for sig := 1; sig <= 15; sig++ {
		for _, at := range handlers {
			s := api.Signals{Pending: 1 << sig}
			if sig != 9 {
				s.Handlers[sig] = at
			}
			wantSig, wantBecomes := sig, 2
			switch {
			case sig == 9:
				wantBecomes = 1
			case at == 1, at == 0 && sig == 12:
				wantSig, wantBecomes = 0, 0
			case at == 0:
				wantBecomes = 1
			}
			want := api.Signals{Handlers: s.Handlers, Busy: wantBecomes == 2}
			got, becomes, after := signal.Next(s)
			if got != wantSig || becomes != wantBecomes || after != want {
				t.Errorf("Next of %d, handler %d: %d %d %+v, not %d %d", sig, at, got, becomes, after, wantSig, wantBecomes)
			}
			if signal.Wakes(s) != (wantSig != 0) {
				t.Errorf("Wakes of %d, handler %d: %v", sig, at, signal.Wakes(s))
			}
		}
	}
}

// The numbers that are answered are api's.
func TestP12_2_Names(t *testing.T) {
	if api.SigNone != 0 || api.SigFatal != 1 || api.SigHandled != 2 || api.SigKill != 9 || api.SigChild != 12 || api.MaxSig != 15 {
		t.Error("numbers of api are others")
	}
}

func TestP12_2_NonePending(t *testing.T) {
	for _, s := range some() {
		s.Pending = 0
		if sig, becomes, after := signal.Next(s); sig != 0 || becomes != 0 || after != s {
			t.Errorf("Next(%+v): %d %d %+v", s, sig, becomes, after)
		}
		if signal.Wakes(s) {
			t.Errorf("Wakes(%+v)", s)
		}
	}
}

// The least one is first, whichever was posted first.
func TestP12_2_LeastFirst(t *testing.T) {
	for a := 1; a <= 15; a++ {
		for b := 1; b <= 15; b++ {
			for _, at := range []uint32{0, 64} {
				var p plain
				s := p.signals()
				for sig := 1; sig <= 15; sig++ {
					s = doHandle(t, s, &p, sig, at)
				}
				s = doHandle(t, s, &p, 12, 64)
				s = doPost(t, doPost(t, s, &p, a), &p, b)
				if sig, _, _ := signal.Next(s); sig != min(a, b) {
					t.Fatalf("Next of %d and %d: %d", a, b, sig)
				}
				s = doNext(t, s, &p)
				if s.Pending != (1<<a|1<<b)&^(1<<min(a, b)) {
					t.Fatalf("Next of %d and %d: %x are pending", a, b, s.Pending)
				}
			}
		}
	}
}

// ignoring ignores all but 9, which can't be.
func ignoring() api.Signals {
	var s api.Signals
	for sig := 1; sig <= 15; sig++ {
		if sig != 9 {
			s.Handlers[sig] = 1
		}
	}
	return s
}

// Signals that are ignored are passed over, and are pending no more, up to the first one that is not, but not behind it.
func TestP12_2_Ignored(t *testing.T) {
	for first := 1; first <= 15; first++ {
		for _, at := range []uint32{0, 64} {
			if first == 9 && at != 0 || first == 12 && at == 0 {
				continue
			}
			s := ignoring()
			s.Handlers[first] = at
			s.Pending = allBits
			want := s
			wantSig, wantBecomes := min(first, 9), 1
			if first < 9 && at == 64 {
				wantBecomes = 2
			}
			want.Pending, want.Busy = allBits>>(wantSig+1)<<(wantSig+1), wantBecomes == 2
			if sig, becomes, after := signal.Next(s); sig != wantSig || becomes != wantBecomes || after != want {
				t.Errorf("Next, %d not ignored: %d %d %+v", first, sig, becomes, after)
			}
			s.Pending = allBits - nine
			p := plainOf(s)
			doNext(t, doNext(t, s, &p), &p)
		}
	}
}

func TestP12_2_AllIgnored(t *testing.T) {
	s := ignoring()
	for pending := uint32(0); pending <= allBits; pending += 2 {
		s.Pending = pending &^ nine
		if sig, becomes, after := signal.Next(s); sig != 0 || becomes != 0 || after != ignoring() || signal.Wakes(s) {
			t.Fatalf("Next of %x, all ignored: %d %d %+v", s.Pending, sig, becomes, after)
		}
	}
}

// Signals that are masked stay pending, those that are ignored too.
func TestP12_2_Masked(t *testing.T) {
	for sig := 1; sig <= 15; sig++ {
		for _, at := range handlers {
			var p plain
			s := p.signals()
			s = doHandle(t, s, &p, sig, at)
			s = doMask(t, s, &p, 1<<sig)
			s = doPost(t, s, &p, sig)
			got, _, after := signal.Next(s)
			if sig != 9 && (got != 0 || after != s || signal.Wakes(s)) {
				t.Errorf("Next of %d, masked, handler %d: %d %+v", sig, at, got, after)
			}
			if sig == 9 && got != 9 {
				t.Errorf("Next of 9: %d", got)
			}
			s = doNext(t, s, &p)
			s = doMask(t, s, &p, 0)
			doNext(t, doNext(t, s, &p), &p)
		}
	}
}

// While one is being handled only 9 is told, all others stay pending, and it is handled on.
func TestP12_2_Busy(t *testing.T) {
	for _, s := range some() {
		s.Busy = true
		s.Pending &^= nine
		if sig, becomes, after := signal.Next(s); sig != 0 || becomes != 0 || after != s || signal.Wakes(s) {
			t.Errorf("Next(%+v): %d %d %+v", s, sig, becomes, after)
		}
		s.Pending |= nine
		want := s
		want.Pending &^= nine
		if sig, becomes, after := signal.Next(s); sig != 9 || becomes != 1 || after != want || !signal.Wakes(s) {
			t.Errorf("Next(%+v): %d %d %+v", s, sig, becomes, after)
		}
	}
}

func TestP12_2_WrongSignals(t *testing.T) {
	for _, s := range wrong() {
		for _, pending := range []uint32{0, 2, nine, allBits} {
			s.Pending |= pending
			if sig, becomes, after := signal.Next(s); sig != 0 || becomes != 0 || after != s {
				t.Errorf("Next(%+v): %d %d %+v", s, sig, becomes, after)
			}
			if signal.Wakes(s) {
				t.Errorf("Wakes(%+v)", s)
			}
		}
	}
}

// All that may be pending, and all masks, with any handlers.
func TestP12_2_AllPendingAllMasked(t *testing.T) {
	x := rand.New(rand.NewSource(2))
	for bits := range uint32(1 << 15) {
		s := anySignals(x)
		s.Pending = bits << 1
		p := plainOf(s)
		doNext(t, s, &p)
		s = anySignals(x)
		s.Mask = bits << 1 &^ nine
		q := plainOf(s)
		doNext(t, doNext(t, s, &q), &q)
	}
}

func TestP12_3_Wakes(t *testing.T) {
	x := rand.New(rand.NewSource(3))
	told := [2]int{}
	for range 20000 {
		s := anySignals(x)
		was := s
		sig, _, _ := signal.Next(s)
		if signal.Wakes(s) != (sig != 0) || s != was {
			t.Fatalf("Wakes(%+v): %v, Next %d", was, signal.Wakes(s), sig)
		}
		if told[0]++; sig != 0 {
			told[1]++
		}
	}
	if told[1] < 1000 || told[0]-told[1] < 1000 {
		t.Errorf("of %d, %d were told", told[0], told[1])
	}
}

func TestP12_3_Fork(t *testing.T) {
	for _, s := range slices.Concat(some(), wrong()) {
		want := api.Signals{Mask: s.Mask, Handlers: s.Handlers, Busy: s.Busy}
		if got := signal.Fork(s); got != want {
			t.Errorf("Fork(%+v): %+v", s, got)
		}
		s.Pending = 0
		if got := signal.Fork(s); got != s {
			t.Errorf("Fork(%+v): %+v", s, got)
		}
	}
}

// listed are the signals of bits, found from the greatest one on.
func listed(m uint32) []int {
	var l []int
	for sig := 15; sig >= 1; sig-- {
		if m/(1<<sig)%2 == 1 {
			l = append([]int{sig}, l...)
		}
	}
	return l
}

func TestP12_3_List(t *testing.T) {
	for m, want := range map[uint32][]int{
		0: nil, 1: nil, 2: {1}, nine: {9}, 1 << 15: {15}, 65536: nil, 1 << 31: nil, 65537: nil, ^uint32(allBits): nil,
		34: {1, 5}, allBits: {1, 2, 3, 4, 5, 6, 7, 8, 9, 10, 11, 12, 13, 14, 15}, math.MaxUint32: {1, 2, 3, 4, 5, 6, 7, 8, 9, 10, 11, 12, 13, 14, 15},
	} {
		if l := signal.List(m); !slices.Equal(l, want) {
			t.Errorf("List(%x): %v, not %v", m, l, want)
		}
	}
	for m := range uint32(1 << 17) {
		if l := signal.List(m); !slices.Equal(l, listed(m)) {
			t.Fatalf("List(%x): %v, not %v", m, l, listed(m))
		}
	}
	for b := range 32 {
		if l := signal.List(1 << b); !slices.Equal(l, listed(1<<b)) {
			t.Errorf("List of bit %d: %v", b, l)
		}
		if l := signal.List(allBits&^(1<<b) | 1<<31); !slices.Equal(l, listed(allBits&^(1<<b))) {
			t.Errorf("List without bit %d: %v", b, l)
		}
	}
}

// What List answered stays as it is, and is nobody else's, behind its end too.
func TestP12_3_ListIsNew(t *testing.T) {
	for _, m := range []uint32{2, 34, nine, allBits, math.MaxUint32} {
		first, second := signal.List(m), signal.List(m)
		for i := range first[:cap(first)] {
			first[:cap(first)][i] = 77
		}
		if !slices.Equal(second, listed(m)) || !slices.Equal(signal.List(m), listed(m)) {
			t.Errorf("List(%x): %v, then %v", m, second, signal.List(m))
		}
		_ = append(second, 78)
		if third := signal.List(allBits); len(third) != 15 || slices.Contains(third, 77) || slices.Contains(third, 78) {
			t.Errorf("List: %v", third)
		}
	}
}

// anyCall does one call, or one that is refused, and answers the signals behind it.
func anyCall(t *testing.T, x *rand.Rand, s api.Signals, p *plain) api.Signals {
	t.Helper()
	sig := x.Intn(15) + 1
	if x.Intn(10) == 0 {
		sig = slices.Concat(far, []int{9})[x.Intn(len(far)+1)]
	}
	switch x.Intn(10) {
	case 0, 1, 2, 3:
		return doPost(t, s, p, sig)
	case 4:
		m := x.Uint32() & allBits & x.Uint32()
		if x.Intn(6) == 0 {
			m = []uint32{0, nine, allBits, 1, 65536, x.Uint32()}[x.Intn(6)]
		}
		return doMask(t, s, p, m)
	case 5:
		return doHandle(t, s, p, sig, handlers[x.Intn(len(handlers))])
	case 6:
		return doReturn(t, s, p)
	}
	return doNext(t, s, p)
}

// Any long run of calls answers what plain lists do, and what is answered may be.
func TestP12_4_AnyCalls(t *testing.T) {
	told, none := 0, 0
	for seed := range 60 {
		x := rand.New(rand.NewSource(int64(seed)))
		p := plain{}
		s := p.signals()
		if seed%2 == 1 {
			s = anySignals(x)
			p = plainOf(s)
		}
		for range 1000 {
			s = anyCall(t, x, s, &p)
			if e := signal.Check(s); e != api.OK {
				t.Fatalf("Check(%+v): %v", s, e)
			}
			if signal.Wakes(s) {
				told++
			} else {
				none++
			}
		}
	}
	if told < 5000 || none < 5000 {
		t.Errorf("one was to be told %d times, none %d times", told, none)
	}
}

// deliver tells all that are told one after another, each handler returned from at once, and what is pending then.
func deliver(t *testing.T, s api.Signals) ([]int, api.Signals) {
	t.Helper()
	var l []int
	for range 40 {
		sig, becomes, after := signal.Next(s)
		s = after
		if becomes == 0 {
			return l, s
		}
		l = append(l, sig)
		if becomes == 2 {
			back, e := signal.Return(s)
			if e != api.OK {
				t.Fatalf("Return(%+v): %v", s, e)
			}
			s = back
		}
	}
	t.Fatalf("no end of %v", l)
	return nil, s
}

// However often a signal is posted, it is delivered once, and not before it may be.
func TestP12_4_DeliveredOnce(t *testing.T) {
	for sig := 1; sig <= 15; sig++ {
		for times := 1; times <= 5; times++ {
			for _, at := range []uint32{0, 64} {
				s := api.Signals{Mask: 1 << sig &^ nine}
				if sig != 9 {
					s.Handlers[sig] = at
				}
				want := []int{sig}
				if sig == 12 && at == 0 {
					want = nil
				}
				for range times {
					s, _ = signal.Post(s, sig)
				}
				if sig != 9 {
					early, still := deliver(t, s)
					if len(early) != 0 || still != s {
						t.Fatalf("%d is masked, and delivered are %v", sig, early)
					}
					_, s, _ = signal.Mask(s, 0)
				}
				l, after := deliver(t, s)
				if !slices.Equal(l, want) || after.Pending != 0 {
					t.Fatalf("%d, posted %d times, handler %d: delivered are %v", sig, times, at, l)
				}
				if again, _ := deliver(t, after); len(again) != 0 {
					t.Fatalf("%d, delivered already: delivered are %v", sig, again)
				}
			}
		}
	}
}

// Each signal that is posted is delivered or ignored, none else is, and all that may not be stay pending.
func TestP12_4_EachIsDeliveredOrIgnored(t *testing.T) {
	x := rand.New(rand.NewSource(4))
	for range 5000 {
		s := anySignals(x)
		s.Busy = false
		p := plainOf(s)
		var want []int
		for sig := 1; sig <= 15; sig++ {
			if p.pending[sig] && (sig == 9 || !p.masked[sig]) && !p.ignored(sig) {
				want = append(want, sig)
			}
		}
		l, after := deliver(t, s)
		if !slices.Equal(l, want) || after.Pending != s.Pending&s.Mask {
			t.Fatalf("of %+v delivered are %v, not %v, and %x is pending", s, l, want, after.Pending)
		}
	}
}

// 9 is next as soon as no less one may be delivered, whatever is masked, and whether one is being handled or not.
func TestP12_4_NineIsNext(t *testing.T) {
	x := rand.New(rand.NewSource(5))
	nines := 0
	for range 20000 {
		s := anySignals(x)
		s.Pending |= nine
		p := plainOf(s)
		less := false
		for sig := 1; sig < 9; sig++ {
			less = less || p.pending[sig] && p.deliverable(sig) && !p.ignored(sig)
		}
		sig, becomes, after := signal.Next(s)
		if !signal.Wakes(s) || less == (sig == 9) || sig == 9 && (becomes != 1 || after.Pending&nine != 0 || after.Busy != s.Busy) {
			t.Fatalf("Next(%+v): %d %d %+v", s, sig, becomes, after)
		}
		if sig == 9 {
			nines++
		}
		_, s, _ = signal.Mask(s, allBits)
		if sig, becomes, _ := signal.Next(s); sig != 9 || becomes != 1 {
			t.Fatalf("Next(%+v), all masked: %d %d", s, sig, becomes)
		}
	}
	if nines < 1000 || nines > 19000 {
		t.Errorf("9 was next %d times", nines)
	}
}

func TestP12_4_AllMasked(t *testing.T) {
	for _, s := range some() {
		_, s, e := signal.Mask(s, allBits)
		if e != api.OK || s.Mask != allBits-nine {
			t.Fatalf("Mask of all: %+v %v", s, e)
		}
		for sig := 1; sig <= 15; sig++ {
			s, _ = signal.Post(s, sig)
		}
		l, after := deliver(t, s)
		if !slices.Equal(l, []int{9}) || after.Pending != allBits-nine {
			t.Errorf("of %+v, all masked, delivered are %v", s, l)
		}
	}
}

// A mask, and a handler, that is put back is as it was, and turns nothing else.
func TestP12_4_PutBack(t *testing.T) {
	x := rand.New(rand.NewSource(6))
	for range 3000 {
		s := anySignals(x)
		old, other, e := signal.Mask(s, x.Uint32()&allBits)
		if e != api.OK || old != s.Mask {
			t.Fatalf("Mask(%+v): %x %v", s, old, e)
		}
		if _, again, e := signal.Mask(other, old); again != s || e != api.OK {
			t.Fatalf("Mask(%+v) put back: %+v %v", s, again, e)
		}
		for sig := 1; sig <= 15; sig++ {
			if sig == 9 {
				continue
			}
			old, other, e := signal.Handle(s, sig, handlers[x.Intn(len(handlers))])
			if e != api.OK || old != s.Handlers[sig] {
				t.Fatalf("Handle(%+v, %d): %d %v", s, sig, old, e)
			}
			if _, again, e := signal.Handle(other, sig, old); again != s || e != api.OK {
				t.Fatalf("Handle(%+v, %d) put back: %+v %v", s, sig, again, e)
			}
		}
	}
}

// Signals stay as they are, when others made of them are written over.
func TestP12_4_AnswersAreApart(t *testing.T) {
	x := rand.New(rand.NewSource(7))
	for range 500 {
		s := anySignals(x)
		was := s
		posted, _ := signal.Post(s, 3)
		_, _, next := signal.Next(s)
		_, masked, _ := signal.Mask(s, 8)
		_, handled, _ := signal.Handle(s, 3, 64)
		back, _ := signal.Return(s)
		forked := signal.Fork(s)
		for _, other := range []*api.Signals{&posted, &next, &masked, &handled, &back, &forked} {
			for sig := range other.Handlers {
				other.Handlers[sig] = 99
			}
			other.Pending, other.Mask, other.Busy = 99, 99, !other.Busy
		}
		if s != was {
			t.Fatalf("%+v became %+v", was, s)
		}
		p := plainOf(was)
		doNext(t, s, &p)
	}
}

func TestExamplesOfLayer12(t *testing.T) {
	var s api.Signals
	s, _ = signal.Post(s, 12)
	s, _ = signal.Post(s, 5)
	sig, becomes, after := signal.Next(s)
	if sig != 5 || becomes != api.SigFatal || after != (api.Signals{Pending: 1 << 12}) {
		t.Errorf("Next of 12 and 5: %d %d %+v", sig, becomes, after)
	}
	_, s, _ = signal.Handle(api.Signals{}, 5, 64)
	s, _ = signal.Post(s, 5)
	sig, becomes, s = signal.Next(s)
	if sig != 5 || becomes != api.SigHandled || !s.Busy {
		t.Errorf("Next of 5, handled at 64: %d %d %+v", sig, becomes, s)
	}
	s, _ = signal.Post(s, 6)
	sig, becomes, s = signal.Next(s)
	if sig != 0 || becomes != api.SigNone || s.Pending != 1<<6 {
		t.Errorf("Next of 6, Busy: %d %d %+v", sig, becomes, s)
	}
	s, _ = signal.Post(s, 9)
	sig, becomes, s = signal.Next(s)
	if sig != 9 || becomes != api.SigFatal || s.Pending != 1<<6 {
		t.Errorf("Next of 6 and 9, Busy: %d %d %+v", sig, becomes, s)
	}
	if _, after, e := signal.Mask(s, 65536); e != api.ErrSignal || after != s {
		t.Errorf("Mask of 65536: %+v %v", after, e)
	}
	for _, at := range handlers {
		if _, after, e := signal.Handle(s, 9, at); e != api.ErrSignal || after != s {
			t.Errorf("Handle of 9 at %d: %+v %v", at, after, e)
		}
	}
}
