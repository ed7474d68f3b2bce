package ring

import (
	"bytes"
	"math"
	"math/rand"
	"slices"
	"testing"

	"carryall/api"
)

// plain is a ring as the chapter's words say it: a capacity, and a list of bytes.
type plain struct {
	capacity int
	list     []byte
}

func (p *plain) write(b []byte) int {
	n := min(len(b), p.capacity-len(p.list))
	p.list = append(slices.Clone(p.list), b[:n]...)
	return n
}

func (p *plain) peek(n int) []byte {
	return slices.Clone(p.list[:max(0, min(n, len(p.list)))])
}

func (p *plain) read(n int) []byte {
	b := p.peek(n)
	p.list = p.list[len(b):]
	return b
}

// agree holds all that a ring tells against what it has to.
func (p *plain) agree(t *testing.T, r *Ring) {
	t.Helper()
	if !bytes.Equal(r.All(), p.list) {
		t.Fatalf("All: %v, not %v", r.All(), p.list)
	}
	if r.Len() != len(p.list) || r.Cap() != p.capacity || r.Room() != p.capacity-len(p.list) {
		t.Fatalf("Len %d, Room %d, Cap %d of %v, at most %d", r.Len(), r.Room(), r.Cap(), p.list, p.capacity)
	}
	if r.Len()+r.Room() != r.Cap() {
		t.Fatalf("Len %d and Room %d are not Cap %d", r.Len(), r.Room(), r.Cap())
	}
}

// peeks holds Peek of each number against what it has to tell.
func (p *plain) peeks(t *testing.T, r *Ring) {
	t.Helper()
	for _, n := range append(far, edges(len(p.list))...) {
		if b := r.Peek(n); !bytes.Equal(b, p.peek(n)) {
			t.Fatalf("Peek(%d) of %v: %v", n, p.list, b)
		}
		p.agree(t, r)
	}
}

// both writes into a ring and into what it has to be.
func both(t *testing.T, r *Ring, p *plain, b []byte) {
	t.Helper()
	if n, want := r.Write(b), p.write(b); n != want {
		t.Fatalf("Write(%v): %d, not %d", b, n, want)
	}
	p.agree(t, r)
}

// bothRead reads from a ring and from what it has to be.
func bothRead(t *testing.T, r *Ring, p *plain, n int) {
	t.Helper()
	if b, want := r.Read(n), p.read(n); !bytes.Equal(b, want) {
		t.Fatalf("Read(%d): %v, not %v", n, b, want)
	}
	p.agree(t, r)
}

// far are numbers of bytes that no ring has, or has room for.
var far = []int{-2, -64, -65, math.MinInt, math.MinInt + 1, 65, 127, 128, math.MaxInt, math.MaxInt - 1, math.MaxInt - 63}

// edges are the numbers at which Read and Peek of n bytes, and Write into room for n, change.
func edges(n int) []int {
	return []int{-1, 0, 1, n - 1, n, n + 1}
}

// count are n bytes, each another one than those beside it.
func count(from, n int) []byte {
	var b []byte
	for i := range n {
		b = append(b, byte(from+i))
	}
	return b
}

func made(t *testing.T, capacity int) (*Ring, *plain) {
	t.Helper()
	r, e := New(capacity)
	if e != api.OK || r == nil {
		t.Fatalf("New(%d): %v %v", capacity, r, e)
	}
	return r, &plain{capacity: capacity}
}

func of(t *testing.T, capacity int, b []byte) (*Ring, *plain) {
	t.Helper()
	r, e := Of(capacity, b)
	if e != api.OK || r == nil {
		t.Fatalf("Of(%d, %v): %v %v", capacity, b, r, e)
	}
	return r, &plain{capacity, slices.Clone(b)}
}

// turned is one with those bytes, behind n others that came and went.
func turned(t *testing.T, capacity, n int, b []byte) (*Ring, *plain) {
	t.Helper()
	r, p := made(t, capacity)
	for i := range n {
		both(t, r, p, []byte{byte(200 + i)})
		bothRead(t, r, p, 1)
	}
	both(t, r, p, b)
	return r, p
}

func TestP8_1_New(t *testing.T) {
	for capacity := -70; capacity < 200; capacity++ {
		if capacity >= 1 && capacity <= 64 {
			r, p := made(t, capacity)
			p.agree(t, r)
			p.peeks(t, r)
			continue
		}
		if r, e := New(capacity); r != nil || e != api.ErrRing {
			t.Errorf("New(%d): %v %v", capacity, r, e)
		}
	}
}

func TestP8_1_NewRefused(t *testing.T) {
	for _, capacity := range append(far, -1, 0, 256, 257, 1<<32+1, math.MinInt+64) {
		if r, e := New(capacity); r != nil || e != api.ErrRing {
			t.Errorf("New(%d): %v %v", capacity, r, e)
		}
	}
}

func TestP8_1_Of(t *testing.T) {
	for capacity := 1; capacity <= 64; capacity++ {
		for _, b := range [][]byte{nil, {}, {0}, {255}, count(9, capacity-1), count(250, capacity)} {
			r, p := of(t, capacity, b)
			p.agree(t, r)
			p.peeks(t, r)
			both(t, r, p, count(70, 65))
			bothRead(t, r, p, 64)
		}
	}
}

func TestP8_1_OfTooMany(t *testing.T) {
	for capacity := 1; capacity <= 64; capacity++ {
		for _, more := range []int{1, 2, 64, 1000} {
			if r, e := Of(capacity, count(0, capacity+more)); r != nil || e != api.ErrRing {
				t.Errorf("Of(%d, %d bytes): %v %v", capacity, capacity+more, r, e)
			}
		}
	}
}

func TestP8_1_OfRefused(t *testing.T) {
	for _, capacity := range append(far, -1, 0) {
		for _, b := range [][]byte{nil, {}, {7}, count(0, 63), count(0, 64), count(0, 65)} {
			if r, e := Of(capacity, b); r != nil || e != api.ErrRing {
				t.Errorf("Of(%d, %d bytes): %v %v", capacity, len(b), r, e)
			}
		}
	}
}

func TestP8_2_WriteOfNothing(t *testing.T) {
	for _, capacity := range []int{1, 2, 63, 64} {
		for _, had := range []int{0, 1, capacity} {
			r, p := of(t, capacity, count(5, had))
			for _, b := range [][]byte{nil, {}} {
				both(t, r, p, b)
			}
		}
	}
}

func TestP8_2_Write(t *testing.T) {
	for capacity := 1; capacity <= 64; capacity++ {
		for had := range capacity + 1 {
			for _, n := range edges(capacity - had)[1:] {
				r, p := of(t, capacity, count(5, had))
				both(t, r, p, count(100, max(0, n)))
			}
		}
	}
}

func TestP8_2_WriteIntoFull(t *testing.T) {
	for capacity := 1; capacity <= 64; capacity++ {
		r, p := of(t, capacity, count(5, capacity))
		for _, n := range []int{0, 1, 2, 64, 65, 1000} {
			if m := r.Write(count(100, n)); m != 0 {
				t.Fatalf("Write of %d into a full one: %d", n, m)
			}
			p.agree(t, r)
		}
		bothRead(t, r, p, 1)
		both(t, r, p, []byte{200, 201})
	}
}

func TestP8_2_ReadAndPeek(t *testing.T) {
	for capacity := 1; capacity <= 64; capacity++ {
		for had := range capacity + 1 {
			for _, n := range append(far, edges(had)...) {
				r, p := of(t, capacity, count(5, had))
				p.peeks(t, r)
				bothRead(t, r, p, n)
				p.peeks(t, r)
			}
		}
	}
}

func TestP8_2_ReadOfNone(t *testing.T) {
	for _, capacity := range []int{1, 2, 63, 64} {
		r, p := turned(t, capacity, 70, nil)
		for _, n := range append(far, edges(0)...) {
			if b := r.Read(n); len(b) != 0 {
				t.Fatalf("Read(%d) of none: %v", n, b)
			}
			p.agree(t, r)
		}
		both(t, r, p, []byte{1})
	}
}

func TestP8_2_EachValue(t *testing.T) {
	for v := range 256 {
		x := byte(v)
		r, p := of(t, 3, []byte{x, ^x})
		both(t, r, p, []byte{x, x})
		bothRead(t, r, p, 2)
		both(t, r, p, []byte{^x, x, 0})
		p.peeks(t, r)
		bothRead(t, r, p, 3)
	}
}

func TestP8_2_BytesAreLeftEarly(t *testing.T) {
	r, _ := turned(t, 4, 62, []byte{7, 8, 9})
	for i, x := range r.told() {
		if i != 0 || x != 7 {
			t.Fatalf("the first byte: %d %d", i, x)
		}
		break
	}
}

func TestP8_3_LenRoomCap(t *testing.T) {
	r, _ := made(t, 5)
	for _, step := range []struct{ write, read, len, room int }{
		{0, 0, 0, 5}, {1, 0, 1, 4}, {4, 0, 5, 0}, {1, 0, 5, 0}, {0, 2, 3, 2}, {9, 0, 5, 0}, {0, 9, 0, 5}, {0, 1, 0, 5}, {3, 3, 0, 5},
	} {
		r.Write(count(0, step.write))
		r.Read(step.read)
		if r.Len() != step.len || r.Room() != step.room || r.Cap() != 5 {
			t.Fatalf("behind %v: Len %d, Room %d, Cap %d", step, r.Len(), r.Room(), r.Cap())
		}
	}
}

func TestP8_3_Copy(t *testing.T) {
	for _, capacity := range []int{1, 2, 5, 63, 64} {
		for _, had := range []int{0, 1, capacity - 1, capacity} {
			for _, n := range []int{0, 1, 62, 63} {
				r, p := turned(t, capacity, n, count(9, had))
				c := r.Copy()
				if c == nil || c == r {
					t.Fatalf("Copy of %p: %p", r, c)
				}
				p.agree(t, c)
				p.agree(t, r)
				p.agree(t, c.Copy())
				both(t, c, p, count(90, capacity))
				bothRead(t, c, p, capacity)
			}
		}
	}
}

// Neither of the two is turned by calls on the other one.
func TestP8_3_CopiesAreApart(t *testing.T) {
	for _, which := range []int{0, 1} {
		for n := range 64 {
			r, p := turned(t, 6, n, []byte{1, 2, 3, 4})
			pair := []*Ring{r, r.Copy()}
			one, other := pair[which], pair[1-which]
			q := &plain{6, slices.Clone(p.list)}
			both(t, one, q, []byte{50, 51, 52})
			p.agree(t, other)
			bothRead(t, one, q, 3)
			p.agree(t, other)
			both(t, one, q, []byte{60, 61, 62, 63})
			p.agree(t, other)
			both(t, other, p, []byte{70})
			q.agree(t, one)
			bothRead(t, other, p, 9)
			q.agree(t, one)
		}
	}
}

// nothing holds that calls on a ring that nobody made do nothing.
func nothing(t *testing.T, r *Ring) {
	t.Helper()
	for _, b := range [][]byte{nil, {}, {0}, {7, 8}, count(0, 64), count(0, 65)} {
		if n := r.Write(b); n != 0 {
			t.Errorf("Write of %d bytes: %d", len(b), n)
		}
	}
	for _, n := range append(far, -1, 0, 1, 64) {
		if b := r.Read(n); len(b) != 0 {
			t.Errorf("Read(%d): %v", n, b)
		}
		if b := r.Peek(n); len(b) != 0 {
			t.Errorf("Peek(%d): %v", n, b)
		}
	}
	if len(r.All()) != 0 || r.Len() != 0 || r.Room() != 0 || r.Cap() != 0 {
		t.Errorf("All %v, Len %d, Room %d, Cap %d", r.All(), r.Len(), r.Room(), r.Cap())
	}
	if c := r.Copy(); c != nil {
		t.Errorf("Copy: %v", c)
	}
}

func TestP8_3_None(t *testing.T) {
	var r *Ring
	nothing(t, r)
	r, _ = New(0)
	nothing(t, r)
}

func TestP8_3_NotMade(t *testing.T) {
	var zero Ring
	for _, r := range []*Ring{&zero, {}, new(Ring)} {
		nothing(t, r)
		nothing(t, r)
		if *r != (Ring{}) {
			t.Errorf("one that nobody made was turned: %v", *r)
		}
	}
}

func TestP8_4_WhatIsHandedInIsNotKept(t *testing.T) {
	for n := range 64 {
		b := []byte{1, 2, 3}
		r, p := of(t, 5, b)
		clear(b)
		p.agree(t, r)
		b = []byte{4, 5, 6, 7}
		r, p = turned(t, 5, n, b)
		clear(b)
		p.agree(t, r)
	}
}

func TestP8_4_WhatIsHandedInIsOnlyRead(t *testing.T) {
	for n := range 64 {
		space := count(1, 20)
		b := space[2:6]
		r, p := of(t, 5, b)
		both(t, r, p, b)
		bothRead(t, r, p, 3)
		both(t, r, p, b)
		r, p = turned(t, 7, n, b)
		both(t, r, p, b)
		bothRead(t, r, p, 7)
		if !bytes.Equal(space, count(1, 20)) {
			t.Fatalf("what was handed in was turned: %v", space)
		}
	}
}

// spoil writes over bytes, and over what memory they have behind them.
func spoil(b []byte) {
	b = b[:cap(b)]
	for i := range b {
		b[i] = 99
	}
}

func TestP8_4_WhatIsAnsweredIsNew(t *testing.T) {
	for n := range 64 {
		r, p := turned(t, 6, n, []byte{1, 2, 3, 4, 5})
		spoil(r.All())
		p.agree(t, r)
		spoil(r.Peek(2))
		spoil(r.Peek(9))
		p.agree(t, r)
		spoil(r.Read(2))
		p.read(2)
		p.agree(t, r)
		spoil(r.Read(0))
		spoil(r.Read(1))
		p.read(1)
		p.agree(t, r)
		both(t, r, p, []byte{6, 7, 8, 9})
	}
}

func TestP8_4_WhatWasAnsweredStays(t *testing.T) {
	for n := range 64 {
		r, p := turned(t, 4, n, []byte{1, 2, 3, 4})
		all, peeked, read := r.All(), r.Peek(3), r.Read(2)
		p.read(2)
		for i := range 70 {
			both(t, r, p, []byte{byte(100 + i), byte(101 + i)})
			bothRead(t, r, p, 2)
		}
		if !bytes.Equal(all, []byte{1, 2, 3, 4}) || !bytes.Equal(peeked, []byte{1, 2, 3}) || !bytes.Equal(read, []byte{1, 2}) {
			t.Fatalf("what had been told was turned: %v %v %v", all, peeked, read)
		}
	}
}

// Bytes stand at every place there is, and pass its end, at every capacity and with as many as it has.
func TestP8_5_EachPlace(t *testing.T) {
	for capacity := 1; capacity <= 64; capacity++ {
		for had := range capacity + 1 {
			r, p := of(t, capacity, count(1, had))
			for i := range 2*64 + 3 {
				both(t, r, p, []byte{byte(i)})
				if len(p.list) > had {
					bothRead(t, r, p, 1)
				}
			}
			bothRead(t, r, p, capacity)
		}
	}
}

// Whatever stands where, full ones are read and filled again in two cuts, of each length.
func TestP8_5_EachCut(t *testing.T) {
	for _, capacity := range []int{1, 2, 3, 7, 32, 63, 64} {
		r, p := made(t, capacity)
		for from := range 3 * 64 {
			cut := from % (capacity + 1)
			both(t, r, p, count(from, cut))
			both(t, r, p, count(from+cut, capacity+1))
			bothRead(t, r, p, (from*5)%(capacity+1))
			bothRead(t, r, p, capacity)
			bothRead(t, r, p, 1)
			both(t, r, p, []byte{1})
			bothRead(t, r, p, 1)
		}
	}
}

// Bytes come out in the order in which they went in, each once, however they are cut.
func TestP8_5_OrderOfALongText(t *testing.T) {
	for capacity := 1; capacity <= 64; capacity++ {
		x := rand.New(rand.NewSource(int64(capacity)))
		text := make([]byte, 2000)
		x.Read(text)
		r, _ := made(t, capacity)
		var out []byte
		for in := 0; len(out) < len(text); {
			in += r.Write(text[in:min(len(text), in+x.Intn(capacity+2))])
			out = append(out, r.Read(x.Intn(capacity+2))...)
			if in-len(out) != r.Len() {
				t.Fatalf("%d went in, %d came out, Len %d", in, len(out), r.Len())
			}
		}
		if !bytes.Equal(out, text) {
			t.Fatalf("the bytes came out otherwise, at capacity %d", capacity)
		}
	}
}

// anyCall does some call to a ring and to what it has to be.
func anyCall(t *testing.T, x *rand.Rand, r *Ring, p *plain) {
	t.Helper()
	n := x.Intn(p.capacity+4) - 2
	switch x.Intn(5) {
	case 0, 1:
		b := make([]byte, max(0, n))
		x.Read(b)
		both(t, r, p, b)
	case 2, 3:
		bothRead(t, r, p, n)
	default:
		if b := r.Peek(n); !bytes.Equal(b, p.peek(n)) {
			t.Fatalf("Peek(%d) of %v: %v", n, p.list, b)
		}
		p.agree(t, r)
	}
}

func TestP8_5_AnyCalls(t *testing.T) {
	for capacity := 1; capacity <= 64; capacity++ {
		x := rand.New(rand.NewSource(int64(capacity)))
		r, p := made(t, capacity)
		for range 1500 {
			anyCall(t, x, r, p)
			if x.Intn(50) == 0 {
				old, was := r, &plain{capacity, slices.Clone(p.list)}
				r = r.Copy()
				anyCall(t, x, r, p)
				was.agree(t, old)
			}
		}
	}
}

// A ring behind any calls, and a new one made of its bytes and its capacity, answer the same from then on.
func TestP8_5_MadeAnew(t *testing.T) {
	for capacity := 1; capacity <= 64; capacity++ {
		x := rand.New(rand.NewSource(int64(-capacity)))
		r, p := made(t, capacity)
		for range 30 {
			for range x.Intn(20) {
				anyCall(t, x, r, p)
			}
			anew, q := of(t, r.Cap(), r.All())
			seed := x.Int63()
			one, other := rand.New(rand.NewSource(seed)), rand.New(rand.NewSource(seed))
			for range 20 {
				anyCall(t, one, r, p)
				anyCall(t, other, anew, q)
				if !bytes.Equal(r.All(), anew.All()) || r.Room() != anew.Room() {
					t.Fatalf("%v and %v, made anew", r.All(), anew.All())
				}
			}
		}
	}
}

func TestExamplesOfLayer8(t *testing.T) {
	r, e := New(4)
	if e != api.OK {
		t.Fatalf("New(4): %v", e)
	}
	if n := r.Write([]byte("abc")); n != 3 {
		t.Errorf("Write(abc): %d", n)
	}
	if b := r.Read(2); string(b) != "ab" {
		t.Errorf("Read(2): %s", b)
	}
	if n := r.Write([]byte("defg")); n != 3 {
		t.Errorf("Write(defg): %d", n)
	}
	if b := r.All(); string(b) != "cdef" || r.Room() != 0 {
		t.Errorf("All %s, Room %d", b, r.Room())
	}
	if o, e := Of(2, []byte("abc")); o != nil || e != api.ErrRing {
		t.Errorf("Of(2, abc): %v %v", o, e)
	}
	if o, e := New(65); o != nil || e != api.ErrRing {
		t.Errorf("New(65): %v %v", o, e)
	}
	if b := r.Peek(9); string(b) != "cdef" {
		t.Errorf("Peek(9): %s", b)
	}
}
