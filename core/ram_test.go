package core

import (
	"bytes"
	"math"
	"slices"
	"testing"
)

// numbered are n bytes, none of them a nought, and no two of them next to each other alike.
func numbered(n int) []byte {
	b := make([]byte, n)
	for i := range b {
		b[i] = byte(1 + i*37%251)
	}
	return b
}

// has says whether there are n bytes from an address on.
func has(b []byte, a uint32, n int) bool {
	return int64(a)+int64(n) <= int64(len(b))
}

// readsRam holds Word and Byte against the bytes.
func readsRam(t *testing.T, m *Ram, b []byte, a uint32) {
	t.Helper()
	var w uint32
	var x byte
	if has(b, a, 4) {
		w = uint32(b[a]) + 256*uint32(b[a+1]) + 65536*uint32(b[a+2]) + 16777216*uint32(b[a+3])
	}
	if has(b, a, 1) {
		x = b[a]
	}
	if v, ok := m.Word(a); v != w || ok != has(b, a, 4) {
		t.Errorf("of %d bytes, Word(%d) = %08x, %t, not %08x", len(b), a, v, ok, w)
	}
	if v, ok := m.Byte(a); v != x || ok != has(b, a, 1) {
		t.Errorf("of %d bytes, Byte(%d) = %d, %t, not %d", len(b), a, v, ok, x)
	}
}

func writesRam(t *testing.T, n int, a uint32) {
	t.Helper()
	m, want := &Ram{numbered(n)}, numbered(n)
	if has(want, a, 4) {
		copy(want[a:], []byte{0xfd, 0xfe, 0xff, 0x80})
	}
	if ok := m.SetWord(a, 0x80fffefd); ok != has(want, a, 4) || !bytes.Equal(m.Bytes, want) {
		t.Errorf("of %d bytes, SetWord(%d): %t, %v, not %v", n, a, ok, m.Bytes, want)
	}
	readsRam(t, m, want, a)
	m, want = &Ram{numbered(n)}, numbered(n)
	if has(want, a, 1) {
		want[a] = 255
	}
	if ok := m.SetByte(a, 255); ok != has(want, a, 1) || !bytes.Equal(m.Bytes, want) {
		t.Errorf("of %d bytes, SetByte(%d): %t, %v, not %v", n, a, ok, m.Bytes, want)
	}
	readsRam(t, m, want, a)
}

// farOff are addresses that no Ram of a test has, at which one with what follows it may be too great for a word.
func farOff() []uint32 {
	return []uint32{1 << 16, math.MaxInt32, 1 << 31, 1<<31 + 1, 4294967291, 4294967292, 4294967293, 4294967294, 4294967295}
}

func TestP7_1_RamOfAllSizes(t *testing.T) {
	for n := range 14 {
		b := numbered(n)
		for a := range uint32(n + 6) {
			readsRam(t, &Ram{numbered(n)}, b, a)
			writesRam(t, n, a)
		}
		for _, a := range farOff() {
			readsRam(t, &Ram{numbered(n)}, b, a)
			writesRam(t, n, a)
		}
	}
}

func TestP7_1_FirstAndLast(t *testing.T) {
	m := &Ram{numbered(4096)}
	b := numbered(4096)
	for _, a := range append(farOff(), 0, 1, 4, 255, 256, 4091, 4092, 4093, 4094, 4095, 4096, 4097, 4100) {
		readsRam(t, m, b, a)
		writesRam(t, 4096, a)
	}
	may := map[uint32][2]bool{0: {true, true}, 4092: {true, true}, 4093: {false, true}, 4094: {false, true}, 4095: {false, true}, 4096: {}, 4294967292: {}, 4294967295: {}}
	for a, want := range may {
		_, w := m.Word(a)
		_, x := m.Byte(a)
		if w != want[0] || x != want[1] || m.SetWord(a, 7) != want[0] || m.SetByte(a, 7) != want[1] {
			t.Errorf("at %d: Word %t, Byte %t, not %v", a, w, x, want)
		}
	}
}

func TestP7_1_LowestByteFirst(t *testing.T) {
	m := &Ram{make([]byte, 8)}
	if !m.SetWord(4, 0x01020384) || !bytes.Equal(m.Bytes, []byte{0, 0, 0, 0, 0x84, 3, 2, 1}) {
		t.Errorf("SetWord wrote %v", m.Bytes)
	}
	if v, ok := m.Word(4); v != 0x01020384 || !ok {
		t.Errorf("Word(4) = %08x, %t", v, ok)
	}
	if v, ok := m.Byte(7); v != 1 || !ok {
		t.Errorf("Byte(7) = %d, %t", v, ok)
	}
	for _, v := range []uint32{0, 1, 255, 256, 1 << 31, math.MaxInt32, math.MaxUint32} {
		if !m.SetWord(0, v) {
			t.Error("SetWord(0)")
		}
		if w, ok := m.Word(0); w != v || !ok {
			t.Errorf("Word(0) = %d, %t, not %d", w, ok, v)
		}
	}
}

func TestP7_1_NoBytesAndNone(t *testing.T) {
	for _, m := range []*Ram{nil, {}, {[]byte{}}, {make([]byte, 0, 64)}} {
		for _, a := range append(farOff(), 0, 1, 3, 4) {
			w, word := m.Word(a)
			b, is := m.Byte(a)
			if w != 0 || word || b != 0 || is || m.SetWord(a, 1) || m.SetByte(a, 1) {
				t.Errorf("%v has something at %d", m, a)
			}
		}
	}
}

// TestP7_1_RoomBehind: what a list has room for is not there, and is left alone.
func TestP7_1_RoomBehind(t *testing.T) {
	all := numbered(16)
	m := &Ram{all[4:10]}
	for a := range uint32(16) {
		readsRam(t, m, numbered(16)[4:10], a)
		if a > 2 && m.SetWord(a, 0) || a > 5 && m.SetByte(a, 0) {
			t.Errorf("written at %d", a)
		}
	}
	if !slices.Equal(all, numbered(16)) {
		t.Errorf("bytes became %v", all)
	}
	if !m.SetWord(2, 0) || !m.SetByte(0, 0) || !slices.Equal(all[10:], numbered(16)[10:]) || !slices.Equal(all[:4], numbered(16)[:4]) {
		t.Errorf("bytes became %v", all)
	}
}
