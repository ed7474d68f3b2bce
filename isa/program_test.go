package isa

import (
	"math"
	"slices"
	"strconv"
	"strings"
	"testing"

	"carryall/api"
)

// text writes byte 10 for /, as the chapter's examples do.
func text(s string) string {
	return strings.ReplaceAll(s, "/", "\n")
}

func assembles(t *testing.T, s string, want ...uint32) {
	t.Helper()
	if words, line, e := Assemble(s); !slices.Equal(words, want) || line != 0 || e != api.OK {
		t.Errorf("Assemble(%.200q) = %08x, %d, %v, not %08x", s, words, line, e, want)
	}
}

func refuses(t *testing.T, s string, want int) {
	t.Helper()
	if words, line, e := Assemble(s); len(words) != 0 || line != want || e != api.ErrAsm {
		t.Errorf("Assemble(%.200q) = %08x, %d, %v, not line %d", s, words, line, e, want)
	}
}

func TestP3_3_Examples(t *testing.T) {
	assembles(t, text("a:/li 1 5/jnz 1 a/jmp b/b:/sys/"), 0x01100005, 0x1510fffe, 0x13000000, 0x18000000)
	refuses(t, text("jmp x/"), 1)
	refuses(t, text("a:/a:/"), 2)
	refuses(t, "sys", 1)
}

func TestP3_3_EachInstruction(t *testing.T) {
	var s string
	var words []uint32
	for _, x := range known() {
		assembles(t, x.line+"\n", x.w)
		s, words = s+x.line+"\n", append(words, x.w)
	}
	assembles(t, s, words...)
}

func TestP3_3_NothingAtAll(t *testing.T) {
	assembles(t, "")
	assembles(t, "a:\n")
	if s := List(nil); s != "" {
		t.Errorf("List of nothing = %q", s)
	}
	if s := List([]uint32{}); s != "" {
		t.Errorf("List of nothing = %q", s)
	}
	for _, l := range [][]uint32{nil, {}} {
		if b := Bytes(l); len(b) != 0 {
			t.Errorf("Bytes of nothing = %v", b)
		}
	}
}

func TestP3_3_WordsByNumber(t *testing.T) {
	assembles(t, text("word 0/word 1/word 9/word 10/word 402653184/word 402653185/word 2147483648/word 4294967295/"), 0, 1, 9, 10, 0x18000000, 0x18000001, 1<<31, math.MaxUint32)
	for _, l := range []string{"word", "word ", "word  1", "word 1 ", "word 1 2", " word 1", "Word 1", "word 01", "word 00", "word -0", "word -1", "word +1", "word 4294967296", "word 4294967300", "word 9999999999", "word 10000000000", "word 18446744073709551616", "word a", "word 1a", "word 0x1", "word\t1", "word1", "word 1:", "word sys"} {
		refuses(t, l+"\n", 1)
		refuses(t, "sys\n"+l+"\nsys\n", 2)
	}
}

func TestP3_3_LabelsAheadAndBehind(t *testing.T) {
	assembles(t, text("a:/jmp a/"), 0x1300ffff)
	assembles(t, text("jmp a/a:/"), 0x13000000)
	assembles(t, text("jmp a/sys/a:/"), 0x13000001, 0x18000000)
	assembles(t, text("jmp a/a:/sys/"), 0x13000000, 0x18000000)
	assembles(t, text("nop/a:/nop/jal 7 a/"), 0, 0, 0x1670fffe)
	assembles(t, text("jz 3 end/jnz 4 start/start:/jal 5 end/word 7/end:/"), 0x14300003, 0x15400000, 0x16500001, 7)
	assembles(t, text("a:/b:/c:/jmp c/jmp b/jmp a/"), 0x1300ffff, 0x1300fffe, 0x1300fffd)
	assembles(t, text("jmp x/jmp y/x:/y:/"), 0x13000001, 0x13000000)
	assembles(t, text("nobody:/sys/else:/"), 0x18000000)
	assembles(t, text("a:/word 5/word 6/jmp a/jmp -3/"), 5, 6, 0x1300fffd, 0x1300fffd)
}

func TestP3_3_NamesThatAreWordsToo(t *testing.T) {
	assembles(t, text("sys:/jmp sys/"), 0x1300ffff)
	assembles(t, text("word:/jmp word/"), 0x1300ffff)
	assembles(t, text("jmp:/jmp jmp/sys/"), 0x1300ffff, 0x18000000)
}

func TestP3_3_NamesOfAllLengths(t *testing.T) {
	for n := range 40 {
		name := strings.Repeat("q", n)
		if n > 1 {
			name = "a" + strings.Repeat("7", n-1)
		}
		switch {
		case n >= 1 && n <= 16:
			assembles(t, name+":\njmp "+name+"\n", 0x1300ffff)
		default:
			refuses(t, "nop\n"+name+":\n", 2)
			refuses(t, "nop\nsys\njmp "+name+"\nxxx\n", 3)
		}
	}
	assembles(t, text("a234567890123456:/a23456789012345:/jmp a23456789012345/"), 0x1300ffff)
	assembles(t, text("a:/nop/aa:/nop/ab:/jmp a/jmp aa/jmp ab/"), 0, 0, 0x1300fffd, 0x1300fffd, 0x1300fffd)
}

func TestP3_3_NamesWithAllSigns(t *testing.T) {
	for c := range 256 {
		if c == '\n' {
			continue
		}
		sign := string([]byte{byte(c)})
		letter := c >= 'a' && c <= 'z'
		digit := c >= '0' && c <= '9'
		if letter {
			assembles(t, sign+":\njz 1 "+sign+"\n", 0x1410ffff)
		} else {
			refuses(t, "sys\n"+sign+":\n", 2)
		}
		if letter || digit {
			assembles(t, "x"+sign+":\njz 1 x"+sign+"\n", 0x1410ffff)
		} else {
			refuses(t, "sys\nx"+sign+":\n", 2)
			refuses(t, "sys\njz 1 x"+sign+"\nxxx\n", 2)
		}
	}
	for _, l := range []string{":", "\n:", "a\n:", "a::", " a:", "a :", "a: ", "a b:", "A:", "a_b:", "a-b:", "ä:", "aä:", "é1:", "1a:", "0:", "-1:", "a:sys", "a: sys", "a", "\xc3:"} {
		refuses(t, l+"\n", 1)
	}
}

func TestP3_3_WhoMayHaveNames(t *testing.T) {
	assembles(t, text("a:/jmp a/jz 0 a/jnz 7 a/jal 1 a/"), 0x1300ffff, 0x1400fffe, 0x1570fffd, 0x1610fffc)
	for _, r := range chapter {
		for _, l := range []string{"a", "0 a", "a a", "a 0", "0 0 a", "0 a 0"} {
			l = r.word + " " + l
			jumps := r.op >= 19 && r.op <= 22
			if jumps && (l == "jmp a" || r.op != 19 && strings.HasSuffix(l, " 0 a") && strings.Count(l, " ") == 2) {
				continue
			}
			refuses(t, "a:\n"+l+"\n", 2)
		}
	}
	for _, l := range []string{"jz 8 a", "jz -1 a", "jz 01 a", "jz a 1", "jz a", "jmp 1 a", "jmp a a", "jmp a ", "jmp  a", "jmp -a", "jmp a:", "jmp :a", "jmp A", "jz 1 a 2"} {
		refuses(t, "a:\n"+l+"\n", 2)
	}
}

func TestP3_3_NumbersOfLines(t *testing.T) {
	for _, bad := range []string{"", " ", "x", "sys ", "nop 0", "li 8 1", "li 1 32768", "jmp 01", "word -1", "a:", "1:", "sys\r", "; x"} {
		for n := range 6 {
			s := "a:\n" + strings.Repeat("sys\n", n)
			refuses(t, s+bad+"\n", n+2)
			refuses(t, s+bad+"\nsys\n\n", n+2)
		}
	}
	refuses(t, "\n", 1)
	refuses(t, "\n\n", 1)
	refuses(t, "sys\n\n", 2)
	refuses(t, "\nsys\n", 1)
	refuses(t, text("b:/a:/sys/a:/b:/"), 4)
}

func TestP3_3_NoByte10Behind(t *testing.T) {
	for _, last := range []string{"sys", "nop", "li 1 5", "word 5", "b:", "jmp a", "x", " "} {
		refuses(t, last, 1)
		refuses(t, "a:\nsys\n"+last, 3)
	}
	refuses(t, "jmp x\nsys", 2)
}

func TestP3_3_NamesThatAreNoLabels(t *testing.T) {
	refuses(t, text("sys/jmp x/jmp y/"), 2)
	refuses(t, text("y:/jmp y/jz 1 x/jmp z/"), 3)
	refuses(t, text("a:/jmp aa/"), 2)
	refuses(t, text("aa:/jmp a/"), 2)
	// What is wrong with a line as such comes before what is wrong with a name, wherever both stand.
	refuses(t, text("jmp x/sys/sus/"), 3)
	refuses(t, text("jmp x/a:/a:/"), 3)
	refuses(t, text("jmp x/sus/jmp y/"), 2)
}

func TestP3_3_AsManyWordsAsMayBe(t *testing.T) {
	const most = 512
	full := strings.Repeat("sys\n", most)
	assembles(t, full, slices.Repeat([]uint32{0x18000000}, most)...)
	assembles(t, full+"end:\n", slices.Repeat([]uint32{0x18000000}, most)...)
	for _, more := range []string{"sys", "word 5", "jmp a", "jmp none", "li 1 1"} {
		refuses(t, "a:\n"+full+more+"\n", most+2)
		refuses(t, "a:\n"+full+"end:\n"+more+"\nsus\n", most+3)
	}
	refuses(t, strings.Repeat("sys\n", 2*most), most+1)
	refuses(t, strings.Repeat("word 1\n", most+1), most+1)
	refuses(t, "jmp none\n"+strings.Repeat("sys\n", most), most+1)
	refuses(t, "jmp none\n"+strings.Repeat("sys\n", most-1), 1)
}

func TestP3_3_TheLongestWays(t *testing.T) {
	rest := slices.Repeat([]uint32{0x18000000}, 511)
	lines := strings.Repeat("sys\n", 511)
	assembles(t, "jmp end\n"+lines+"end:\n", append([]uint32{0x130001ff}, rest...)...)
	assembles(t, "a:\n"+lines+"jmp a\n", append(rest, 0x1300fe00)...)
}

func TestP3_3_ManyLabels(t *testing.T) {
	var s strings.Builder
	for i := range 5000 {
		s.WriteString("l" + strconv.Itoa(i) + ":\n")
	}
	assembles(t, "jmp l4999\nsys\n"+s.String()+"jmp l0\n", 0x13000001, 0x18000000, 0x1300ffff)
	refuses(t, "sys\n"+s.String()+"l2500:\n", 5002)
}

func TestP3_3_List(t *testing.T) {
	for _, x := range known() {
		if s := List([]uint32{x.w}); s != x.line+"\n" {
			t.Errorf("List(%08x) = %q, not %q", x.w, s, x.line)
		}
	}
	got := List([]uint32{0x0110ffff, 0x18000000, 0x18000001, math.MaxUint32, 0, 1, 0x13007fff})
	if want := text("li 1 -1/sys/word 402653185/word 4294967295/nop/word 1/jmp 32767/"); got != want {
		t.Errorf("List = %q, not %q", got, want)
	}
	if s := List(make([]uint32, 1000)); s != strings.Repeat("nop\n", 1000) {
		t.Errorf("List of 1000 words has %d bytes", len(s))
	}
}

func TestP3_3_Bytes(t *testing.T) {
	got := Bytes([]uint32{0x0110ffff, 0x18000000, 0x01020304, math.MaxUint32, 0})
	want := []byte{0xff, 0xff, 0x10, 0x01, 0, 0, 0, 0x18, 4, 3, 2, 1, 255, 255, 255, 255, 0, 0, 0, 0}
	if !slices.Equal(got, want) {
		t.Errorf("Bytes = %v, not %v", got, want)
	}
	if b := Bytes(make([]uint32, 1000)); !slices.Equal(b, make([]byte, 4000)) {
		t.Errorf("Bytes of 1000 words are %d", len(b))
	}
}

func TestP3_4_OnlyReadAndNew(t *testing.T) {
	words := []uint32{0x0110ffff, 0x18000000, math.MaxUint32}
	was := slices.Clone(words)
	s := List(words)
	b := Bytes(words)
	b[0], b[11] = 7, 7
	if !slices.Equal(words, was) {
		t.Errorf("words became %08x", words)
	}
	if again := Bytes(words); again[0] != 0xff || again[11] != 0xff {
		t.Errorf("Bytes again = %v", again)
	}
	first, _, _ := Assemble(s)
	first[0] = 7
	if second, _, _ := Assemble(s); !slices.Equal(second, was) {
		t.Errorf("Assemble again = %08x", second)
	}
	words[0] = 0
	if s != text("li 1 -1/sys/word 4294967295/") {
		t.Errorf("the list became %q", s)
	}
}

func TestP3_4_RoomBehindIsLeftAlone(t *testing.T) {
	all := []uint32{1, 2, 3, 4}
	_, _ = List(all[:2]), Bytes(all[:2])
	if !slices.Equal(all, []uint32{1, 2, 3, 4}) {
		t.Errorf("words became %v", all)
	}
}

func TestP3_4_NothingIsKept(t *testing.T) {
	assembles(t, text("a:/jmp a/"), 0x1300ffff)
	refuses(t, text("jmp a/"), 1)
	assembles(t, text("a:/jmp a/"), 0x1300ffff)
}

// TestP3_5_ListsAssemble goes through words of all high halves, up to as many as may be at a time.
func TestP3_5_ListsAssemble(t *testing.T) {
	var words []uint32
	for high := range uint32(1 << 16) {
		words = append(words, high<<16|high*40503&0xffff, high<<16)
	}
	words = append(words, math.MaxUint32, 1<<31, 1<<31-1)
	for l := range slices.Chunk(words, 512) {
		assembles(t, List(l), l...)
	}
	for _, x := range instructions() {
		w, _ := Encode(x)
		assembles(t, List([]uint32{w}), w)
	}
	for _, n := range []int{0, 1, 511, 512} {
		assembles(t, List(words[:n]), words[:n]...)
	}
	refuses(t, List(words[:513]), 513)
}
