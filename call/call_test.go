package call_test

import (
	"math"
	"math/big"
	"math/rand"
	"regexp"
	"slices"
	"strconv"
	"strings"
	"testing"

	"carryall/api"
	"carryall/call"
	"carryall/core"
	"carryall/isa"
)

// rule is a row of the chapter's table: a call's number, its word, and what its arguments are, a comma between.
type rule struct {
	n     int
	word  string
	names string
}

// chapter is that table.
var chapter = []rule{
	{1, "exit", "code"},
	{2, "fork", ""},
	{3, "wait", "address of the status or 0"},
	{4, "getpid", ""},
	{5, "getppid", ""},
	{6, "pipe", "address of two words"},
	{7, "read", "descriptor,address,how many"},
	{8, "write", "descriptor,address,how many"},
	{9, "close", "descriptor"},
	{10, "dup", "descriptor"},
	{11, "kill", "pid,signal"},
	{12, "mask", "mask"},
	{13, "handle", "signal,address"},
	{14, "sigreturn", ""},
	{15, "futexwait", "address,value"},
	{16, "futexwake", "address,how many"},
	{17, "sleep", "ticks"},
	{18, "yield", ""},
	{19, "map", "first page,how many,flags"},
	{20, "unmap", "first page,how many"},
	{21, "affinity", "mask"},
	{22, "print", "value"},
}

func (r rule) many() int {
	if r.names == "" {
		return 0
	}
	return 1 + strings.Count(r.names, ",")
}

// theCodes are the chapter's codes, as they are written there.
const theCodes = "EPERM 1, ESRCH 3, EINTR 4, EBADF 9, ECHILD 10, EAGAIN 11, ENOMEM 12, EFAULT 14, EBUSY 16, EINVAL 22, ENFILE 23, EMFILE 24, EPIPE 32, ENOSYS 38, ENOTCLOSED 60"

// codes are they by numbers.
func codes() map[int]string {
	m := map[int]string{}
	for _, s := range strings.Split(theCodes, ", ") {
		word, n, _ := strings.Cut(s, " ")
		k, _ := strconv.Atoi(n)
		m[k] = word
	}
	return m
}

// ruleOf is the row of a number; nothing, if there is none.
func ruleOf(n int) (rule, bool) {
	for _, r := range chapter {
		if r.n == n {
			return r, true
		}
	}
	return rule{}, false
}

// noCalls are numbers of no call.
func noCalls() []int {
	return []int{0, 23, -1, -2, -22, 24, 32, 63, 64, 127, 128, 255, 256, 257, 1 << 16, 1<<16 + 1, math.MaxInt32, math.MinInt32, 1 << 32, 1<<32 + 1, 1<<32 + 22, -1<<32 + 1, 1<<62 + 1, math.MaxInt - 1, math.MaxInt, math.MinInt, math.MinInt + 1, math.MinInt + 22}
}

// words are both ends of arguments, and some between.
func words() []uint32 {
	return []uint32{0, 1, 2, 3, 9, 10, 11, 99, 100, 255, 256, 32766, 32767, 32768, 65535, 65536, 999999999, 1000000000, 1<<31 - 1, 1 << 31, 1<<32 - 100, 1<<32 - 2, 1<<32 - 1}
}

// small are those of them that a program may have.
func small() []uint32 {
	return []uint32{0, 1, 2, 10, 64, 255, 256, 4660, 32766, 32767}
}

// callsOf are all calls that may be, with arguments of these.
func callsOf(l []uint32) []api.Call {
	var all []api.Call
	for _, r := range chapter {
		rows := [][3]uint32{{}}
		for i := range r.many() {
			var longer [][3]uint32
			for _, args := range rows {
				for _, w := range l {
					args[i] = w
					longer = append(longer, args)
				}
			}
			rows = longer
		}
		for _, args := range rows {
			all = append(all, api.Call{N: r.n, Args: args})
		}
	}
	return all
}

// may says whether a call may be, argument by argument.
func may(c api.Call) bool {
	r, ok := ruleOf(c.N)
	for i, a := range c.Args {
		if i >= r.many() && a != 0 {
			ok = false
		}
	}
	return ok
}

// line is put together piece by piece.
func line(c api.Call) string {
	r, _ := ruleOf(c.N)
	l := []string{r.word}
	for _, a := range c.Args[:r.many()] {
		l = append(l, new(big.Int).SetUint64(uint64(a)).String())
	}
	return strings.Join(l, " ")
}

// pattern is what a call's line looks like.
func (r rule) pattern() *regexp.Regexp {
	return regexp.MustCompile("^" + r.word + strings.Repeat(" (0|[1-9][0-9]*)", r.many()) + `\z`)
}

func patterns() []*regexp.Regexp {
	var l []*regexp.Regexp
	for _, r := range chapter {
		l = append(l, r.pattern())
	}
	return l
}

// meant reads a line by patterns, its numbers by numbers without an end.
func meant(s string, l []*regexp.Regexp) (api.Call, bool) {
	for i, r := range chapter {
		m := l[i].FindStringSubmatch(s)
		if m == nil {
			continue
		}
		c := api.Call{N: r.n}
		for k, digits := range m[1:] {
			n, _ := new(big.Int).SetString(digits, 10)
			if n.Cmp(big.NewInt(1<<32)) >= 0 {
				return api.Call{}, false
			}
			c.Args[k] = uint32(n.Uint64())
		}
		return c, true
	}
	return api.Call{}, false
}

func TestP16_1_NamesOfTheTable(t *testing.T) {
	for _, r := range chapter {
		if s := call.Name(r.n); s != r.word {
			t.Errorf("Name(%d) = %q, not %q", r.n, s, r.word)
		}
		if n := call.ByName(r.word); n != r.n {
			t.Errorf("ByName(%q) = %d, not %d", r.word, n, r.n)
		}
		if n := call.Many(r.n); n != r.many() {
			t.Errorf("Many(%d) = %d, not %d", r.n, n, r.many())
		}
	}
	if len(chapter) != api.MaxCall {
		t.Error(len(chapter))
	}
}

// TestP16_1_NumbersOfApi: the calls' constants have their words.
func TestP16_1_NumbersOfApi(t *testing.T) {
	for word, n := range map[string]int{
		"exit": api.SysExit, "fork": api.SysFork, "wait": api.SysWait, "getpid": api.SysGetpid, "getppid": api.SysGetppid, "pipe": api.SysPipe, "read": api.SysRead, "write": api.SysWrite, "close": api.SysClose, "dup": api.SysDup, "kill": api.SysKill, "mask": api.SysMask, "handle": api.SysHandle, "sigreturn": api.SysSigreturn, "futexwait": api.SysFutexwait, "futexwake": api.SysFutexwake, "sleep": api.SysSleep, "yield": api.SysYield, "map": api.SysMap, "unmap": api.SysUnmap, "affinity": api.SysAffinity, "print": api.SysPrint,
	} {
		if call.Name(n) != word || call.ByName(word) != n {
			t.Error(word, n, call.Name(n), call.ByName(word))
		}
	}
}

func TestP16_1_NumbersOfNoCall(t *testing.T) {
	for _, n := range noCalls() {
		if s := call.Name(n); s != "" {
			t.Errorf("Name(%d) = %q", n, s)
		}
		if k := call.Many(n); k != -1 {
			t.Errorf("Many(%d) = %d", n, k)
		}
	}
	for n := -1000; n <= 1000; n++ {
		r, ok := ruleOf(n)
		k := -1
		if ok {
			k = r.many()
		}
		if call.Name(n) != r.word || call.Many(n) != k {
			t.Errorf("%d: %q, %d", n, call.Name(n), call.Many(n))
		}
	}
}

// named holds ByName against the table.
func named(t *testing.T, s string) {
	t.Helper()
	want := 0
	for _, r := range chapter {
		if r.word == s {
			want = r.n
		}
	}
	if n := call.ByName(s); n != want {
		t.Errorf("ByName(%q) = %d, not %d", s, n, want)
	}
}

func TestP16_1_WordsThatAreChanged(t *testing.T) {
	for _, r := range chapter {
		named(t, strings.ToUpper(r.word))
		named(t, strings.ToUpper(r.word[:1])+r.word[1:])
		named(t, r.word+r.word)
		for i := range len(r.word) + 1 {
			named(t, r.word[:i])
			named(t, r.word[i:])
			for c := range 256 {
				one := string([]byte{byte(c)})
				named(t, r.word[:i]+one+r.word[i:])
				if i < len(r.word) {
					named(t, r.word[:i]+r.word[i+1:])
					named(t, r.word[:i]+one+r.word[i+1:])
				}
			}
		}
	}
}

func TestP16_1_WordsOfNoCall(t *testing.T) {
	for _, s := range []string{"", " ", "\n", "\x00", "0", "1", "22", "exit 0", " exit", "exit ", "exit\n", "Exit", "EXIT", "exi", "exits", "sys", "EPERM", "getpidp", "getpppid", "futex", "wake", "mmap", "\xff", "é", strings.Repeat("exit", 100000), strings.Repeat(" ", 100000)} {
		if n := call.ByName(s); n != 0 {
			t.Errorf("ByName(%.40q) = %d", s, n)
		}
	}
}

func TestP16_1_Codes(t *testing.T) {
	all := codes()
	if len(all) != 15 {
		t.Fatal(all)
	}
	for n := -1000; n <= 1000; n++ {
		if s := call.Code(n); s != all[n] {
			t.Errorf("Code(%d) = %q, not %q", n, s, all[n])
		}
	}
	for _, n := range []int{0, 2, 5, 13, 15, 17, 21, 25, 31, 33, 37, 39, 59, 61, 100, 256 + 1, 1<<16 + 1, 1 << 31, 1<<31 + 1, 1<<32 - 1, 1 << 32, 1<<32 + 1, 1<<32 + 11, -1<<32 + 1, math.MaxInt, math.MinInt, math.MinInt + 1, -60, -11} {
		if s := call.Code(n); s != "" {
			t.Errorf("Code(%d) = %q", n, s)
		}
	}
}

// TestP16_1_CodesOfApi: the codes' constants have their words.
func TestP16_1_CodesOfApi(t *testing.T) {
	for word, n := range map[string]int{
		"EPERM": api.EPERM, "ESRCH": api.ESRCH, "EINTR": api.EINTR, "EBADF": api.EBADF, "ECHILD": api.ECHILD, "EAGAIN": api.EAGAIN, "ENOMEM": api.ENOMEM, "EFAULT": api.EFAULT, "EBUSY": api.EBUSY, "EINVAL": api.EINVAL, "ENFILE": api.ENFILE, "EMFILE": api.EMFILE, "EPIPE": api.EPIPE, "ENOSYS": api.ENOSYS, "ENOTCLOSED": api.ENOTCLOSED,
	} {
		if call.Code(n) != word {
			t.Error(word, n, call.Code(n))
		}
	}
}

func TestP16_2_AnswerOfAllCodes(t *testing.T) {
	for n, w := range map[int]uint32{1: 4294967295, 3: 4294967293, 4: 4294967292, 9: 4294967287, 10: 4294967286, 11: 4294967285, 12: 4294967284, 14: 4294967282, 16: 4294967280, 22: 4294967274, 23: 4294967273, 24: 4294967272, 32: 4294967264, 38: 4294967258, 60: 4294967236} {
		if x := call.Answer(n); x != w {
			t.Errorf("Answer(%d) = %d, not %d", n, x, w)
		}
		if k := call.Failed(w); k != n {
			t.Errorf("Failed(%d) = %d, not %d", w, k, n)
		}
	}
}

func TestP16_2_AnswerOfNoCode(t *testing.T) {
	all := codes()
	numbers := noCalls()
	for n := -300; n <= 300; n++ {
		numbers = append(numbers, n, n+1<<32, n-1<<32, n+1<<40)
	}
	for _, n := range numbers {
		if all[n] != "" {
			continue
		}
		if w := call.Answer(n); w != 0 {
			t.Errorf("Answer(%d) = %d", n, w)
		}
	}
}

// fails holds Failed against each of the codes.
func fails(t *testing.T, w uint32) {
	t.Helper()
	want := 0
	for n := range codes() {
		if uint64(w)+uint64(n) == 1<<32 {
			want = n
		}
	}
	if n := call.Failed(w); n != want {
		t.Errorf("Failed(%d) = %d, not %d", w, n, want)
	}
}

func TestP16_2_Failed(t *testing.T) {
	for i := range uint32(1000) {
		fails(t, i)
		fails(t, -i)
		fails(t, 1<<31+i)
		fails(t, 1<<31-i)
		fails(t, 1<<16-i)
		fails(t, 1<<24-i)
	}
	for _, w := range []uint32{0, 1, 11, 60, 4294967195, 4294967196, 4294967197, 4294967235, 4294967237, 4294967294} {
		if n := call.Failed(w); n != 0 {
			t.Errorf("Failed(%d) = %d", w, n)
		}
	}
}

func TestP16_2_OfEachCall(t *testing.T) {
	chance := rand.New(rand.NewSource(16))
	for _, r := range chapter {
		for range 500 {
			regs := [8]uint32{uint32(r.n)}
			for i := 1; i < len(regs); i++ {
				regs[i] = oneOf(chance, words())
			}
			want := api.Call{N: r.n}
			for i := range r.many() {
				want.Args[i] = regs[i+1]
			}
			kept := regs
			if c, ok := call.Of(regs); c != want || !ok {
				t.Fatalf("Of(%v) = %v, %v, not %v", regs, c, ok, want)
			}
			if regs != kept {
				t.Fatal("Of changed", kept)
			}
		}
	}
}

// oneOf is one of them, or any word.
func oneOf(chance *rand.Rand, l []uint32) uint32 {
	if i := chance.Intn(len(l) + 5); i < len(l) {
		return l[i]
	}
	return chance.Uint32()
}

func TestP16_2_OfTakesNoMoreThanTheCallHas(t *testing.T) {
	full := [8]uint32{0, 1, 2, 3, 4, 5, 6, 7}
	for _, r := range chapter {
		full[0] = uint32(r.n)
		c, ok := call.Of(full)
		want := [][3]uint32{{}, {1}, {1, 2}, {1, 2, 3}}[r.many()]
		if c.N != r.n || c.Args != want || !ok {
			t.Errorf("Of(%v) = %v, %v", full, c, ok)
		}
		if s, e := call.Line(c); e != api.OK {
			t.Errorf("Line of it: %q, %v", s, e)
		}
	}
}

func TestP16_2_OfNoCall(t *testing.T) {
	for _, n := range []uint32{0, 23, 24, 64, 255, 256, 257, 1<<16 + 1, 1<<24 + 1, 1<<31 - 1, 1 << 31, 1<<31 + 1, 1<<32 - 22, 1<<32 - 2, 1<<32 - 1} {
		for _, rest := range []uint32{0, 1, 7, 1<<32 - 1} {
			regs := [8]uint32{n, rest, rest, rest, rest, rest, rest, rest}
			if c, ok := call.Of(regs); c != (api.Call{}) || ok {
				t.Errorf("Of(%v) = %v, %v", regs, c, ok)
			}
		}
	}
	if c, ok := call.Of([8]uint32{}); c != (api.Call{}) || ok {
		t.Error(c, ok)
	}
}

func TestP16_3_LinesByHand(t *testing.T) {
	for _, x := range []struct {
		c api.Call
		s string
	}{
		{api.Call{N: api.SysExit, Args: [3]uint32{0}}, "exit 0"},
		{api.Call{N: api.SysFork}, "fork"},
		{api.Call{N: api.SysWait, Args: [3]uint32{60}}, "wait 60"},
		{api.Call{N: api.SysGetpid}, "getpid"},
		{api.Call{N: api.SysGetppid}, "getppid"},
		{api.Call{N: api.SysPipe, Args: [3]uint32{128}}, "pipe 128"},
		{api.Call{N: api.SysRead, Args: [3]uint32{3, 64, 5}}, "read 3 64 5"},
		{api.Call{N: api.SysWrite, Args: [3]uint32{1<<32 - 1, 0, 1}}, "write 4294967295 0 1"},
		{api.Call{N: api.SysClose, Args: [3]uint32{7}}, "close 7"},
		{api.Call{N: api.SysDup, Args: [3]uint32{10}}, "dup 10"},
		{api.Call{N: api.SysKill, Args: [3]uint32{65535, 9}}, "kill 65535 9"},
		{api.Call{N: api.SysMask, Args: [3]uint32{1 << 31}}, "mask 2147483648"},
		{api.Call{N: api.SysHandle, Args: [3]uint32{12, 1}}, "handle 12 1"},
		{api.Call{N: api.SysSigreturn}, "sigreturn"},
		{api.Call{N: api.SysFutexwait, Args: [3]uint32{0, 0}}, "futexwait 0 0"},
		{api.Call{N: api.SysFutexwake, Args: [3]uint32{64, 1<<31 - 1}}, "futexwake 64 2147483647"},
		{api.Call{N: api.SysSleep, Args: [3]uint32{100}}, "sleep 100"},
		{api.Call{N: api.SysYield}, "yield"},
		{api.Call{N: api.SysMap, Args: [3]uint32{63, 1, 3}}, "map 63 1 3"},
		{api.Call{N: api.SysUnmap, Args: [3]uint32{0, 64}}, "unmap 0 64"},
		{api.Call{N: api.SysAffinity, Args: [3]uint32{255}}, "affinity 255"},
		{api.Call{N: api.SysPrint, Args: [3]uint32{4000000000}}, "print 4000000000"},
	} {
		if s, e := call.Line(x.c); s != x.s || e != api.OK {
			t.Errorf("Line(%v) = %q, %v, not %q", x.c, s, e, x.s)
		}
		if c, e := call.Read(x.s); c != x.c || e != api.OK {
			t.Errorf("Read(%q) = %v, %v, not %v", x.s, c, e, x.c)
		}
	}
}

// lines holds Line against what has to be said of a call that may be, or not.
func lines(t *testing.T, c api.Call) {
	t.Helper()
	want, e := "", api.ErrCall
	if may(c) {
		want, e = line(c), api.OK
	}
	if s, got := call.Line(c); s != want || got != e {
		t.Errorf("Line(%v) = %q, %v, not %q, %v", c, s, got, want, e)
	}
}

func TestP16_3_LineOfAll(t *testing.T) {
	for _, c := range callsOf(words()) {
		lines(t, c)
	}
}

func TestP16_3_LineOfNoCall(t *testing.T) {
	for _, n := range noCalls() {
		for _, args := range [][3]uint32{{}, {1}, {0, 1}, {0, 0, 1}, {1, 2, 3}} {
			c := api.Call{N: n, Args: args}
			if s, e := call.Line(c); s != "" || e != api.ErrCall {
				t.Errorf("Line(%v) = %q, %v", c, s, e)
			}
		}
	}
}

// TestP16_3_LineOfOneArgumentTooMany puts a number into each place that a call's arguments leave.
func TestP16_3_LineOfOneArgumentTooMany(t *testing.T) {
	for _, c := range callsOf([]uint32{0, 1, 1<<32 - 1}) {
		r, _ := ruleOf(c.N)
		for i := r.many(); i < 3; i++ {
			for _, a := range []uint32{1, 2, 256, 1 << 16, 1 << 31, 1<<32 - 1} {
				more := c
				more.Args[i] = a
				if s, e := call.Line(more); s != "" || e != api.ErrCall {
					t.Errorf("Line(%v) = %q, %v", more, s, e)
				}
				if s, e := call.Program([]api.Call{more}); s != "" || e != api.ErrCall {
					t.Errorf("Program of %v = %q, %v", more, s, e)
				}
			}
		}
	}
}

func TestP16_3_ReadOfNoLine(t *testing.T) {
	for _, s := range []string{
		"", " ", "  ", "\n", "\x00", "\xff", "0", "22", "1 0", "sys", "foo", "foo 1", "li 1 5", "a:", "word 0", "EPERM", "#",
		"fork ", " fork", "fork  ", "fork\n", "\nfork", "fork\r", "fork\t", "fork\x00", "Fork", "FORK", "for", "forks", "fo rk", "fork 0", "fork 1", "fork -", "fork fork", "fork\nfork", "2", "fork, ",
		"exit", "exit ", "exit  ", "exit 0 ", " exit 0", "exit  0", "exit 0\n", "\nexit 0", "exit 0\r", "exit\t0", "exit\n0", "exit0", "exit,0", "exit 0 0", "exit 1 2", "exit 1 2 3", "exit 1 2 3 4", "exit 1 2 3 4 5",
		"exit 00", "exit 01", "exit 007", "exit 00000000000000000001", "exit +0", "exit +1", "exit -0", "exit -1", "exit - 1", "exit 1-", "exit --1", "exit 1+", "exit 0x1", "exit 0X1", "exit 0b1", "exit 0o1", "exit 1_0", "exit 1e3", "exit 1.0", "exit 1.", "exit .1", "exit a", "exit 1a", "exit a1", "exit 1 a", "exit /", "exit :", "exit 1/", "exit 1:", "exit ٣", "exit １", "exit \"1\"", "exit '1'", "exit 1\x00", "exit \x001", "exit 1\xff",
		"exit 4294967296", "exit 4294967297", "exit 4294967300", "exit 4300000000", "exit 5000000000", "exit 9999999999", "exit 04294967295", "exit 10000000000", "exit 42949672950", "exit 18446744073709551615", "exit 18446744073709551616", "exit 18446744073709551617", "exit 340282366920938463463374607431768211457", "exit -4294967295", "exit -18446744073709551615",
		"kill", "kill 1", "kill 1 ", "kill  1 2", "kill 1  2", "kill 1 2 ", " kill 1 2", "kill 1 2 0", "kill 1 2 3", "kill 01 2", "kill 1 02", "kill 1 4294967296", "kill 4294967296 1", "kill 1,2", "kill 1\n2", "kill a 2", "kill 1 b",
		"read", "read 3", "read 3 64", "read 3 64 ", "read 3 64 5 ", "read 3 64 5 0", "read 3 64 5 9 9", "read  3 64 5", "read 3  64 5", "read 3 64  5", " read 3 64 5", "read 3 64 5\n", "read 3 64 05", "read 3 064 5", "read 03 64 5", "read 3 64 4294967296", "read 3 4294967296 5", "read 4294967296 64 5", "read 3 64 x", "read 3 x 5", "read x 64 5", "READ 3 64 5", "Read 3 64 5", "reads 3 64 5", "rea 3 64 5", "7 3 64 5", "read -3 64 5", "read 3 -64 5", "read 3 64 -5", "read 3 64 +5",
		"getpid 0", "getppi", "getpidd", "yield 0", "sigreturn 0", "sigreturn ", "map 1 2", "map 1 2 3 4", "unmap 1", "unmap 1 2 3", "futexwait 1", "futexwake 1 2 3", "print", "print 1 2", "print print",
	} {
		if c, e := call.Read(s); c != (api.Call{}) || e != api.ErrCall {
			t.Errorf("Read(%q) = %v, %v", s, c, e)
		}
	}
	for _, s := range []string{strings.Repeat(" ", 100000), "fork" + strings.Repeat(" ", 100000), "exit" + strings.Repeat(" 1", 100000), "exit " + strings.Repeat("9", 100000), "exit " + strings.Repeat("0", 100000), "exit " + strings.Repeat("0", 100000) + "1", strings.Repeat("fork\n", 100), strings.Repeat("exit", 100000)} {
		if c, e := call.Read(s); c != (api.Call{}) || e != api.ErrCall {
			t.Errorf("Read of %d bytes = %v, %v", len(s), c, e)
		}
	}
}

// reads holds Read against the patterns, and Line against what it answers.
func reads(t *testing.T, s string, l []*regexp.Regexp) {
	t.Helper()
	want, ok := meant(s, l)
	e := api.OK
	if !ok {
		want, e = api.Call{}, api.ErrCall
	}
	if c, got := call.Read(s); c != want || got != e {
		t.Errorf("Read(%q) = %v, %v, not %v, %v", s, c, got, want, e)
	}
	if back, got := call.Line(want); ok && (back != s || got != api.OK) {
		t.Errorf("Line of Read of %q = %q, %v", s, back, got)
	}
}

// TestP16_3_LinesChanged changes each byte of lines, leaves it out, or puts one more there.
func TestP16_3_LinesChanged(t *testing.T) {
	l := patterns()
	for _, c := range callsOf([]uint32{0, 30, 1<<32 - 1}) {
		s := line(c)
		for i := range len(s) + 1 {
			for _, one := range []string{"", " ", "  ", "0", "1", "9", "-", "+", "_", "e", "t", "x", "E", "\n", "\t", "\x00", "\xff"} {
				reads(t, s[:i]+one+s[i:], l)
				if i < len(s) {
					reads(t, s[:i]+one+s[i+1:], l)
				}
			}
			reads(t, s[:i], l)
			reads(t, s[i:], l)
		}
	}
}

// TestP16_3_LinesByChance puts words, digits and blanks together.
func TestP16_3_LinesByChance(t *testing.T) {
	chance := rand.New(rand.NewSource(3))
	parts := []string{" ", " ", " ", "0", "1", "42", "4294967295", "4294967296", "00", "-1", "+1", "", "\n"}
	l, good := patterns(), 0
	for range 30000 {
		s := chapter[chance.Intn(len(chapter))].word
		for range chance.Intn(7) {
			s += parts[chance.Intn(len(parts))]
		}
		if _, ok := meant(s, l); ok {
			good++
		}
		reads(t, s, l)
	}
	if good < 1000 {
		t.Error("only so many were lines:", good)
	}
}

// program is put together line by line.
func program(l []api.Call) string {
	var lines []string
	for _, c := range l {
		r, _ := ruleOf(c.N)
		lines = append(lines, "li 0 "+strconv.Itoa(c.N))
		for i, a := range c.Args[:r.many()] {
			lines = append(lines, "li "+strconv.Itoa(i+1)+" "+strconv.Itoa(int(a)))
		}
		lines = append(lines, "sys")
	}
	text := ""
	for _, s := range lines {
		text += s + "\n"
	}
	return text
}

// assembled is the program's words, each made by itself, for layer 3's to be held against.
func assembled(l []api.Call) []uint32 {
	var words []uint32
	for _, c := range l {
		r, _ := ruleOf(c.N)
		words = append(words, 0x01000000+uint32(c.N))
		for i, a := range c.Args[:r.many()] {
			words = append(words, 0x01000000+uint32(i+1)<<20+a)
		}
		words = append(words, 0x18000000)
	}
	return words
}

// programs holds Program against what has to be said, and lets layer 3 assemble it.
func programs(t *testing.T, l []api.Call) {
	t.Helper()
	want := program(l)
	s, e := call.Program(l)
	if s != want || e != api.OK {
		t.Fatalf("Program(%v) = %q, %v, not %q", l, s, e, want)
	}
	words, at, e := isa.Assemble(s)
	if e != api.OK || at != 0 || !slices.Equal(words, assembled(l)) {
		t.Fatalf("Assemble of Program(%v) = %x, %d, %v", l, words, at, e)
	}
}

func TestP16_3_ProgramsByHand(t *testing.T) {
	for _, x := range []struct {
		l []api.Call
		s string
	}{
		{nil, ""},
		{[]api.Call{}, ""},
		{[]api.Call{{N: api.SysFork}}, "li 0 2/sys/"},
		{[]api.Call{{N: api.SysExit, Args: [3]uint32{2}}}, "li 0 1/li 1 2/sys/"},
		{[]api.Call{{N: api.SysExit}}, "li 0 1/li 1 0/sys/"},
		{[]api.Call{{N: api.SysKill, Args: [3]uint32{2, 9}}}, "li 0 11/li 1 2/li 2 9/sys/"},
		{[]api.Call{{N: api.SysMap, Args: [3]uint32{8, 2, 1}}}, "li 0 19/li 1 8/li 2 2/li 3 1/sys/"},
		{[]api.Call{{N: api.SysPrint, Args: [3]uint32{32767}}}, "li 0 22/li 1 32767/sys/"},
		{[]api.Call{{N: api.SysGetpid}, {N: api.SysPrint, Args: [3]uint32{7}}, {N: api.SysExit, Args: [3]uint32{3}}}, "li 0 4/sys/li 0 22/li 1 7/sys/li 0 1/li 1 3/sys/"},
		{[]api.Call{{N: api.SysYield}, {N: api.SysYield}}, "li 0 18/sys/li 0 18/sys/"},
	} {
		want := strings.ReplaceAll(x.s, "/", "\n")
		if s, e := call.Program(x.l); s != want || e != api.OK {
			t.Errorf("Program(%v) = %q, %v, not %q", x.l, s, e, want)
		}
	}
}

func TestP16_3_ProgramsOfOne(t *testing.T) {
	programs(t, nil)
	for _, c := range callsOf(small()) {
		programs(t, []api.Call{c})
	}
}

func TestP16_3_ProgramsOfSeveral(t *testing.T) {
	chance := rand.New(rand.NewSource(9))
	all := callsOf(small())
	for range 500 {
		var l []api.Call
		for range 2 + chance.Intn(60) {
			l = append(l, all[chance.Intn(len(all))])
		}
		programs(t, l)
	}
}

// TestP16_3_ProgramDone does the steps of a program: at each sys the registers say the call.
func TestP16_3_ProgramDone(t *testing.T) {
	chance := rand.New(rand.NewSource(5))
	all := callsOf(small())
	for range 100 {
		var l []api.Call
		for range 1 + chance.Intn(20) {
			l = append(l, all[chance.Intn(len(all))])
		}
		s, _ := call.Program(l)
		words, _, _ := isa.Assemble(s)
		m := core.Ram{Bytes: isa.Bytes(words)}
		var x api.Cpu
		for _, want := range l {
			done, _, trap := core.Run(x, &m, 5)
			if c, ok := call.Of(done.R); c != want || !ok || trap != api.TrapSys {
				t.Fatalf("%v, %v, trap %d, not %v", c, ok, trap, want)
			}
			x = done
			x.Pc += 4
		}
		if int(x.Pc) != 4*len(words) {
			t.Error(x.Pc, len(words))
		}
	}
}

// TestP16_3_ProgramOfGreatArguments puts one above 32767 into each argument of each call.
func TestP16_3_ProgramOfGreatArguments(t *testing.T) {
	for _, c := range callsOf([]uint32{0, 32767}) {
		r, _ := ruleOf(c.N)
		for i := range r.many() {
			for _, a := range []uint32{32768, 32769, 40000, 65535, 65536, 65537, 1<<31 - 1, 1 << 31, 1<<32 - 32768, 1<<32 - 1} {
				great := c
				great.Args[i] = a
				fork := api.Call{N: api.SysFork}
				for _, l := range [][]api.Call{{great}, {great, fork}, {fork, great}, {fork, c, great, c, fork}} {
					if s, e := call.Program(l); s != "" || e != api.ErrCall {
						t.Errorf("Program(%v) = %q, %v", l, s, e)
					}
				}
			}
		}
	}
}

func TestP16_3_ProgramOfNoCall(t *testing.T) {
	good := api.Call{N: api.SysRead, Args: [3]uint32{1, 2, 3}}
	var bad []api.Call
	for _, n := range noCalls() {
		bad = append(bad, api.Call{N: n}, api.Call{N: n, Args: [3]uint32{1, 2, 3}})
	}
	bad = append(bad, api.Call{N: api.SysFork, Args: [3]uint32{1}}, api.Call{N: api.SysExit, Args: [3]uint32{0, 1}}, api.Call{N: api.SysKill, Args: [3]uint32{0, 0, 1}})
	for _, c := range bad {
		for _, l := range [][]api.Call{{c}, {c, good}, {good, c}, {good, good, c, good}} {
			if s, e := call.Program(l); s != "" || e != api.ErrCall {
				t.Errorf("Program(%v) = %q, %v", l, s, e)
			}
		}
	}
}

// TestP16_3_ProgramOfMany: a text has no bound; how many words a program has is layer 3's to say.
func TestP16_3_ProgramOfMany(t *testing.T) {
	full := slices.Repeat([]api.Call{{N: api.SysYield}}, api.MaxWords/2)
	programs(t, full)
	many := slices.Repeat(full, 100)
	if s, e := call.Program(many); s != strings.Repeat("li 0 18\nsys\n", len(many)) || e != api.OK {
		t.Errorf("%d bytes, %v", len(s), e)
	}
	many[len(many)-1].Args[0] = 1
	if s, e := call.Program(many); s != "" || e != api.ErrCall {
		t.Errorf("%d bytes, %v", len(s), e)
	}
}

// TestP16_3_ProgramOnlyReads: what is handed in stays, and what lies behind it in the same memory.
func TestP16_3_ProgramOnlyReads(t *testing.T) {
	l := callsOf(small())
	kept := slices.Clone(l)
	call.Program(l)
	call.Program(l[:3:5])
	if !slices.Equal(l, kept) {
		t.Error("the list is another one")
	}
}

// TestP16_4_NewMemory: answers stay as they are, whatever is asked, or changed, behind them.
func TestP16_4_NewMemory(t *testing.T) {
	l := []api.Call{{N: api.SysExit, Args: [3]uint32{2}}, {N: api.SysFork}}
	program, _ := call.Program(l)
	regs := [8]uint32{api.SysKill, 3, 9}
	c, _ := call.Of(regs)
	text := []byte("kill 3 9")
	read, _ := call.Read(string(text))
	said, _ := call.Line(c)
	name, code := call.Name(api.SysExit), call.Code(api.EPERM)
	l[0], l[1] = api.Call{N: api.SysYield}, api.Call{}
	regs = [8]uint32{}
	clear(text)
	again := c
	again.Args[0] = 77
	for _, x := range callsOf(small()) {
		call.Line(x)
		call.Program([]api.Call{x})
		call.Of([8]uint32{uint32(x.N), 5, 5, 5})
		call.Read(line(x))
	}
	want := api.Call{N: api.SysKill, Args: [3]uint32{3, 9}}
	if program != "li 0 1\nli 1 2\nsys\nli 0 2\nsys\n" || c != want || read != want || said != "kill 3 9" || name != "exit" || code != "EPERM" || regs[0] != 0 {
		t.Error(program, c, read, said, name, code)
	}
	if s, e := call.Program(l[:1]); s != "li 0 18\nsys\n" || e != api.OK {
		t.Error(s, e)
	}
}

func TestP16_5_ReadOfLine(t *testing.T) {
	for _, c := range callsOf(words()) {
		s, e := call.Line(c)
		if e != api.OK {
			t.Errorf("Line(%v): %v", c, e)
		}
		if back, e := call.Read(s); back != c || e != api.OK {
			t.Errorf("Read of Line of %v = %v, %v", c, back, e)
		}
	}
	chance := rand.New(rand.NewSource(1))
	for range 20000 {
		c := api.Call{N: chance.Intn(26) - 2}
		for i := range chance.Intn(4) {
			c.Args[i] = oneOf(chance, words())
		}
		lines(t, c)
		s, e := call.Line(c)
		if back, _ := call.Read(s); e == api.OK && back != c {
			t.Errorf("Read of Line of %v = %v", c, back)
		}
	}
}

func TestP16_5_OfOfRegistersIsTheCall(t *testing.T) {
	for _, c := range callsOf(words()) {
		regs := [8]uint32{uint32(c.N), c.Args[0], c.Args[1], c.Args[2]}
		if x, ok := call.Of(regs); x != c || !ok {
			t.Errorf("Of(%v) = %v, %v", regs, x, ok)
		}
	}
}

func TestP16_5_ByNameOfName(t *testing.T) {
	seen := map[string]int{}
	for n := 1; n <= api.MaxCall; n++ {
		s := call.Name(n)
		if call.ByName(s) != n || seen[s] != 0 {
			t.Errorf("ByName of Name of %d = %d; %q is %d's", n, call.ByName(s), s, seen[s])
		}
		seen[s] = n
	}
}

func TestP16_5_FailedOfAnswer(t *testing.T) {
	seen, answers := map[string]int{}, map[uint32]int{}
	for n := range codes() {
		w, s := call.Answer(n), call.Code(n)
		if call.Failed(w) != n || seen[s] != 0 || answers[w] != 0 {
			t.Errorf("Failed of Answer of %d = %d; %q is %d's, %d is %d's", n, call.Failed(w), s, seen[s], w, answers[w])
		}
		if w < 1<<32-100 {
			t.Errorf("Answer(%d) = %d is a value", n, w)
		}
		seen[s], answers[w] = n, n
	}
	for n := -1000; n < 1000; n++ {
		w := call.Answer(n)
		if w != 0 && call.Failed(w) != n || w == 0 && call.Code(n) != "" {
			t.Errorf("Failed of Answer of %d = %d", n, call.Failed(w))
		}
	}
}

func TestExamplesOfLayer16(t *testing.T) {
	if s, e := call.Line(api.Call{N: api.SysRead, Args: [3]uint32{3, 64, 5}}); s != "read 3 64 5" || e != api.OK {
		t.Error(s, e)
	}
	if n := call.Failed(4294967285); n != 11 {
		t.Error(n)
	}
	if c, ok := call.Of([8]uint32{7, 3, 64, 5, 9, 9, 9, 9}); c != (api.Call{N: api.SysRead, Args: [3]uint32{3, 64, 5}}) || !ok {
		t.Error(c, ok)
	}
	if s, e := call.Program([]api.Call{{N: api.SysExit, Args: [3]uint32{2}}}); s != "li 0 1\nli 1 2\nsys\n" || e != api.OK {
		t.Error(s, e)
	}
}
