package pages

import (
	"maps"
	"math"
	"math/rand"
	"slices"
	"testing"

	"carryall/api"
)

// plain is a table as the chapter's words say it: the pages that have an entry, with them.
type plain map[int]api.Entry

func (p plain) list() []api.Mapped {
	var l []api.Mapped
	for page := range api.Pages {
		if x, ok := p[page]; ok {
			l = append(l, api.Mapped{Page: page, Entry: x})
		}
	}
	return l
}

func (p plain) dirty() []int {
	var pages []int
	for page, x := range p {
		if x.Dirty {
			pages = append(pages, page)
		}
	}
	slices.Sort(pages)
	return pages
}

func (p plain) parts() int {
	there := map[int]bool{}
	for page := range p {
		there[page/8] = true
	}
	return len(there)
}

// isFree says whether n pages from page on are there and have none.
func (p plain) isFree(page, n int) bool {
	if n > 64 {
		return false
	}
	for k := page; k < page+n; k++ {
		if _, ok := p[k]; ok || k > 63 {
			return false
		}
	}
	return true
}

func (p plain) hole(n int) (int, bool) {
	for page := range 64 {
		if n >= 1 && p.isFree(page, n) {
			return page, true
		}
	}
	return 0, false
}

func (p plain) clean() int {
	dirty := p.dirty()
	for _, page := range dirty {
		x := p[page]
		x.Dirty = false
		p[page] = x
	}
	return len(dirty)
}

// far are numbers of no pages.
var far = []int{-1, 64, -2, 65, -64, 127, 128, math.MaxInt, math.MinInt, math.MaxInt - 1, math.MinInt + 1, math.MinInt + 9}

// agree holds all that a table tells against what it has to.
func (p plain) agree(t *testing.T, x *Table) {
	t.Helper()
	if !slices.Equal(x.List(), p.list()) || !slices.Equal(x.Dirty(), p.dirty()) {
		t.Fatalf("List %v, Dirty %v of %v", x.List(), x.Dirty(), p.list())
	}
	if x.Len() != len(p) || x.Parts() != p.parts() {
		t.Fatalf("Len %d, Parts %d of %v", x.Len(), x.Parts(), p.list())
	}
	for page := -2; page < 67; page++ {
		want, wok := p[page]
		if got, ok := x.Get(page); got != want || ok != wok {
			t.Fatalf("Get(%d): %v %v, not %v %v", page, got, ok, want, wok)
		}
	}
	for n := -2; n < 67; n++ {
		want, wok := p.hole(n)
		if got, ok := x.Hole(n); got != want || ok != wok {
			t.Fatalf("Hole(%d): %d %v, not %d %v of %v", n, got, ok, want, wok, p.list())
		}
	}
}

func sets(t *testing.T, x *Table, page int, e api.Entry) {
	t.Helper()
	if err := x.Set(page, e); err != api.OK {
		t.Fatalf("Set(%d, %v): %v", page, e, err)
	}
}

func clears(t *testing.T, x *Table, page int, want api.Entry) {
	t.Helper()
	if e, ok := x.Clear(page); e != want || !ok {
		t.Fatalf("Clear(%d): %v %v, not %v", page, e, ok, want)
	}
}

func holes(t *testing.T, x *Table, n, want int) {
	t.Helper()
	if page, ok := x.Hole(n); page != want || !ok {
		t.Fatalf("Hole(%d): %d %v, not %d", n, page, ok, want)
	}
}

func holesNot(t *testing.T, x *Table, ns ...int) {
	t.Helper()
	for _, n := range ns {
		if page, ok := x.Hole(n); page != 0 || ok {
			t.Fatalf("Hole(%d): %d %v", n, page, ok)
		}
	}
}

// table is one with these pages, and the same plainly: each has another frame, and every third one is Dirty.
func table(t *testing.T, pages ...int) (*Table, plain) {
	t.Helper()
	x, p := new(Table), plain{}
	for i, page := range pages {
		e := api.Entry{Frame: (page*3 + 1) % api.MaxFrame, Write: i%2 == 0, Dirty: i%3 == 0}
		sets(t, x, page, e)
		p[page] = e
	}
	return x, p
}

func all() []int {
	var pages []int
	for page := range 64 {
		pages = append(pages, page)
	}
	return pages
}

// kinds are the entries of a frame, of all the ways it may be used, or may not be.
func kinds(frame int) []api.Entry {
	var l []api.Entry
	for k := range 16 {
		l = append(l, api.Entry{Frame: frame, Write: k&1 != 0, Shared: k&2 != 0, Cow: k&4 != 0, Dirty: k&8 != 0})
	}
	return l
}

// wrong are entries that may not be.
func wrong() []api.Entry {
	var l []api.Entry
	for _, frame := range []int{-1, 256, 257, -256, math.MaxInt, math.MinInt} {
		l = append(l, kinds(frame)...)
	}
	for _, frame := range []int{0, 1, 255} {
		for k := range 4 {
			l = append(l, api.Entry{Frame: frame, Shared: true, Cow: true, Write: k&1 != 0, Dirty: k&2 != 0})
		}
	}
	return l
}

// right are entries that may be.
func right() []api.Entry {
	var l []api.Entry
	for _, frame := range []int{0, 1, 100, 254, 255} {
		for _, x := range kinds(frame) {
			if !x.Shared || !x.Cow {
				l = append(l, x)
			}
		}
	}
	return l
}

func TestP5_1_Check(t *testing.T) {
	if len(right()) != 5*12 {
		t.Fatalf("entries that may be: %d", len(right()))
	}
	for _, x := range right() {
		if e := Check(x); e != api.OK {
			t.Errorf("Check(%v): %v", x, e)
		}
	}
	for _, x := range wrong() {
		if e := Check(x); e != api.ErrPage {
			t.Errorf("Check(%v): %v", x, e)
		}
	}
}

func TestP5_1_CheckOfAllFrames(t *testing.T) {
	for frame := -300; frame < 600; frame++ {
		want := api.OK
		if frame < 0 || frame > 255 {
			want = api.ErrPage
		}
		if e := Check(api.Entry{Frame: frame}); e != want {
			t.Errorf("Check of frame %d: %v", frame, e)
		}
	}
}

func TestP5_1_SetOfAllPages(t *testing.T) {
	for _, page := range all() {
		for _, e := range right() {
			x := new(Table)
			sets(t, x, page, e)
			if got, ok := x.Get(page); got != e || !ok {
				t.Fatalf("Get(%d): %v %v, not %v", page, got, ok, e)
			}
		}
		x, p := table(t, page)
		p.agree(t, x)
	}
}

func TestP5_1_EndsOfParts(t *testing.T) {
	x, p := table(t, 0, 7, 8, 63)
	p.agree(t, x)
	for _, page := range []int{63, 0, 8, 7} {
		clears(t, x, page, p[page])
		delete(p, page)
		p.agree(t, x)
	}
}

func TestP5_1_SetTwice(t *testing.T) {
	x, p := table(t, 6, 7, 8)
	for _, e := range append(right(), right()...) {
		sets(t, x, 7, e)
		p[7] = e
		p.agree(t, x)
	}
}

func TestP5_1_SetRefused(t *testing.T) {
	x, p := table(t, 0, 5, 63)
	for _, page := range far {
		for _, e := range append(right(), wrong()...) {
			if err := x.Set(page, e); err != api.ErrPage {
				t.Errorf("Set(%d, %v): %v", page, e, err)
			}
		}
	}
	for _, page := range []int{0, 1, 5, 7, 8, 62, 63} {
		for _, e := range wrong() {
			if err := x.Set(page, e); err != api.ErrPage {
				t.Errorf("Set(%d, %v): %v", page, e, err)
			}
		}
	}
	p.agree(t, x)
}

func TestP5_1_FarPages(t *testing.T) {
	for _, pages := range [][]int{nil, {0}, {63}, all()} {
		x, p := table(t, pages...)
		for _, page := range far {
			if e, ok := x.Get(page); e != (api.Entry{}) || ok {
				t.Errorf("Get(%d): %v %v", page, e, ok)
			}
			if e, ok := x.Clear(page); e != (api.Entry{}) || ok {
				t.Errorf("Clear(%d): %v %v", page, e, ok)
			}
		}
		p.agree(t, x)
	}
}

func TestP5_1_ClearTwice(t *testing.T) {
	for _, page := range []int{0, 7, 8, 31, 63} {
		x, p := table(t, 3, page, 40)
		clears(t, x, page, p[page])
		delete(p, page)
		for range 2 {
			if e, ok := x.Clear(page); e != (api.Entry{}) || ok {
				t.Errorf("Clear(%d) again: %v %v", page, e, ok)
			}
			p.agree(t, x)
		}
	}
}

func TestP5_1_ClearOfEachKind(t *testing.T) {
	x := new(Table)
	for _, e := range right() {
		sets(t, x, 9, e)
		clears(t, x, 9, e)
		plain{}.agree(t, x)
	}
}

// A frame whose number is 0 makes an entry as any other one does, and a zero entry is one.
func TestP5_1_ZeroEntry(t *testing.T) {
	x := new(Table)
	sets(t, x, 8, api.Entry{})
	plain{8: {}}.agree(t, x)
	clears(t, x, 8, api.Entry{})
	plain{}.agree(t, x)
}

// A frame may stand at several pages: that it is one's own is no matter of tables.
func TestP5_1_OneFrameAtAllPages(t *testing.T) {
	x, p := new(Table), plain{}
	for _, page := range all() {
		sets(t, x, page, api.Entry{Frame: 255, Shared: true})
		p[page] = api.Entry{Frame: 255, Shared: true}
	}
	p.agree(t, x)
}

func TestP5_2_AllPages(t *testing.T) {
	x, p := table(t, all()...)
	p.agree(t, x)
	if x.Len() != 64 || x.Parts() != 8 {
		t.Errorf("Len %d, Parts %d", x.Len(), x.Parts())
	}
	holesNot(t, x, 1, 2, 64)
	for _, page := range all() {
		clears(t, x, page, p[page])
		delete(p, page)
		p.agree(t, x)
	}
	if x.Len() != 0 || x.Parts() != 0 {
		t.Errorf("Len %d, Parts %d", x.Len(), x.Parts())
	}
	holes(t, x, 64, 0)
}

func TestP5_2_ListRises(t *testing.T) {
	x, p := table(t, 63, 8, 0, 7, 33, 9)
	p.agree(t, x)
	var pages []int
	for _, m := range x.List() {
		pages = append(pages, m.Page)
		if m.Entry != p[m.Page] {
			t.Errorf("page %d: %v", m.Page, m.Entry)
		}
	}
	if !slices.Equal(pages, []int{0, 7, 8, 9, 33, 63}) {
		t.Errorf("List: %v", pages)
	}
}

func TestP5_2_EntriesAreLeftEarly(t *testing.T) {
	x, _ := table(t, 20, 30, 63)
	for page := range x.entries() {
		if page != 20 {
			t.Fatalf("the first page: %d", page)
		}
		break
	}
}

func TestP5_2_PartsComeAndGo(t *testing.T) {
	x := new(Table)
	for part := range 8 {
		for k, page := range []int{part * 8, part*8 + 7, part*8 + 3} {
			sets(t, x, page, api.Entry{Frame: k})
			if x.Parts() != part+1 {
				t.Fatalf("Parts with page %d: %d", page, x.Parts())
			}
		}
	}
	for _, page := range []int{24, 31} {
		x.Clear(page)
		if x.Parts() != 8 {
			t.Fatalf("Parts without page %d: %d", page, x.Parts())
		}
	}
	clears(t, x, 27, api.Entry{Frame: 2})
	if x.Parts() != 7 || x.Len() != 21 {
		t.Fatalf("Parts %d, Len %d", x.Parts(), x.Len())
	}
	sets(t, x, 30, api.Entry{Frame: 9})
	if x.Parts() != 8 || x.Len() != 22 {
		t.Fatalf("Parts %d, Len %d", x.Parts(), x.Len())
	}
}

func TestP5_2_DirtyAndClean(t *testing.T) {
	x, p := table(t, 0, 1, 7, 8, 20, 55, 56, 63)
	if !slices.Equal(x.Dirty(), []int{0, 8, 56}) {
		t.Fatalf("Dirty: %v", x.Dirty())
	}
	if n := x.Clean(); n != 3 || p.clean() != 3 {
		t.Fatalf("Clean: %d", n)
	}
	p.agree(t, x)
	if n := x.Clean(); n != 0 || len(x.Dirty()) != 0 {
		t.Fatalf("Clean again: %d, Dirty %v", n, x.Dirty())
	}
	p.agree(t, x)
	sets(t, x, 20, api.Entry{Frame: 5, Dirty: true})
	if n := x.Clean(); n != 1 {
		t.Fatalf("Clean of one: %d", n)
	}
}

// Clean takes nothing of an entry but that it is Dirty.
func TestP5_2_CleanOfEachKind(t *testing.T) {
	for _, e := range right() {
		x := new(Table)
		sets(t, x, 17, e)
		want := 0
		if e.Dirty {
			want = 1
		}
		if n := x.Clean(); n != want {
			t.Errorf("Clean of %v: %d", e, n)
		}
		e.Dirty = false
		plain{17: e}.agree(t, x)
	}
}

func TestP5_2_CleanOfAll(t *testing.T) {
	x, p := new(Table), plain{}
	for _, page := range all() {
		sets(t, x, page, api.Entry{Frame: page, Dirty: true})
		p[page] = api.Entry{Frame: page}
	}
	if !slices.Equal(x.Dirty(), all()) {
		t.Fatalf("Dirty: %v", x.Dirty())
	}
	if n := x.Clean(); n != 64 {
		t.Fatalf("Clean: %d", n)
	}
	p.agree(t, x)
}

// A dirty entry that was cleared is not dirty any more, and none is counted for it.
func TestP5_2_DirtyThatWasCleared(t *testing.T) {
	x := new(Table)
	sets(t, x, 4, api.Entry{Dirty: true})
	clears(t, x, 4, api.Entry{Dirty: true})
	if n := x.Clean(); n != 0 || len(x.Dirty()) != 0 {
		t.Errorf("Clean %d, Dirty %v", n, x.Dirty())
	}
	sets(t, x, 4, api.Entry{})
	plain{4: {}}.agree(t, x)
}

func TestP5_2_HoleOfNone(t *testing.T) {
	for _, pages := range [][]int{nil, {0}, {63}, {0, 63}, all()} {
		x, _ := table(t, pages...)
		holesNot(t, x, 0, -1, -2, -64, -65, 65, 66, 128, math.MinInt, math.MinInt+1, math.MaxInt, math.MaxInt-1, math.MaxInt-63)
	}
}

func TestP5_2_Hole(t *testing.T) {
	x := new(Table)
	holes(t, x, 1, 0)
	holes(t, x, 64, 0)
	sets(t, x, 0, api.Entry{})
	holes(t, x, 1, 1)
	holes(t, x, 63, 1)
	holesNot(t, x, 64)
	sets(t, x, 63, api.Entry{})
	holes(t, x, 62, 1)
	holesNot(t, x, 63, 64)
	clears(t, x, 0, api.Entry{})
	holes(t, x, 63, 0)
	holesNot(t, x, 64)
}

func TestP5_2_HoleOverTheEndsOfParts(t *testing.T) {
	x, _ := table(t, 0, 5, 20, 26, 60)
	holes(t, x, 4, 1)
	holes(t, x, 5, 6)
	holes(t, x, 14, 6)
	holes(t, x, 15, 27)
	holes(t, x, 33, 27)
	holesNot(t, x, 34)
	y, _ := table(t, 7, 8, 40)
	holes(t, y, 7, 0)
	holes(t, y, 8, 9)
	holes(t, y, 31, 9)
	holesNot(t, y, 32)
}

func TestP5_2_HoleAtTheEnd(t *testing.T) {
	x, p := table(t, all()...)
	for page := 63; page > 0; page-- {
		clears(t, x, page, p[page])
		holes(t, x, 64-page, page)
		holes(t, x, 1, page)
		holesNot(t, x, 65-page)
	}
}

// One page that has an entry, wherever it is, has a stretch ahead of it and one behind it.
func TestP5_2_HolesBesideOnePage(t *testing.T) {
	for _, page := range all() {
		x, _ := table(t, page)
		for n := 1; n <= 64; n++ {
			switch {
			case n <= page:
				holes(t, x, n, 0)
			case n <= 63-page:
				holes(t, x, n, page+1)
			default:
				holesNot(t, x, n)
			}
		}
	}
}

func TestP5_2_EmptyTable(t *testing.T) {
	var zero Table
	for _, x := range []*Table{&zero, new(Table), {}, zero.Copy()} {
		plain{}.agree(t, x)
		if e, ok := x.Clear(3); e != (api.Entry{}) || ok {
			t.Errorf("Clear(3): %v %v", e, ok)
		}
		if n := x.Clean(); n != 0 {
			t.Errorf("Clean: %d", n)
		}
		plain{}.agree(t, x)
		sets(t, x, 3, api.Entry{Frame: 7})
		plain{3: {Frame: 7}}.agree(t, x)
	}
}

func TestP5_2_None(t *testing.T) {
	var x *Table
	for _, page := range append(far, 0, 7, 8, 63) {
		for _, e := range append(right(), wrong()...) {
			if err := x.Set(page, e); err != api.ErrNil {
				t.Errorf("Set(%d, %v): %v", page, e, err)
			}
		}
		if e, ok := x.Get(page); e != (api.Entry{}) || ok {
			t.Errorf("Get(%d): %v %v", page, e, ok)
		}
		if e, ok := x.Clear(page); e != (api.Entry{}) || ok {
			t.Errorf("Clear(%d): %v %v", page, e, ok)
		}
		holesNot(t, x, page)
	}
	holesNot(t, x, 1, 2, 64)
	if x.Len() != 0 || x.Parts() != 0 || x.Clean() != 0 || len(x.List()) != 0 || len(x.Dirty()) != 0 {
		t.Errorf("Len %d, Parts %d, Clean %d, List %v, Dirty %v", x.Len(), x.Parts(), x.Clean(), x.List(), x.Dirty())
	}
}

func TestP5_3_Copy(t *testing.T) {
	for _, pages := range [][]int{nil, {0}, {63}, {7, 8}, {1, 30, 62}, all()} {
		x, p := table(t, pages...)
		y := x.Copy()
		if y == nil || y == x {
			t.Fatalf("Copy of %v: %p of %p", pages, y, x)
		}
		p.agree(t, y)
		p.agree(t, x)
		p.agree(t, y.Copy())
	}
}

func TestP5_3_CopyOfNone(t *testing.T) {
	var x *Table
	if y := x.Copy(); y != nil {
		t.Errorf("Copy of none: %v", y)
	}
}

func TestP5_3_CopiesAreApart(t *testing.T) {
	for _, turned := range []int{0, 1} {
		x, p := table(t, 0, 7, 8, 9, 40)
		pair := []*Table{x, x.Copy()}
		one, other := pair[turned], pair[1-turned]
		q := maps.Clone(p)
		sets(t, one, 7, api.Entry{Frame: 200, Cow: true, Dirty: true})
		q[7] = api.Entry{Frame: 200, Cow: true, Dirty: true}
		sets(t, one, 41, api.Entry{Frame: 201})
		q[41] = api.Entry{Frame: 201}
		clears(t, one, 8, p[8])
		delete(q, 8)
		q.agree(t, one)
		p.agree(t, other)
		if n, want := one.Clean(), q.clean(); n != want {
			t.Errorf("Clean: %d, not %d", n, want)
		}
		q.agree(t, one)
		p.agree(t, other)
	}
}

func TestP5_4_WhatIsAnsweredIsNew(t *testing.T) {
	x, p := table(t, 0, 7, 8, 30, 63)
	l, d := x.List(), x.Dirty()
	clear(l)
	clear(d)
	_ = append(l[:1], api.Mapped{Page: 5})
	_ = append(d[:1], 5)
	p.agree(t, x)
	l, d = x.List(), x.Dirty()
	was := slices.Clone(l)
	for page := range 64 {
		sets(t, x, page, api.Entry{Frame: 77})
	}
	if !slices.Equal(l, was) || !slices.Equal(d, []int{0, 30}) {
		t.Errorf("what had been told was turned: %v, %v", l, d)
	}
}

func TestP5_5_WithoutATrace(t *testing.T) {
	x, p := table(t, 2, 9, 17)
	before := *x
	for _, page := range all() {
		was, ok := p[page]
		for _, e := range right() {
			sets(t, x, page, e)
		}
		x.Clear(page)
		if ok {
			sets(t, x, page, was)
		}
		p.agree(t, x)
	}
	if *x != before {
		t.Errorf("a trace: %v, not %v", *x, before)
	}
}

// both does the same to a table and to what it has to be.
func both(t *testing.T, r *rand.Rand, x *Table, p plain) {
	t.Helper()
	page := r.Intn(68) - 2
	e := api.Entry{Frame: r.Intn(262) - 3, Write: r.Intn(2) == 0, Shared: r.Intn(3) == 0, Cow: r.Intn(3) == 0, Dirty: r.Intn(2) == 0}
	there := page >= 0 && page < 64
	switch kind := r.Intn(40); {
	case kind < 20:
		want := api.ErrPage
		if there && e.Frame >= 0 && e.Frame < 256 && !(e.Shared && e.Cow) {
			want, p[page] = api.OK, e
		}
		if err := x.Set(page, e); err != want {
			t.Fatalf("Set(%d, %v): %v, not %v", page, e, err, want)
		}
	case kind < 39:
		want, wok := p[page]
		delete(p, page)
		if got, ok := x.Clear(page); got != want || ok != wok {
			t.Fatalf("Clear(%d): %v %v, not %v %v", page, got, ok, want, wok)
		}
	default:
		if n, want := x.Clean(), p.clean(); n != want {
			t.Fatalf("Clean: %d, not %d", n, want)
		}
	}
	p.agree(t, x)
}

func TestP5_5_AnyCalls(t *testing.T) {
	for seed := range 4 {
		r := rand.New(rand.NewSource(int64(seed)))
		x, p := new(Table), plain{}
		for range 2000 {
			both(t, r, x, p)
			if r.Intn(50) == 0 {
				old, was := x, maps.Clone(p)
				x = x.Copy()
				both(t, r, x, p)
				was.agree(t, old)
			}
		}
	}
}

func TestExamplesOfLayer5(t *testing.T) {
	x := new(Table)
	sets(t, x, 9, api.Entry{Frame: 3, Write: true})
	sets(t, x, 63, api.Entry{})
	if x.Len() != 2 || x.Parts() != 2 {
		t.Errorf("Len %d, Parts %d", x.Len(), x.Parts())
	}
	holes(t, x, 9, 0)
	holes(t, x, 53, 10)
	holesNot(t, x, 54)
	if e := x.Set(64, api.Entry{}); e != api.ErrPage {
		t.Errorf("Set(64, ..): %v", e)
	}
	if e := x.Set(0, api.Entry{Shared: true, Cow: true}); e != api.ErrPage {
		t.Errorf("Set(0, Shared and Cow): %v", e)
	}
	clears(t, x, 9, api.Entry{Frame: 3, Write: true})
	if x.Parts() != 1 {
		t.Errorf("Parts: %d", x.Parts())
	}
	if e, ok := x.Get(9); e != (api.Entry{}) || ok {
		t.Errorf("Get(9): %v %v", e, ok)
	}
}
