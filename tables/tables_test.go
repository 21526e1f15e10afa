package tables_test

import (
	"fmt"
	"math"
	"slices"
	"testing"

	"buttress/api"
	"buttress/tables"
)

// noPlaces are numbers of which there is no place; some have the lowest bits of one.
var noPlaces = []int{64, 65, 127, 128, 4095, 1 << 31, 1 << 32, 1<<32 + 1, 1 << 62, math.MaxInt - 1, math.MaxInt,
	-1, -2, -63, -64, -65, -1 << 31, -1 << 32, 1 - 1<<32, math.MinInt, math.MinInt + 1, math.MinInt + 63}

// noPages are numbers of which there is no page; some have the lowest bits of one.
var noPages = []int{4096, 4097, 4159, 8191, 8192, 1 << 31, 1 << 32, 1<<32 + 3, 1<<62 + 3, math.MaxInt - 1, math.MaxInt,
	-1, -2, -63, -64, -65, -4095, -4096, -1 << 31, -1 << 32, 3 - 1<<32, math.MinInt, math.MinInt + 3, math.MinInt + 4095}

// below are numbers that neither a table nor a frame has.
var below = []int{-1, -2, -7, -64, -1 << 31, -1 << 32, 5 - 1<<32, math.MinInt + 1, math.MinInt}

// numbers are such as a table or a frame may have; some have the lowest bits of another one.
var numbers = []int{0, 1, 7, 63, 64, 4096, 1 << 31, 1 << 32, 1<<32 + 1, 1 << 62, math.MaxInt - 1, math.MaxInt}

// noRights are numbers that are no rights; some have the lowest bits of such.
var noRights = []int{8, 9, 15, 16, 64, 1 << 31, 1 << 32, 1<<32 + 3, 1 << 62, math.MaxInt,
	-1, -2, -7, -8, -1 << 31, -1 << 32, 7 - 1<<32, math.MinInt, math.MinInt + 1}

// edges are pages that are first or last of a table, or of all, and some within.
var edges = []int{0, 1, 3, 62, 63, 64, 65, 127, 128, 2047, 2048, 4031, 4032, 4033, 4094, 4095}

// walks holds what Walk tells of a page to what it should be.
func walks(t *testing.T, what string, s *tables.Space, n int, want api.Page, wantIs bool) {
	t.Helper()
	if p, is := s.Walk(n); p != want || is != wantIs {
		t.Fatalf("%s: Walk(%d) = %+v, %v, not %+v, %v", what, n, p, is, want, wantIs)
	}
}

// has holds what Has tells of a place to what it should be.
func has(t *testing.T, what string, s *tables.Space, i, want int, wantIs bool) {
	t.Helper()
	if n, is := s.Has(i); n != want || is != wantIs {
		t.Fatalf("%s: Has(%d) = %d, %v, not %d, %v", what, i, n, is, want, wantIs)
	}
}

func pages(t *testing.T, what string, s *tables.Space, want ...api.Laid) {
	t.Helper()
	if l := s.Pages(); !slices.Equal(l, want) {
		t.Fatalf("%s: Pages() = %+v, not %+v", what, l, want)
	}
}

func frames(t *testing.T, what string, s *tables.Space, frame int, want ...int) {
	t.Helper()
	if l := s.Frames(frame); !slices.Equal(l, want) {
		t.Fatalf("%s: Frames(%d) = %v, not %v", what, frame, l, want)
	}
}

// looks holds all that a space tells to what it should be.
func looks(t *testing.T, what string, s *tables.Space, want plain) {
	t.Helper()
	for i := range 64 {
		n, is := want.table[i]
		has(t, what, s, i, n, is)
	}
	for n := range 4096 {
		p, is := want.page[n]
		if got, gotIs := s.Walk(n); got != p || gotIs != is {
			t.Fatalf("%s: Walk(%d) = %+v, %v, not %+v, %v", what, n, got, gotIs, p, is)
		}
	}
	for _, i := range []int{-1, 64, math.MinInt, math.MaxInt} {
		has(t, what, s, i, 0, false)
	}
	for _, n := range []int{-1, 4096, math.MinInt, math.MaxInt} {
		walks(t, what, s, n, api.Page{}, false)
	}
	pages(t, what, s, want.laid(0, 4096)...)
	of := want.frames()
	for frame, l := range of {
		frames(t, what, s, frame, l...)
	}
	for _, frame := range []int{-1, math.MinInt, 0, 1234567, math.MaxInt} {
		frames(t, what, s, frame, of[frame]...)
	}
}

// pair is a space, and what it should be.
type pair struct {
	s *tables.Space
	p plain
}

func (w *pair) copied() *pair {
	return &pair{w.s.Copy(), w.p.copied()}
}

// looks holds all that it tells to what it should be, and that the tables of a copy, put in once more, have no pages.
func (w *pair) looks(t *testing.T, what string) {
	t.Helper()
	looks(t, what, w.s, w.p)
	c := w.copied()
	for i := range 64 {
		if n, is := c.p.table[i]; is {
			c.answers(t, drop(i), drop(i).ofPlain(c.p))
			c.answers(t, table(i, n), table(i, n).ofPlain(c.p))
		}
	}
	pages(t, what+", and its tables put in once more", c.s)
	pages(t, what, w.s, w.p.laid(0, 4096)...)
}

// answers holds a call to what is told here.
func (w *pair) answers(t *testing.T, c call, want answer) {
	t.Helper()
	if got := c.of(w.s); !got.is(want) {
		t.Fatalf("%+v answers %+v, not %+v; then there are %s", c, got, want, w.p.text())
	}
}

// follows does calls at both, and holds them to each other behind each.
func (w *pair) follows(t *testing.T, calls ...call) {
	t.Helper()
	for _, c := range calls {
		w.answers(t, c, c.ofPlain(w.p))
		w.looks(t, fmt.Sprintf("%+v", c))
	}
}

// does holds a call to what is told here, beside what follows holds it to.
func (w *pair) does(t *testing.T, c call, want answer) {
	t.Helper()
	w.copied().answers(t, c, want)
	w.follows(t, c)
}

// leaves holds calls to what is told here, and to change nothing.
func (w *pair) leaves(t *testing.T, want answer, calls ...call) {
	t.Helper()
	for _, c := range calls {
		w.answers(t, c, want)
	}
	w.looks(t, fmt.Sprintf("%+v that change nothing", calls))
}

// fresh is a space behind some calls that are all done.
func fresh(t *testing.T, calls ...call) *pair {
	t.Helper()
	w := &pair{tables.New(), empty()}
	for _, c := range calls {
		if e := c.of(w.s).e; e != api.OK {
			t.Fatalf("%+v answers %d", c, e)
		}
		c.ofPlain(w.p)
	}
	w.looks(t, "a new space")
	return w
}

// some is a space of four tables, of which one has no pages.
func some(t *testing.T) *pair {
	t.Helper()
	return fresh(t, table(0, 9), table(1, 0), table(63, math.MaxInt), table(20, 7),
		lay(0, 5, 1), lay(63, 5, 7), lay(3, 0, 0), lay(64, 5, 2), lay(127, 6, 3), lay(4095, math.MaxInt, 7), lay(4032, 0, 4))
}

// kinds are spaces in each kind of state.
func kinds(t *testing.T) []*pair {
	t.Helper()
	return []*pair{
		fresh(t),
		fresh(t, table(0, 0)),
		fresh(t, table(0, 9), lay(3, 5, 1)),
		fresh(t, table(0, 9), lay(3, 5, 1), unmap(3)),
		fresh(t, table(0, 9), lay(3, 5, 1), drop(0)),
		fresh(t, table(0, 9), lay(3, 5, 1), drop(0), table(1, 9)),
		some(t),
	}
}

func TestExample(t *testing.T) {
	w := fresh(t)
	w.does(t, table(0, 9), done)
	w.does(t, lay(3, 5, api.Read), done)
	walks(t, "the example", w.s, 3, page(5, api.Read), true)
	w.does(t, drop(0), dropped(laid(3, 5, api.Read)))
	walks(t, "the example", w.s, 3, page(0, 0), false)
}

// TestNew: a new space has neither tables nor pages, and knows nothing of others.
func TestNew(t *testing.T) {
	a := some(t)
	b := fresh(t)
	pages(t, "New", b.s)
	for i := range 64 {
		has(t, "New", b.s, i, 0, false)
		b.leaves(t, none, drop(i))
	}
	b.does(t, table(5, 9), done)
	b.does(t, lay(320, 1, 1), done)
	a.looks(t, "a space beside another one")
}

// TestP141Table: each place takes a table, which is there without pages.
func TestP141Table(t *testing.T) {
	w := fresh(t)
	for _, i := range []int{63, 0, 31, 1, 62, 32} {
		w.does(t, table(i, 100-i), done)
		has(t, "Table", w.s, i, 100-i, true)
		w.leaves(t, none, unmap(64*i), unmap(64*i+63), rights(64*i, 1), rights(64*i+63, 1))
		pages(t, "Table", w.s)
	}
	all := fresh(t)
	for i := range 64 {
		all.answers(t, table(i, i), done)
		all.p.table[i] = i
	}
	all.looks(t, "all places")
	for i := range 64 {
		all.leaves(t, full, table(i, 64), table(i, i))
	}
}

// TestP141AnyNumber: a table may have any number that is not below 0; others are not the same.
func TestP141AnyNumber(t *testing.T) {
	w := fresh(t)
	for i, n := range numbers {
		w.does(t, table(i, n), done)
		has(t, "Table", w.s, i, n, true)
	}
	for i, n := range numbers {
		w.leaves(t, full, table(63, n), table(i, n))
		has(t, "Table", w.s, i, n, true)
	}
}

// TestP141TableWrong: a place that is none and a table below 0 are told ahead of all else.
func TestP141TableWrong(t *testing.T) {
	for _, w := range kinds(t) {
		for _, i := range noPlaces {
			w.leaves(t, arg, table(i, 0), table(i, 9), table(i, 88), table(i, math.MaxInt), table(i, -1), table(i, math.MinInt))
		}
		for _, n := range below {
			w.leaves(t, arg, table(0, n), table(1, n), table(5, n), table(63, n), table(64, n), table(-1, n))
		}
	}
}

// TestP141TableFull: a place that has a table keeps it and its pages; a table is at one place alone, its own one among those that are refused.
func TestP141TableFull(t *testing.T) {
	w := some(t)
	for _, i := range []int{0, 1, 20, 63} {
		own, _ := w.s.Has(i)
		w.leaves(t, full, table(i, 88), table(i, own))
		for _, other := range []int{0, 7, 9, math.MaxInt} {
			w.leaves(t, full, table(i, other))
		}
	}
	for _, i := range []int{2, 19, 21, 62} {
		for _, other := range []int{0, 7, 9, math.MaxInt} {
			w.leaves(t, full, table(i, other))
			has(t, "a refused table", w.s, i, 0, false)
		}
	}
	w.does(t, table(2, 88), done)
}

// TestP141NumberZero: the table 0 is one as all others, and a place without a table has not the table 0.
func TestP141NumberZero(t *testing.T) {
	w := fresh(t)
	w.does(t, table(5, 0), done)
	has(t, "table 0", w.s, 5, 0, true)
	has(t, "no table", w.s, 4, 0, false)
	w.leaves(t, full, table(5, 0), table(4, 0), table(6, 0), table(0, 0))
	w.does(t, drop(5), dropped())
	w.does(t, table(4, 0), done)
	w.leaves(t, full, table(5, 0))
}

func TestP141Drop(t *testing.T) {
	w := some(t)
	w.leaves(t, none, drop(2), drop(19), drop(21), drop(62))
	w.does(t, drop(20), dropped())
	w.leaves(t, none, drop(20))
	w.does(t, drop(0), dropped(laid(0, 5, 1), laid(3, 0, 0), laid(63, 5, 7)))
	w.leaves(t, none, drop(0))
	walks(t, "beside what was dropped", w.s, 64, page(5, 2), true)
	frames(t, "beside what was dropped", w.s, 5, 64)
	w.does(t, drop(63), dropped(laid(4032, 0, 4), laid(4095, math.MaxInt, 7)))
	w.leaves(t, none, drop(63))
	w.does(t, drop(1), dropped(laid(64, 5, 2), laid(127, 6, 3)))
	w.leaves(t, none, drop(0), drop(1), drop(20), drop(63))
	pages(t, "all dropped", w.s)
}

func TestP141DropWrong(t *testing.T) {
	for _, w := range kinds(t) {
		for _, i := range noPlaces {
			w.leaves(t, arg, drop(i))
		}
	}
}

// TestP141DropWhole: the pages of a whole table are told in order, in whichever one they were mapped, and those beside them stay.
func TestP141DropWhole(t *testing.T) {
	for _, i := range []int{0, 1, 62, 63} {
		w := fresh(t, table(0, 1), table(1, 2), table(62, 3), table(63, 4), table(30, 5))
		for _, place := range []int{63, 0, 30, 1, 62} {
			for k := range 64 {
				// 37 has no part in common with 64: each page comes once.
				n := 64*place + 37*k%64
				w.answers(t, lay(n, 1000-n%100, n%8), done)
				w.p.page[n] = page(1000-n%100, n%8)
			}
		}
		w.looks(t, "whole tables")
		var want []api.Laid
		for n := 64 * i; n < 64*i+64; n++ {
			want = append(want, laid(n, 1000-n%100, n%8))
		}
		w.does(t, drop(i), dropped(want...))
	}
}

// TestP141DroppedAndAgain: a table that was dropped has no pages when it is put in again, there or elsewhere, and its place none by another table.
func TestP141DroppedAndAgain(t *testing.T) {
	for _, x := range []struct{ place, n int }{{0, 9}, {0, 10}, {5, 9}, {63, 9}} {
		w := fresh(t, table(0, 9), lay(0, 1, 1), lay(3, 5, 1), lay(63, 6, 7))
		w.does(t, drop(0), dropped(laid(0, 1, 1), laid(3, 5, 1), laid(63, 6, 7)))
		w.leaves(t, none, lay(3, 5, 1), rights(3, 1), unmap(3))
		w.does(t, table(x.place, x.n), done)
		has(t, "put in again", w.s, x.place, x.n, true)
		pages(t, "put in again", w.s)
		first := 64 * x.place
		w.leaves(t, none, rights(first+3, 1), unmap(first+3))
		w.does(t, lay(first+3, 8, 2), done)
		w.does(t, drop(x.place), dropped(laid(first+3, 8, 2)))
	}
}

// TestP142MapAndUnmap: each page that is first or last of something is mapped, walked to and unmapped, as all others.
func TestP142MapAndUnmap(t *testing.T) {
	for _, n := range edges {
		w := fresh(t, table(n/64, 9))
		w.does(t, lay(n, 5, 3), done)
		walks(t, "Map", w.s, n, page(5, 3), true)
		pages(t, "Map", w.s, laid(n, 5, 3))
		frames(t, "Map", w.s, 5, n)
		w.leaves(t, full, lay(n, 5, 3), lay(n, 6, 3), lay(n, 5, 1), lay(n, 0, 0))
		w.does(t, rights(n, 6), done)
		walks(t, "Rights", w.s, n, page(5, 6), true)
		w.does(t, unmap(n), unmapped(5, 6))
		walks(t, "Unmap", w.s, n, page(0, 0), false)
		pages(t, "Unmap", w.s)
		frames(t, "Unmap", w.s, 5)
		w.leaves(t, none, unmap(n), unmap(n), rights(n, 6))
		has(t, "Unmap", w.s, n/64, 9, true)
		w.does(t, lay(n, 6, 1), done)
		w.does(t, unmap(n), unmapped(6, 1))
	}
}

// TestP142EachPage: each page is of the table at its place: with that one alone it is mapped, without it alone it is not.
func TestP142EachPage(t *testing.T) {
	for i := range 64 {
		one, others := tables.New(), tables.New()
		one.Table(i, 9)
		for k := range 64 {
			if k != i {
				others.Table(k, k)
			}
		}
		for n := range 4096 {
			want := api.ErrTablesNone
			if n >= 64*i && n < 64*i+64 {
				want = api.OK
			}
			if e := one.Map(n, page(n, n%8)); e != want {
				t.Fatalf("with a table at %d alone: Map(%d) = %d, not %d", i, n, e, want)
			}
			if e := others.Map(n, page(n, n%8)); (e == api.OK) == (want == api.OK) || e != api.OK && e != api.ErrTablesNone {
				t.Fatalf("without a table at %d alone: Map(%d) = %d", i, n, e)
			}
		}
		if l, m := one.Pages(), others.Pages(); len(l) != 64 || l[0].At != 64*i || len(m) != 4032 {
			t.Fatalf("a table at %d alone has %d pages, all others %d", i, len(l), len(m))
		}
	}
}

// TestP142AnyFrame: every frame that is not below 0 and all rights come back as they were given.
func TestP142AnyFrame(t *testing.T) {
	for _, frame := range numbers {
		for r := range 8 {
			w := fresh(t, table(1, 9))
			w.does(t, lay(70, frame, r), done)
			walks(t, "Map", w.s, 70, page(frame, r), true)
			frames(t, "Map", w.s, frame, 70)
			w.does(t, unmap(70), unmapped(frame, r))
			w.does(t, lay(70, frame, r), done)
			w.does(t, drop(1), dropped(laid(70, frame, r)))
		}
	}
}

// TestP142Rights: all rights become all others, and the frame stays.
func TestP142Rights(t *testing.T) {
	for was := range 8 {
		for will := range 8 {
			w := fresh(t, table(0, 9), lay(3, 5, was), lay(4, 5, was))
			w.does(t, rights(3, will), done)
			walks(t, "Rights", w.s, 3, page(5, will), true)
			walks(t, "beside Rights", w.s, 4, page(5, was), true)
			w.does(t, rights(3, will), done)
			w.does(t, unmap(3), unmapped(5, will))
			w.leaves(t, none, rights(3, was))
		}
	}
}

// TestP142NoPage: a page that is none is told whatever the tables are, and however the rest is.
func TestP142NoPage(t *testing.T) {
	for _, w := range append(kinds(t), everyTable(t)) {
		for _, n := range noPages {
			w.leaves(t, arg, lay(n, 5, 1), lay(n, 0, 0), lay(n, -1, 1), lay(n, 5, 8), rights(n, 0), rights(n, 7), rights(n, 8), rights(n, -1), unmap(n))
			walks(t, "no page", w.s, n, api.Page{}, false)
		}
	}
}

// everyTable is a space with tables at all places.
func everyTable(t *testing.T) *pair {
	t.Helper()
	var calls []call
	for i := range 64 {
		calls = append(calls, table(i, i))
	}
	return fresh(t, append(calls, lay(0, 1, 1), lay(4095, 2, 2))...)
}

// TestP142MapWrong: a wrong frame and wrong rights are told ahead of a page that is mapped and of a missing table.
func TestP142MapWrong(t *testing.T) {
	w := some(t)
	for _, n := range []int{0, 1, 63, 64, 127, 128, 4031, 4032, 4095} {
		for _, frame := range below {
			w.leaves(t, arg, lay(n, frame, 0), lay(n, frame, 7), lay(n, frame, 8), lay(n, frame, -1))
		}
		for _, r := range noRights {
			w.leaves(t, arg, lay(n, 0, r), lay(n, 5, r), lay(n, math.MaxInt, r))
		}
	}
	w.does(t, lay(1, 0, 0), done)
	w.does(t, lay(2, math.MaxInt, 7), done)
}

// TestP142RightsWrong: wrong rights are told ahead of a page that is not mapped and of a missing table.
func TestP142RightsWrong(t *testing.T) {
	w := some(t)
	for _, n := range []int{0, 1, 63, 64, 127, 128, 4031, 4032, 4095} {
		for _, r := range noRights {
			w.leaves(t, arg, rights(n, r))
		}
	}
}

// TestP142NoTable: without a table at its place a page is not there, whatever tables there are.
func TestP142NoTable(t *testing.T) {
	w := some(t)
	for _, n := range []int{128, 191, 1279, 1344, 4031} {
		w.leaves(t, none, lay(n, 5, 1), lay(n, 0, 0), lay(n, math.MaxInt, 7), rights(n, 0), rights(n, 7), unmap(n), unmap(n))
	}
	for _, n := range edges {
		fresh(t).leaves(t, none, lay(n, 5, 1), rights(n, 1), unmap(n))
	}
}

// TestP142NotMapped: a page of a table that is not mapped has no rights to be changed, and is not to be unmapped.
func TestP142NotMapped(t *testing.T) {
	w := some(t)
	for _, n := range []int{1, 2, 62, 65, 126, 1280, 1343, 4033, 4094} {
		w.leaves(t, none, rights(n, 0), rights(n, 7), unmap(n), unmap(n))
	}
}

// TestP142Full: a page that is mapped stays as it is.
func TestP142Full(t *testing.T) {
	w := some(t)
	for _, n := range []int{0, 3, 63, 64, 127, 4032, 4095} {
		w.leaves(t, full, lay(n, 0, 0), lay(n, 5, 1), lay(n, 77, 7), lay(n, math.MaxInt, 7))
	}
}

func TestP143Walk(t *testing.T) {
	w := some(t)
	for n, want := range map[int]api.Page{0: page(5, 1), 63: page(5, 7), 64: page(5, 2), 127: page(6, 3), 4032: page(0, 4), 4095: page(math.MaxInt, 7), 3: page(0, 0)} {
		walks(t, "some", w.s, n, want, true)
	}
	for _, n := range append([]int{1, 62, 65, 126, 128, 1280, 4031, 4033, 4094}, noPages...) {
		walks(t, "some", w.s, n, api.Page{}, false)
	}
}

func TestP143Has(t *testing.T) {
	w := some(t)
	for i, want := range map[int]int{0: 9, 1: 0, 20: 7, 63: math.MaxInt} {
		has(t, "some", w.s, i, want, true)
	}
	for _, i := range append([]int{2, 19, 21, 62}, noPlaces...) {
		has(t, "some", w.s, i, 0, false)
	}
}

func TestP143PagesAndFrames(t *testing.T) {
	w := fresh(t)
	pages(t, "none", w.s)
	frames(t, "none", w.s, 0)
	w.follows(t, table(1, 3))
	pages(t, "a table alone", w.s)
	frames(t, "a table alone", w.s, 3)
	w.follows(t, lay(66, 5, 1))
	pages(t, "one", w.s, laid(66, 5, 1))
	frames(t, "one", w.s, 5, 66)
	w = some(t)
	pages(t, "some", w.s, laid(0, 5, 1), laid(3, 0, 0), laid(63, 5, 7), laid(64, 5, 2), laid(127, 6, 3), laid(4032, 0, 4), laid(4095, math.MaxInt, 7))
	frames(t, "some", w.s, 5, 0, 63, 64)
	frames(t, "some", w.s, 0, 3, 4032)
	frames(t, "some", w.s, 6, 127)
	frames(t, "some", w.s, math.MaxInt, 4095)
	for _, frame := range append([]int{1, 4, 7, 64, 4095, 1<<32 + 5, 1<<32 + 6, 1 << 62}, below...) {
		frames(t, "some", w.s, frame)
	}
}

// TestP143PagesOfAll: all pages there can be are told in order, and those of each frame, in whichever one they were mapped.
func TestP143PagesOfAll(t *testing.T) {
	s := tables.New()
	for i := range 64 {
		s.Table(63-i, i)
	}
	want := make([]api.Laid, 4096)
	var of [5][]int
	for k := range 4096 {
		n := 1365 * k % 4096
		if e := s.Map(n, page(n%5, n%8)); e != api.OK {
			t.Fatalf("Map(%d) = %d", n, e)
		}
		want[k] = laid(k, k%5, k%8)
		of[k%5] = append(of[k%5], k)
	}
	pages(t, "all", s, want...)
	for frame, l := range of {
		frames(t, "all", s, frame, l...)
	}
	frames(t, "all", s, 5)
	c := s.Copy()
	for i := range 64 {
		if l, e := s.Drop(i); e != api.OK || !slices.Equal(l, want[64*i:64*i+64]) {
			t.Fatalf("Drop(%d) = %v, %d", i, l, e)
		}
		pages(t, "all but some", s, want[64*i+64:]...)
	}
	pages(t, "a copy of all", c, want...)
}

// TestFramesAreShared: a frame may be mapped at many pages, with other rights at each, and each goes for itself.
func TestFramesAreShared(t *testing.T) {
	w := fresh(t, table(0, 1), table(2, 2), lay(1, 5, 1), lay(2, 5, 2), lay(130, 5, 4), lay(131, 4, 4))
	w.does(t, rights(2, 7), done)
	walks(t, "a shared frame", w.s, 1, page(5, 1), true)
	walks(t, "a shared frame", w.s, 130, page(5, 4), true)
	w.does(t, unmap(1), unmapped(5, 1))
	frames(t, "a shared frame", w.s, 5, 2, 130)
	w.does(t, drop(2), dropped(laid(130, 5, 4), laid(131, 4, 4)))
	frames(t, "a shared frame", w.s, 5, 2)
	frames(t, "a shared frame", w.s, 4)
}

// TestApart: whatever is done to one page or table, all others stay as they were.
func TestApart(t *testing.T) {
	for _, n := range []int{0, 63, 64, 127, 2000, 4032, 4095} {
		w := everyTable(t)
		for other := 1; other < 4095; other += 31 {
			if other != n {
				w.answers(t, lay(other, other%7, other%8), done)
				w.p.page[other] = page(other%7, other%8)
			}
		}
		w.looks(t, "many pages")
		was := w.p.copied()
		same := func(but func(int) bool) {
			t.Helper()
			for other := range 4096 {
				if !but(other) {
					p, is := was.page[other]
					walks(t, "a page apart", w.s, other, p, is)
				}
			}
			for i := range 64 {
				if i != n/64 {
					has(t, "a table apart", w.s, i, i, true)
				}
			}
		}
		itself := func(other int) bool { return other == n }
		neighbour := func(other int) bool { return other/64 == n/64 }
		for _, c := range []call{unmap(n), lay(n, 3, 3), lay(n, 4, 4), rights(n, 1), rights(n, 8), unmap(n), unmap(n), lay(n, 6, 6)} {
			w.follows(t, c)
			same(itself)
		}
		for _, c := range []call{drop(n / 64), drop(n / 64), lay(n, 1, 1), table(n/64, 64), lay(n, 2, 2), unmap(n), drop(n / 64)} {
			w.follows(t, c)
			same(neighbour)
		}
	}
}

// spoil writes over a list, and over its spare room.
func spoil[T any](l []T, x T) {
	l = l[:cap(l)]
	for i := range l {
		l[i] = x
	}
}

// TestAnswersAreTheCallers: R4: what is told is its caller's own, spare room too.
func TestAnswersAreTheCallers(t *testing.T) {
	for _, w := range kinds(t) {
		l, again := w.s.Pages(), w.s.Pages()
		spoil(l, laid(1, 2, 3))
		if !slices.Equal(again, w.p.laid(0, 4096)) {
			t.Fatalf("Pages() shares its list with an earlier one: %v", again)
		}
		w.looks(t, "Pages that were written over")
		for _, frame := range []int{0, 5, 6, math.MaxInt} {
			f, again := w.s.Frames(frame), w.s.Frames(frame)
			spoil(f, 77)
			if !slices.Equal(again, w.p.frames()[frame]) {
				t.Fatalf("Frames(%d) shares its list with an earlier one: %v", frame, again)
			}
			w.looks(t, "Frames that were written over")
		}
		for i := range 64 {
			c := w.copied()
			told := c.s.Pages()
			gone, _ := c.s.Drop(i)
			drop(i).ofPlain(c.p)
			spoil(gone, laid(1, 2, 3))
			if !slices.Equal(told, w.p.laid(0, 4096)) {
				t.Fatalf("Drop(%d) changed what Pages told earlier: %v", i, told)
			}
			looks(t, "Drop's pages that were written over", c.s, c.p)
			looks(t, "originals of such", w.s, w.p)
		}
	}
}

// TestToldStays: what was told stays as it was, whatever is done then.
func TestToldStays(t *testing.T) {
	w := some(t)
	l, f := w.s.Pages(), w.s.Frames(5)
	wantL, wantF := slices.Clone(l), slices.Clone(f)
	gone, _ := w.s.Copy().Drop(0)
	wantGone := slices.Clone(gone)
	w.follows(t, rights(0, 6), unmap(63), lay(1, 5, 5), drop(1), table(2, 0), lay(128, 5, 1), drop(0), drop(63))
	if !slices.Equal(l, wantL) || !slices.Equal(f, wantF) || !slices.Equal(gone, wantGone) {
		t.Fatalf("what was told became %v, %v, %v", l, f, gone)
	}
}

// TestP143CopyGoesItsOwnWay: each change at the one leaves the other as it was; then both change.
func TestP143CopyGoesItsOwnWay(t *testing.T) {
	changes := []call{table(0, 30), table(2, 31), drop(0), drop(1), lay(3, 8, 2), lay(4, 8, 2), rights(3, 6), unmap(3), unmap(64)}
	for _, origin := range kinds(t) {
		for _, a := range changes {
			for _, b := range changes {
				w := origin.copied()
				c := w.copied()
				w.follows(t, a)
				looks(t, "a copy whose original was changed", c.s, c.p)
				c.follows(t, b)
				looks(t, "an original whose copy was changed", w.s, w.p)
				w.follows(t, lay(5, 1, 1), drop(0))
				c.follows(t, table(0, 40), rights(5, 2), lay(5, 2, 2))
				looks(t, "an original whose copy went on", w.s, w.p)
			}
		}
		origin.looks(t, "what was copied")
	}
}

// TestP143CopyOfTheEmpty: a copy has tables without pages too, and pages that are mapped in the one are not in the other.
func TestP143CopyOfTheEmpty(t *testing.T) {
	w := fresh(t, table(7, 0), table(8, 1))
	c := w.copied()
	has(t, "a copy", c.s, 7, 0, true)
	c.does(t, lay(450, 1, 1), done)
	w.leaves(t, none, unmap(450))
	w.does(t, lay(512, 2, 2), done)
	c.leaves(t, none, unmap(512))
	c.does(t, drop(7), dropped(laid(450, 1, 1)))
	has(t, "an original", w.s, 7, 0, true)
	c.does(t, table(9, 0), done)
	w.leaves(t, full, table(9, 0))
}

// TestAskingChangesNothing: what asks may be asked at any time, as often as one will.
func TestAskingChangesNothing(t *testing.T) {
	for _, w := range kinds(t) {
		for range 3 {
			for _, n := range []int{-1, 0, 3, 63, 64, 4095, 4096} {
				w.s.Walk(n)
				w.s.Has(n)
				w.s.Frames(n)
			}
			w.s.Pages()
			w.s.Copy()
			w.looks(t, "what was asked")
		}
	}
}

// TestAllOfFew: every call at every state of two places, two tables, one page of each place, two frames and two rights.
func TestAllOfFew(t *testing.T) {
	var calls []call
	for _, i := range []int{-1, 0, 1, 64} {
		calls = append(calls, drop(i), table(i, 0), table(i, 1), table(i, -1))
	}
	for _, n := range []int{63, 64} {
		calls = append(calls, unmap(n), rights(n, 0), rights(n, 7), rights(n, 8))
		for frame := -1; frame <= 1; frame++ {
			calls = append(calls, lay(n, frame, 0), lay(n, frame, 7), lay(n, frame, 8))
		}
	}
	w := fresh(t)
	seen := map[string]int{w.p.text(): 1}
	for work := []*pair{w}; len(work) > 0; work = work[1:] {
		for _, c := range calls {
			next := work[0].copied()
			next.answers(t, c, c.ofPlain(next.p))
			looks(t, fmt.Sprintf("%+v", c), next.s, next.p)
			to := next.p.text()
			if seen[to]++; seen[to] == 1 {
				work = append(work, next)
			}
		}
		work[0].looks(t, "a space whose copies were changed")
	}
	// A page is not mapped, or is one of two frames with one of two rights; one table of two is at one place of two, or both are.
	if want := 1 + 2*2*5 + 2*5*5; len(seen) != want {
		t.Errorf("there are %d states, not %d", len(seen), want)
	}
}

// row is a row of numbers that is the same at every run.
type row uint64

func (r *row) next(n int) int {
	*r = *r*6364136223846793005 + 1442695040888963407
	return int(*r>>33) % n
}

func (r *row) of(l []int) int { return l[r.next(len(l))] }

// seldom is n, or now and then one of others.
func (r *row) seldom(n int, others []int) int {
	if r.next(25) == 0 {
		return r.of(others)
	}
	return n
}

// call is one of few places and pages; most of them map and unmap.
func (r *row) call(places []int) call {
	i := r.of(places)
	n := 64*i + r.of([]int{0, 1, 2, 31, 62, 63})
	switch r.next(20) {
	case 0:
		return drop(r.seldom(i, noPlaces))
	case 1, 2, 3:
		return table(r.seldom(i, noPlaces), r.seldom(r.next(6), below))
	case 4, 5, 6:
		return rights(r.seldom(n, noPages), r.seldom(r.next(8), noRights))
	case 7, 8, 9, 10:
		return unmap(r.seldom(n, noPages))
	}
	return lay(r.seldom(n, noPages), r.seldom(r.of(numbers), below), r.seldom(r.next(8), noRights))
}

// TestManyCalls: whatever calls were done, a space is as told, and copies of earlier stay.
func TestManyCalls(t *testing.T) {
	at := row(14)
	for _, places := range [][]int{{0}, {63}, {0, 1}, {0, 1, 31, 62, 63}} {
		w := fresh(t)
		var earlier []*pair
		for step := range 1000 {
			w.follows(t, at.call(places))
			if step%100 == 50 {
				earlier = append(earlier, w.copied())
			}
			if step%150 == 75 {
				// The copy goes on in its original's place: nothing may tell them apart.
				w = w.copied()
			}
		}
		for _, c := range earlier {
			c.looks(t, "a copy of earlier")
		}
	}
}

// TestP144 asks of a space alone: all that is mapped has its table, and is walked to from its Map on, until an Unmap of it or a Drop of its table.
func TestP144(t *testing.T) {
	at := row(144)
	places := []int{0, 1, 2, 40, 63}
	s := tables.New()
	is := map[int]api.Page{} // what was mapped and is to be walked to
	mapped, unmaps, drops := 0, 0, 0
	for step := range 20000 {
		c := at.call(places)
		got := c.of(s)
		if got.e == api.OK {
			switch c.kind {
			case "Map":
				is[c.at] = c.p
				mapped++
			case "Rights":
				is[c.at] = page(is[c.at].Frame, c.n)
			case "Unmap":
				delete(is, c.at)
				unmaps++
			case "Drop":
				for n := 64 * c.at; n < 64*c.at+64; n++ {
					delete(is, n)
				}
				drops++
			}
		}
		l := s.Pages()
		if len(l) != len(is) {
			t.Fatalf("step %d: behind %+v %d pages are mapped, not %d", step, c, len(l), len(is))
		}
		for _, x := range l {
			if _, there := s.Has(x.At / 64); !there {
				t.Fatalf("step %d: behind %+v page %d is mapped without its table", step, c, x.At)
			}
			if p, known := is[x.At]; !known || p != x.P {
				t.Fatalf("step %d: behind %+v Pages tells %+v, not %+v", step, c, x, p)
			}
			walks(t, fmt.Sprintf("step %d: behind %+v", step, c), s, x.At, x.P, true)
		}
	}
	if mapped < 2000 || unmaps < 500 || drops < 300 {
		t.Errorf("only %d were mapped, %d unmapped, %d tables dropped", mapped, unmaps, drops)
	}
}

// TestOneAnswer: R5: the same calls are answered the same at every run of them, in whichever order maps are gone through.
func TestOneAnswer(t *testing.T) {
	var first string
	for run := range 5 {
		at := row(77)
		s := tables.New()
		got := ""
		for range 1000 {
			got += fmt.Sprintln(at.call([]int{0, 1, 63}).of(s), s.Pages(), s.Frames(1))
		}
		if run == 0 {
			first = got
		}
		if got != first {
			t.Fatal("another run answered otherwise")
		}
	}
}
