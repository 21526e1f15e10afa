package tree_test

import (
	"math"
	"slices"
	"strconv"
	"strings"
	"testing"

	"buttress/api"
	"buttress/tree"
)

// letters name the slots of the tests.
const letters = "abcdefghijklmnopqrst"

// named are their slots: many of them have a field, or a field's lowest bits, of another one.
var named = [len(letters)]api.Slot{
	{Node: 0, I: 0}, {Node: 0, I: 1}, {Node: 1, I: 0}, {Node: -1, I: 0}, {Node: 0, I: -1},
	{Node: -1, I: -1}, {Node: math.MinInt, I: math.MaxInt}, {Node: math.MaxInt, I: math.MinInt}, {Node: math.MinInt, I: 0}, {Node: 0, I: math.MinInt},
	{Node: 1 << 32, I: 0}, {Node: 0, I: 1 << 32}, {Node: 1, I: 1}, {Node: 63, I: 255}, {Node: 255, I: 63},
	{Node: 64, I: 256}, {Node: math.MaxInt, I: math.MaxInt}, {Node: math.MinInt, I: math.MinInt}, {Node: -1, I: 1}, {Node: 1, I: -1},
}

var none = api.Slot{}

func slot(letter string) api.Slot {
	return named[strings.Index(letters, letter)]
}

func letter(s api.Slot) string {
	if i := slices.Index(named[:], s); i >= 0 {
		return letters[i : i+1]
	}
	return "?"
}

// slotsOf are the slots of letters that stand one behind another.
func slotsOf(text string) []api.Slot {
	var l []api.Slot
	for i := range text {
		l = append(l, slot(text[i:i+1]))
	}
	return l
}

func lettersOf(l []api.Slot) string {
	var text strings.Builder
	for _, s := range l {
		text.WriteString(letter(s))
	}
	return text.String()
}

// grown is a tree that looks as the text says: its slots in order, each with its depth.
func grown(t *testing.T, shape string) *tree.Tree {
	t.Helper()
	k := tree.New()
	parts := strings.Fields(shape)
	for _, part := range parts {
		if part[1:] == "0" {
			does(t, k, "Root "+part[:1], api.OK)
		}
	}
	for depth := 1; depth < len(parts); depth++ {
		up, own := strconv.Itoa(depth-1), strconv.Itoa(depth)
		// The one that is added last stands first behind its parent.
		for i, part := range slices.Backward(parts) {
			if part[1:] != own {
				continue
			}
			for parts[i][1:] != up {
				i--
			}
			does(t, k, "Add "+parts[i][:1]+" "+part[:1], api.OK)
		}
	}
	looks(t, "a tree that was grown", k, shape)
	return k
}

// call does what a text says: which call, of which slots.
func call(k *tree.Tree, text string) api.Errno {
	p := strings.Fields(text)
	switch p[0] {
	case "Root":
		return k.Root(slot(p[1]))
	case "Add":
		return k.Add(slot(p[1]), slot(p[2]))
	case "Take":
		return k.Take(slot(p[1]))
	case "Move":
		return k.Move(slot(p[1]), slot(p[2]))
	}
	panic("no such call: " + text)
}

func does(t *testing.T, k *tree.Tree, text string, want api.Errno) {
	t.Helper()
	if e := call(k, text); e != want {
		t.Fatalf("%s of %s answers %d, not %d", text, lettersOf(k.All()), e, want)
	}
}

// told is what a tree looks like, as grown takes it. Depths come of Parent; All, Parent and Under must agree, at slots that are not in the tree too.
func told(t *testing.T, k *tree.Tree) string {
	t.Helper()
	all := k.All()
	depths := map[api.Slot]int{}
	var shape []string
	for _, s := range all {
		if _, twice := depths[s]; twice {
			t.Fatalf("%s is twice in %s", letter(s), lettersOf(all))
		}
		depths[s] = 0
		if p, is := k.Parent(s); is {
			d, ahead := depths[p]
			if !ahead || p == s {
				t.Fatalf("%s came of %s, which is not ahead of it in %s", letter(s), letter(p), lettersOf(all))
			}
			depths[s] = d + 1
		}
		shape = append(shape, letter(s)+strconv.Itoa(depths[s]))
	}
	for i, s := range all {
		end := i + 1
		for end < len(all) && depths[all[end]] > depths[s] {
			end++
		}
		under(t, k, s, all[i+1:end])
	}
	for _, s := range named {
		if _, is := depths[s]; !is {
			cameOf(t, k, s, none, false)
			under(t, k, s, nil)
		}
	}
	return strings.Join(shape, " ")
}

func looks(t *testing.T, what string, k *tree.Tree, want string) {
	t.Helper()
	if got := told(t, k); got != want {
		t.Fatalf("%s looks %q, not %q", what, got, want)
	}
}

func cameOf(t *testing.T, k *tree.Tree, s, want api.Slot, wantIs bool) {
	t.Helper()
	if p, is := k.Parent(s); p != want || is != wantIs {
		t.Fatalf("Parent(%v) = %v, %v, not %v, %v", s, p, is, want, wantIs)
	}
}

func under(t *testing.T, k *tree.Tree, s api.Slot, want []api.Slot) {
	t.Helper()
	if l := k.Under(s); !slices.Equal(l, want) {
		t.Fatalf("Under(%v) = %v, not %v", s, l, want)
	}
}

// step is a call, what the tree looks like ahead of it, what it answers, and what the tree looks like then ("=": as ahead).
type step struct {
	from, call string
	e          api.Errno
	to         string
}

func run(t *testing.T, steps []step) {
	t.Helper()
	for _, x := range steps {
		if x.to == "=" {
			x.to = x.from
		}
		k := grown(t, x.from)
		does(t, k, x.call, x.e)
		looks(t, x.call+" of "+strconv.Quote(x.from), k, x.to)
	}
}

// big has several children, children's children, and more roots than one.
const big = "a0 b1 c2 d3 e3 f2 g1 h2 i0 j0 k1 l1"

func TestNew(t *testing.T) {
	k := tree.New()
	looks(t, "New", k, "")
	if l := k.All(); len(l) != 0 {
		t.Errorf("All() = %v", l)
	}
	does(t, k, "Root a", api.OK)
	looks(t, "another New", tree.New(), "")
}

func TestExample(t *testing.T) {
	k := tree.New()
	for _, text := range []string{"Root a", "Add a b", "Add a c", "Add b d"} {
		does(t, k, text, api.OK)
	}
	if l := k.All(); !slices.Equal(l, slotsOf("acbd")) {
		t.Fatalf("All() = %v", l)
	}
	looks(t, "the example", k, "a0 c1 b1 d2")
	does(t, k, "Take b", api.OK)
	if l := k.All(); !slices.Equal(l, slotsOf("acd")) {
		t.Fatalf("All() = %v", l)
	}
	cameOf(t, k, slot("d"), slot("a"), true)
}

func TestP71Root(t *testing.T) {
	run(t, []step{
		{"", "Root a", api.OK, "a0"},
		{"a0", "Root b", api.OK, "a0 b0"},
		{"b0", "Root a", api.OK, "b0 a0"},
		{"a0 b1", "Root c", api.OK, "a0 b1 c0"},
		{"a0 b1 c2 d3", "Root e", api.OK, "a0 b1 c2 d3 e0"},
		{"a0 b1 c0", "Root d", api.OK, "a0 b1 c0 d0"},
		{big, "Root m", api.OK, big + " m0"},
	})
}

// TestP71RootThere: wherever a slot stands in the tree, and however deep.
func TestP71RootThere(t *testing.T) {
	run(t, []step{{"a0", "Root a", api.ErrTreeThere, "="}})
	for _, s := range lettersOf(grown(t, big).All()) {
		run(t, []step{{big, "Root " + string(s), api.ErrTreeThere, "="}})
	}
}

func TestP71Add(t *testing.T) {
	run(t, []step{
		{"a0", "Add a b", api.OK, "a0 b1"},
		{"a0 b1", "Add a c", api.OK, "a0 c1 b1"},
		{"a0 b1", "Add b c", api.OK, "a0 b1 c2"},
		{"a0 b1 c2", "Add a d", api.OK, "a0 d1 b1 c2"},
		{"a0 b1 c2", "Add b d", api.OK, "a0 b1 d2 c2"},
		{"a0 b1 c2", "Add c d", api.OK, "a0 b1 c2 d3"},
		{"a0 b0", "Add a c", api.OK, "a0 c1 b0"},
		{"a0 b0", "Add b c", api.OK, "a0 b0 c1"},
		{"a0 b1 c0", "Add b d", api.OK, "a0 b1 d2 c0"},
		{"a0 b1 c1", "Add b d", api.OK, "a0 b1 d2 c1"},
		{"a0 b1 c2 d3 e1", "Add d f", api.OK, "a0 b1 c2 d3 f4 e1"},
		{big, "Add a m", api.OK, "a0 m1 b1 c2 d3 e3 f2 g1 h2 i0 j0 k1 l1"},
		{big, "Add c m", api.OK, "a0 b1 c2 m3 d3 e3 f2 g1 h2 i0 j0 k1 l1"},
		{big, "Add e m", api.OK, "a0 b1 c2 d3 e3 m4 f2 g1 h2 i0 j0 k1 l1"},
		{big, "Add h m", api.OK, "a0 b1 c2 d3 e3 f2 g1 h2 m3 i0 j0 k1 l1"},
		{big, "Add i m", api.OK, "a0 b1 c2 d3 e3 f2 g1 h2 i0 m1 j0 k1 l1"},
		{big, "Add l m", api.OK, "a0 b1 c2 d3 e3 f2 g1 h2 i0 j0 k1 l1 m2"},
	})
}

// TestP71AddErrors: a parent that is not there is named first, even if the slot is there.
func TestP71AddErrors(t *testing.T) {
	run(t, []step{
		{"", "Add a b", api.ErrTreeNone, "="},
		{"", "Add a a", api.ErrTreeNone, "="},
		{"a0", "Add b c", api.ErrTreeNone, "="},
		{"a0", "Add b b", api.ErrTreeNone, "="},
		{"a0", "Add b a", api.ErrTreeNone, "="},
		{"a0", "Add a a", api.ErrTreeThere, "="},
		{"a0 b0", "Add a b", api.ErrTreeThere, "="},
		{"a0 b0", "Add b a", api.ErrTreeThere, "="},
		{"a0 b1", "Add a b", api.ErrTreeThere, "="},
		{"a0 b1", "Add b a", api.ErrTreeThere, "="},
		{"a0 b1", "Add b b", api.ErrTreeThere, "="},
	})
	in, out := "abcdefghijkl", "mnopqrst"
	k := grown(t, big)
	for _, a := range in {
		for _, b := range in {
			does(t, k, "Add "+string(a)+" "+string(b), api.ErrTreeThere)
		}
		for _, b := range out {
			does(t, k, "Add "+string(b)+" "+string(a), api.ErrTreeNone)
		}
	}
	for _, a := range out {
		for _, b := range out {
			does(t, k, "Add "+string(a)+" "+string(b), api.ErrTreeNone)
		}
	}
	looks(t, "a tree behind errors", k, big)
}

func TestP72Take(t *testing.T) {
	run(t, []step{
		{"a0", "Take a", api.OK, ""},
		{"a0 b1", "Take a", api.OK, "b0"},
		{"a0 b1", "Take b", api.OK, "a0"},
		{"a0 b1 c2", "Take a", api.OK, "b0 c1"},
		{"a0 b1 c2", "Take b", api.OK, "a0 c1"},
		{"a0 b1 c2", "Take c", api.OK, "a0 b1"},
		{"a0 b0 c1", "Take a", api.OK, "b0 c1"},
		{"a0 b0 c1", "Take b", api.OK, "a0 c0"},
		{"a0 b1 c1 d2", "Take b", api.OK, "a0 c1 d2"},
		{"a0 b1 c1 d2", "Take c", api.OK, "a0 b1 d1"},
		{"a0 b1 c0 d1", "Take b", api.OK, "a0 c0 d1"},
		{"a0 b1 c2 d3 e0", "Take c", api.OK, "a0 b1 d2 e0"},
		{big, "Take a", api.OK, "b0 c1 d2 e2 f1 g0 h1 i0 j0 k1 l1"},
		{big, "Take b", api.OK, "a0 c1 d2 e2 f1 g1 h2 i0 j0 k1 l1"},
		{big, "Take c", api.OK, "a0 b1 d2 e2 f2 g1 h2 i0 j0 k1 l1"},
		{big, "Take d", api.OK, "a0 b1 c2 e3 f2 g1 h2 i0 j0 k1 l1"},
		{big, "Take e", api.OK, "a0 b1 c2 d3 f2 g1 h2 i0 j0 k1 l1"},
		{big, "Take g", api.OK, "a0 b1 c2 d3 e3 f2 h1 i0 j0 k1 l1"},
		{big, "Take h", api.OK, "a0 b1 c2 d3 e3 f2 g1 i0 j0 k1 l1"},
		{big, "Take i", api.OK, "a0 b1 c2 d3 e3 f2 g1 h2 j0 k1 l1"},
		{big, "Take j", api.OK, "a0 b1 c2 d3 e3 f2 g1 h2 i0 k0 l0"},
		{big, "Take l", api.OK, "a0 b1 c2 d3 e3 f2 g1 h2 i0 j0 k1"},
	})
}

// TestP72TakeAndGoOn: a slot that was taken is a new one when it comes again, and what was under it goes on as others do.
func TestP72TakeAndGoOn(t *testing.T) {
	k := grown(t, "a0 b1 c2 d2 e1")
	for _, x := range []struct{ call, to string }{
		{"Take b", "a0 c1 d1 e1"}, {"Add d b", "a0 c1 d1 b2 e1"}, {"Take a", "c0 d0 b1 e0"},
		{"Root a", "c0 d0 b1 e0 a0"}, {"Add c f", "c0 f1 d0 b1 e0 a0"}, {"Take d", "c0 f1 b0 e0 a0"},
		{"Add f d", "c0 f1 d2 b0 e0 a0"}, {"Take c", "f0 d1 b0 e0 a0"}, {"Take a", "f0 d1 b0 e0"},
		{"Take f", "d0 b0 e0"}, {"Take d", "b0 e0"}, {"Take e", "b0"}, {"Take b", ""}, {"Root b", "b0"},
	} {
		does(t, k, x.call, api.OK)
		looks(t, x.call, k, x.to)
	}
}

func TestP72TakeNone(t *testing.T) {
	run(t, []step{{"", "Take a", api.ErrTreeNone, "="}})
	k := grown(t, big)
	for _, s := range "mnopqrst" {
		does(t, k, "Take "+string(s), api.ErrTreeNone)
	}
	looks(t, "a tree of which none was taken", k, big)
	does(t, k, "Take d", api.OK)
	does(t, k, "Take d", api.ErrTreeNone)
	looks(t, "a tree of which one was taken", k, "a0 b1 c2 e3 f2 g1 h2 i0 j0 k1 l1")
}

func TestP72Move(t *testing.T) {
	run(t, []step{
		{"a0", "Move a b", api.OK, "b0"},
		{"a0 b1", "Move a c", api.OK, "c0 b1"},
		{"a0 b1", "Move b c", api.OK, "a0 c1"},
		{"a0 b1 c1 d2 e0", "Move c f", api.OK, "a0 b1 f1 d2 e0"},
	})
	for _, s := range "abcdefghijkl" {
		run(t, []step{{big, "Move " + string(s) + " m", api.OK, strings.Replace(big, string(s), "m", 1)}})
	}
}

// TestP72MoveAndGoOn: the slot that was moved from is not there any more, and may come again.
func TestP72MoveAndGoOn(t *testing.T) {
	k := grown(t, "a0 b1 c2 d1")
	for _, x := range []struct{ call, to string }{
		{"Move b e", "a0 e1 c2 d1"}, {"Move e b", "a0 b1 c2 d1"}, {"Move b e", "a0 e1 c2 d1"}, {"Add e b", "a0 e1 b2 c2 d1"},
		{"Move a f", "f0 e1 b2 c2 d1"}, {"Root a", "f0 e1 b2 c2 d1 a0"}, {"Take e", "f0 b1 c1 d1 a0"}, {"Move a e", "f0 b1 c1 d1 e0"},
	} {
		does(t, k, x.call, api.OK)
		looks(t, x.call, k, x.to)
	}
	does(t, k, "Move a g", api.ErrTreeNone)
}

// TestP72MoveErrors: a slot that is not there to be moved is named first, even if the other one is there.
func TestP72MoveErrors(t *testing.T) {
	run(t, []step{
		{"", "Move a b", api.ErrTreeNone, "="},
		{"", "Move a a", api.ErrTreeNone, "="},
		{"a0", "Move b a", api.ErrTreeNone, "="},
		{"a0", "Move b b", api.ErrTreeNone, "="},
		{"a0", "Move b c", api.ErrTreeNone, "="},
		{"a0", "Move a a", api.ErrTreeThere, "="},
		{"a0 b1", "Move b b", api.ErrTreeThere, "="},
		{"a0 b1", "Move a b", api.ErrTreeThere, "="},
		{"a0 b1", "Move b a", api.ErrTreeThere, "="},
		{"a0 b0", "Move a b", api.ErrTreeThere, "="},
	})
	in, out := "abcdefghijkl", "mnopqrst"
	k := grown(t, big)
	for _, a := range in {
		for _, b := range in {
			does(t, k, "Move "+string(a)+" "+string(b), api.ErrTreeThere)
		}
		for _, b := range out {
			does(t, k, "Move "+string(b)+" "+string(a), api.ErrTreeNone)
		}
	}
	for _, a := range out {
		for _, b := range out {
			does(t, k, "Move "+string(a)+" "+string(b), api.ErrTreeNone)
		}
	}
	looks(t, "a tree behind errors", k, big)
}

func TestP73Parent(t *testing.T) {
	k := grown(t, big)
	for s, p := range map[string]string{"b": "a", "c": "b", "d": "c", "e": "c", "f": "b", "g": "a", "h": "g", "k": "j", "l": "j"} {
		cameOf(t, k, slot(s), slot(p), true)
	}
	for _, s := range slotsOf("aij") {
		cameOf(t, k, s, none, false)
	}
	for _, s := range slotsOf("mnopqrst") {
		cameOf(t, k, s, none, false)
	}
	cameOf(t, tree.New(), none, none, false)
}

// TestP73ParentIsSlot0: what came of slot (0, 0) is told by the yes alone.
func TestP73ParentIsSlot0(t *testing.T) {
	k := tree.New()
	child := api.Slot{Node: 3, I: 4}
	if e := k.Root(none); e != api.OK {
		t.Fatal(e)
	}
	if e := k.Add(none, child); e != api.OK {
		t.Fatal(e)
	}
	cameOf(t, k, child, none, true)
	cameOf(t, k, none, none, false)
}

func TestP73Under(t *testing.T) {
	k := grown(t, big)
	for s, l := range map[string]string{
		"a": "bcdefgh", "b": "cdef", "c": "de", "d": "", "e": "", "f": "", "g": "h", "h": "", "i": "", "j": "kl", "k": "", "l": "",
		"m": "", "n": "", "o": "", "p": "", "q": "", "r": "", "s": "", "t": "",
	} {
		under(t, k, slot(s), slotsOf(l))
	}
	under(t, tree.New(), none, nil)
}

func TestP73All(t *testing.T) {
	if l := grown(t, big).All(); !slices.Equal(l, slotsOf("abcdefghijkl")) {
		t.Errorf("All() = %v", l)
	}
	if l := grown(t, "t0 c1 s1 a2 b0").All(); !slices.Equal(l, slotsOf("tcsab")) {
		t.Errorf("All() = %v", l)
	}
}

// TestP73SlotsOfAnyNumbers: a slot is told from another one by each of its two numbers, all of their bits.
func TestP73SlotsOfAnyNumbers(t *testing.T) {
	numbers := []int{0, 1, -1, 2, 63, 64, 255, 256, 1 << 31, 1 << 32, 1<<32 + 1, -1 << 31, -1 << 32, 1 << 62, math.MinInt, math.MinInt + 1, math.MaxInt, math.MaxInt - 1}
	k := tree.New()
	var want []api.Slot
	for _, node := range numbers {
		for _, i := range numbers {
			s := api.Slot{Node: node, I: i}
			cameOf(t, k, s, none, false)
			if e := k.Take(s); e != api.ErrTreeNone {
				t.Fatalf("Take(%v) ahead of Root answers %d", s, e)
			}
			if e := k.Root(s); e != api.OK {
				t.Fatalf("Root(%v) answers %d", s, e)
			}
			want = append(want, s)
		}
	}
	if l := k.All(); !slices.Equal(l, want) {
		t.Fatalf("All() = %v", l)
	}
	for i, s := range want {
		if e := k.Take(s); e != api.OK {
			t.Fatalf("Take(%v) answers %d", s, e)
		}
		if l := k.All(); !slices.Equal(l, want[i+1:]) {
			t.Fatalf("All() behind Take(%v) = %v", s, l)
		}
	}
}

// changes are calls that change the tree big, by each of its kinds.
var changes = []string{"Root m", "Add a m", "Add c m", "Add l m", "Take a", "Take c", "Take l", "Move a m", "Move e m", "Move l m"}

// TestP73WhatIsToldIsOnesOwn: the room behind a list too, and lists that were told earlier.
func TestP73WhatIsToldIsOnesOwn(t *testing.T) {
	for _, change := range changes {
		k := grown(t, big)
		var spoilt, kept [][]api.Slot
		for range 2 {
			spoilt, kept = kept, [][]api.Slot{k.All(), k.Under(slot("a")), k.Under(slot("b")), k.Under(slot("j"))}
		}
		for _, l := range spoilt {
			l = l[:cap(l)]
			for i := range l {
				l[i] = slot("t")
			}
		}
		looks(t, "a tree whose lists are written over", k, big)
		does(t, k, change, api.OK)
		for i, want := range []string{"abcdefghijkl", "bcdefgh", "cdef", "kl"} {
			if got := lettersOf(kept[i]); got != want {
				t.Errorf("behind %s a list of earlier is %s, not %s", change, got, want)
			}
		}
	}
}

func TestP73Copy(t *testing.T) {
	for _, shape := range []string{"", "a0", "a0 b1 c1 d2", big} {
		k := grown(t, shape)
		c := k.Copy()
		looks(t, "a copy", c, shape)
		looks(t, "a copy's copy", c.Copy(), shape)
		looks(t, "what was copied", k, shape)
	}
}

// TestP73CopyGoesItsOwnWay: whoever is changed, by whichever call, the other one stays.
func TestP73CopyGoesItsOwnWay(t *testing.T) {
	for _, change := range changes {
		for _, second := range changes {
			k := grown(t, big)
			c := k.Copy()
			does(t, k, change, api.OK)
			changed := told(t, k)
			if changed == big {
				t.Fatalf("%s changes nothing", change)
			}
			looks(t, "a copy behind "+change+" of what was copied", c, big)
			does(t, c, second, api.OK)
			looks(t, "what was copied behind "+second+" of a copy", k, changed)
			d := grown(t, big)
			does(t, d, second, api.OK)
			looks(t, "a copy behind "+second, c, told(t, d))
		}
	}
}

// TestP73CopiesBothGrow: were room behind the list shared, the one's last slot would be the other one's.
func TestP73CopiesBothGrow(t *testing.T) {
	for count := range len(letters) - 2 {
		k := tree.New()
		for i := range count {
			does(t, k, "Root "+letters[i:i+1], api.OK)
		}
		was := told(t, k)
		c := k.Copy()
		does(t, k, "Root s", api.OK)
		does(t, c, "Root t", api.OK)
		looks(t, "what was copied", k, strings.TrimSpace(was+" s0"))
		looks(t, "a copy", c, strings.TrimSpace(was+" t0"))
	}
}

// twig is a tree once more, told by what hangs on what rather than by a list: the top one is none of the tree's own.
type twig struct {
	s    api.Slot
	kids []*twig
}

// find is a slot's twig, and the one on which it hangs.
func (w *twig) find(s api.Slot) (at, on *twig) {
	for _, kid := range w.kids {
		if kid.s == s {
			return kid, w
		}
		if at, on = kid.find(s); at != nil {
			return at, on
		}
	}
	return nil, nil
}

func (w *twig) shape(depth int) string {
	var parts []string
	for _, kid := range w.kids {
		parts = append(parts, letter(kid.s)+strconv.Itoa(depth))
		if kid.kids != nil {
			parts = append(parts, kid.shape(depth+1))
		}
	}
	return strings.Join(parts, " ")
}

func (w *twig) copy() *twig {
	c := &twig{s: w.s}
	for _, kid := range w.kids {
		c.kids = append(c.kids, kid.copy())
	}
	return c
}

func (w *twig) root(s api.Slot) api.Errno {
	if at, _ := w.find(s); at != nil {
		return api.ErrTreeThere
	}
	w.kids = append(w.kids, &twig{s: s})
	return api.OK
}

func (w *twig) add(parent, s api.Slot) api.Errno {
	p, _ := w.find(parent)
	at, _ := w.find(s)
	switch {
	case p == nil:
		return api.ErrTreeNone
	case at != nil:
		return api.ErrTreeThere
	}
	p.kids = append([]*twig{{s: s}}, p.kids...)
	return api.OK
}

func (w *twig) take(s api.Slot) api.Errno {
	at, on := w.find(s)
	if at == nil {
		return api.ErrTreeNone
	}
	i := slices.Index(on.kids, at)
	on.kids = slices.Concat(on.kids[:i], at.kids, on.kids[i+1:])
	return api.OK
}

func (w *twig) move(from, to api.Slot) api.Errno {
	at, _ := w.find(from)
	there, _ := w.find(to)
	switch {
	case at == nil:
		return api.ErrTreeNone
	case there != nil:
		return api.ErrTreeThere
	}
	at.s = to
	return api.OK
}

func (w *twig) call(text string) api.Errno {
	p := append(strings.Fields(text), "a")
	a, b := slot(p[1]), slot(p[2])
	switch p[0] {
	case "Root":
		return w.root(a)
	case "Add":
		return w.add(a, b)
	case "Take":
		return w.take(a)
	}
	return w.move(a, b)
}

// callsOf are all calls that change a tree, of some slots.
func callsOf(slots string) []string {
	var l []string
	for _, a := range slots {
		l = append(l, "Root "+string(a), "Take "+string(a))
		for _, b := range slots {
			l = append(l, "Add "+string(a)+" "+string(b), "Move "+string(a)+" "+string(b))
		}
	}
	return l
}

// TestP74AllSmallTrees does every call at every tree of at most four slots, each at a copy of its own.
func TestP74AllSmallTrees(t *testing.T) {
	type pair struct {
		k *tree.Tree
		w *twig
	}
	calls := callsOf("abcd")
	seen := map[string]int{"": 1}
	for work := []pair{{tree.New(), &twig{}}}; len(work) > 0; work = work[1:] {
		was := work[0].w.shape(0)
		for _, text := range calls {
			next := pair{work[0].k.Copy(), work[0].w.copy()}
			does(t, next.k, text, next.w.call(text))
			to := next.w.shape(0)
			looks(t, text+" of "+strconv.Quote(was), next.k, to)
			if seen[to]++; seen[to] == 1 {
				work = append(work, next)
			}
		}
		looks(t, "a tree whose copies were changed", work[0].k, was)
	}
	// Of n slots in order there are 1, 1, 2, 5, 14 shapes; four slots can be chosen and ordered in 1, 4, 12, 24, 24 ways.
	if want := 1 + 4 + 12*2 + 24*5 + 24*14; len(seen) != want {
		t.Errorf("there are %d trees, not %d", len(seen), want)
	}
}

// pick is a row of numbers that is the same at every run.
type pick uint64

func (p *pick) next(n int) int {
	*p = *p*6364136223846793005 + 1442695040888963407
	return int(*p>>33) % n
}

func (p *pick) call() string {
	a, b := p.next(len(letters)), p.next(len(letters))
	kind := []string{"Root", "Add", "Add", "Add", "Add", "Take", "Take", "Move"}[p.next(8)]
	if kind == "Root" || kind == "Take" {
		return kind + " " + letters[a:a+1]
	}
	return kind + " " + letters[a:a+1] + " " + letters[b:b+1]
}

// TestP74ManyCalls: whatever calls were done, wrong ones among them, what hangs on what is as told, and copies of earlier stay.
func TestP74ManyCalls(t *testing.T) {
	p := pick(7)
	for range 30 {
		k, w := tree.New(), &twig{}
		var copies []*tree.Tree
		var shapes []string
		for step := range 400 {
			text := p.call()
			does(t, k, text, w.call(text))
			looks(t, text, k, w.shape(0))
			if step%80 == 0 {
				copies, shapes = append(copies, k.Copy()), append(shapes, w.shape(0))
			}
			if step%150 == 75 {
				// The copy goes on in its original's place: nothing may tell them apart.
				k = k.Copy()
			}
		}
		for i, c := range copies {
			looks(t, "a copy of earlier", c, shapes[i])
		}
	}
}

// TestP74UnderOfUnder: what is under one that is under another one is under this.
func TestP74UnderOfUnder(t *testing.T) {
	p := pick(11)
	k := tree.New()
	for range 500 {
		call(k, p.call())
		for _, s := range k.All() {
			l := k.Under(s)
			if slices.Contains(l, s) {
				t.Fatalf("%s is under itself in %s", letter(s), told(t, k))
			}
			for _, u := range l {
				for _, x := range k.Under(u) {
					if !slices.Contains(l, x) {
						t.Fatalf("%s is not under %s in %s", letter(x), letter(s), told(t, k))
					}
				}
			}
		}
	}
}

// TestP74TakeLeavesOthers: whichever one is taken, each other one has under it what it had, but for that one.
func TestP74TakeLeavesOthers(t *testing.T) {
	for _, s := range grown(t, big).All() {
		k, was := grown(t, big), grown(t, big)
		if e := k.Take(s); e != api.OK {
			t.Fatalf("Take(%v) answers %d", s, e)
		}
		for _, x := range k.All() {
			want := slices.DeleteFunc(was.Under(x), func(u api.Slot) bool { return u == s })
			under(t, k, x, want)
		}
	}
}

// TestP74DeepAndWide: a chain of many slots, whose last one has many children; it is taken from its middle on, so that these come of its first half.
func TestP74DeepAndWide(t *testing.T) {
	const many = 1000
	deep := func(i int) api.Slot { return api.Slot{Node: i, I: -i} }
	wide := func(i int) api.Slot { return api.Slot{Node: -i - 1, I: i} }
	k := tree.New()
	ok := func(e api.Errno) {
		t.Helper()
		if e != api.OK {
			t.Fatalf("answers %d", e)
		}
	}
	var want []api.Slot
	ok(k.Root(deep(0)))
	for i := 1; i < many; i++ {
		ok(k.Add(deep(i-1), deep(i)))
		want = append(want, deep(i))
	}
	for i := range many {
		ok(k.Add(deep(many-1), wide(i)))
	}
	for i := many - 1; i >= 0; i-- {
		want = append(want, wide(i))
	}
	under(t, k, deep(0), want)
	under(t, k, deep(many/2), want[many/2:])
	under(t, k, deep(many-1), want[many-1:])
	for i := 1; i < many; i++ {
		cameOf(t, k, deep(i), deep(i-1), true)
		cameOf(t, k, wide(i), deep(many-1), true)
	}
	for i := many / 2; i < many; i++ {
		ok(k.Take(deep(i)))
	}
	for i := range many {
		cameOf(t, k, wide(i), deep(many/2-1), true)
		under(t, k, wide(i), nil)
	}
	under(t, k, deep(0), slices.Concat(want[:many/2-1], want[many-1:]))
}
