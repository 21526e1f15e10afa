package script_test

import (
	"math"
	"slices"
	"strings"
	"testing"

	"buttress/api"
	"buttress/script"
)

// never are numbers that no field of an item may be, whatever the cores; their lowest bytes are small ones.
var never = []int{-1, -2, -4, -255, -256, -65536, 256, 257, 259, 512, 65536, 1 << 32, 1<<32 + 1, 1 << 62, math.MinInt, math.MinInt + 1, math.MaxInt, math.MaxInt - 1, math.MaxInt - 255}

// counts are numbers of cores: right ones, none, fewer than none, more than there may be.
var counts = []int{1, 2, 3, 7, 8, 9, 255, 256, 1 << 32, math.MaxInt, 0, -1, -8, math.MinInt}

// edged are items whose fields are at the edges, and beyond them, one or all together.
func edged() []api.Item {
	var l []api.Item
	for _, kind := range []int{-1, 0, 1, 2, 3, 4, 5, 256} {
		for _, core := range []int{-1, 0, 1, 2, 6, 7, 8, 9, 256} {
			for _, a := range []int{-1, 0, 1, 128, 255, 256} {
				for _, b := range []int{-1, 0, 127, 255, 256} {
					l = append(l, api.Item{Kind: kind, Core: core, A: a, B: b})
				}
			}
		}
	}
	return l
}

// may says P3.1's words about one item over again.
func may(x api.Item, cores int) bool {
	kind := x.Kind == 0 || x.Kind == 1 || x.Kind == 2 || x.Kind == 3
	core := 0 <= x.Core && x.Core < cores && x.Core <= 7
	return kind && core && 0 <= x.A && x.A <= 255 && 0 <= x.B && x.B <= 255
}

// only are those of l that may be, in order.
func only(l []api.Item, cores int) []api.Item {
	var some []api.Item
	for _, x := range l {
		if may(x, cores) {
			some = append(some, x)
		}
	}
	return some
}

// bytesOf are four bytes an item, whatever the items are; their fields are taken to be bytes.
func bytesOf(l []api.Item) string {
	var s strings.Builder
	for _, x := range l {
		for _, n := range []int{x.Kind, x.Core, x.A, x.B} {
			s.WriteByte(byte(n))
		}
	}
	return s.String()
}

func wantItems(t *testing.T, s string, cores int, want ...api.Item) {
	t.Helper()
	if l := script.Parse(s, cores); !slices.Equal(l, want) {
		t.Errorf("Parse(%q, %d) = %v, not %v", s, cores, l, want)
	}
}

func wantBytes(t *testing.T, l []api.Item, cores int, want string) {
	t.Helper()
	if s := script.Print(l, cores); s != want {
		t.Errorf("Print(%v, %d) = %q, not %q", l, cores, s, want)
	}
}

func TestP31Right(t *testing.T) {
	for _, x := range []struct {
		item  api.Item
		cores int
		want  bool
	}{
		{api.Item{Kind: 1, Core: 0, A: 5, B: 6}, 2, true},
		{api.Item{Kind: 9}, 2, false},
		{api.Item{}, 1, true},
		{api.Item{Kind: 3, Core: 7, A: 255, B: 255}, 8, true},
		{api.Item{Kind: 3}, 1, true},
		{api.Item{Kind: 4}, 1, false},
		{api.Item{Core: 1}, 1, false},
		{api.Item{Core: 1}, 2, true},
		{api.Item{Core: 2}, 2, false},
		{api.Item{Core: 6}, 7, true},
		{api.Item{Core: 7}, 7, false},
		{api.Item{Core: 7}, 8, true},
		{api.Item{Core: 8}, 8, false},
		{api.Item{Core: 7}, 9, true},
		{api.Item{Core: 8}, 9, false},
		{api.Item{Core: 8}, math.MaxInt, false},
		{api.Item{A: 255}, 1, true},
		{api.Item{A: 256}, 1, false},
		{api.Item{B: 255}, 1, true},
		{api.Item{B: 256}, 1, false},
		{api.Item{}, 0, false},
		{api.Item{}, -1, false},
		{api.Item{}, math.MinInt, false},
		{api.Item{Core: -1}, 0, false},
		{api.Item{Core: -2}, -1, false},
		{api.Item{Core: math.MinInt}, -1, false},
	} {
		if got := script.Right(x.item, x.cores); got != x.want {
			t.Errorf("Right(%v, %d) = %v", x.item, x.cores, got)
		}
	}
}

func TestP31RightAtAllEdges(t *testing.T) {
	for _, cores := range counts {
		for _, x := range edged() {
			if got := script.Right(x, cores); got != may(x, cores) {
				t.Errorf("Right(%v, %d) = %v", x, cores, got)
			}
		}
	}
}

// One field alone is wrong, far below or far above too.
func TestP31RightFieldsFarOff(t *testing.T) {
	for _, n := range never {
		for _, cores := range counts {
			for _, x := range []api.Item{{Kind: n}, {Core: n}, {A: n}, {B: n}, {Kind: n, Core: n, A: n, B: n}} {
				if script.Right(x, cores) {
					t.Errorf("Right(%v, %d) is true", x, cores)
				}
			}
		}
	}
}

func TestP31Parse(t *testing.T) {
	wantItems(t, "\x01\x00\x05\x06\x09\x00\x00\x00", 2, api.Item{Kind: 1, Core: 0, A: 5, B: 6})
	wantItems(t, "", 1)
	wantItems(t, "\x00\x00\x00\x00", 1, api.Item{})
	wantItems(t, "\x03\x07\xff\xfe", 8, api.Item{Kind: 3, Core: 7, A: 255, B: 254})
	wantItems(t, "\x04\x00\x00\x00", 8)
	wantItems(t, "\xff\x00\x00\x00", 8)
	wantItems(t, "\x00\x01\x00\x00\x00\x02\x00\x00", 2, api.Item{Core: 1})
	wantItems(t, "\x00\x07\x00\x00\x00\x08\x00\x00\x00\xff\x00\x00", 8, api.Item{Core: 7})
	wantItems(t, "\x00\x07\x00\x00\x00\x08\x00\x00\x00\xff\x00\x00", math.MaxInt, api.Item{Core: 7})
}

// Those that are not right are left out wherever they stand; the others keep their order, the same one twice too.
func TestP31ParseLeavesOut(t *testing.T) {
	wrong, first, last := "\x04\x00\x01\x02", "\x02\x01\x09\x08", "\x00\x00\x07\x06"
	a, z := api.Item{Kind: 2, Core: 1, A: 9, B: 8}, api.Item{A: 7, B: 6}
	wantItems(t, wrong+first+last, 2, a, z)
	wantItems(t, first+wrong+last, 2, a, z)
	wantItems(t, first+last+wrong, 2, a, z)
	wantItems(t, wrong+last+wrong+wrong+first+wrong, 2, z, a)
	wantItems(t, first+first+last+first, 2, a, a, z, a)
	wantItems(t, first+last, 1, z)
	wantItems(t, wrong+wrong, 2)
}

// Items begin at multiples of four alone; the bytes behind the last four are lost.
func TestP31ParseBehindTheLastFour(t *testing.T) {
	whole := "\x01\x00\x02\x03\x00\x01\x04\x05"
	items := []api.Item{{Kind: 1, A: 2, B: 3}, {Core: 1, A: 4, B: 5}}
	for n := range len(whole) + 1 {
		wantItems(t, whole[:n], 2, items[:n/4]...)
	}
	wantItems(t, "\x09"+whole, 2, api.Item{Kind: 3, A: 1, B: 4})
	wantItems(t, "\x00\x00\x00", 1)
}

func TestP31ParseNoCores(t *testing.T) {
	for _, cores := range []int{0, -1, -8, math.MinInt} {
		wantItems(t, "\x00\x00\x00\x00\x01\x00\x05\x06\x00\xff\x00\x00", cores)
	}
}

// Bytes are taken one by one, whether or not they are text.
func TestP31EveryByte(t *testing.T) {
	for n := range 256 {
		for _, cores := range counts {
			for _, x := range []api.Item{{Kind: n}, {Core: n}, {A: n}, {B: n}, {A: n, B: 255 - n}} {
				l := []api.Item{x}
				wantItems(t, bytesOf(l), cores, only(l, cores)...)
				wantBytes(t, l, cores, bytesOf(only(l, cores)))
			}
		}
	}
}

func TestP31Print(t *testing.T) {
	wantBytes(t, nil, 2, "")
	wantBytes(t, []api.Item{}, 2, "")
	wantBytes(t, []api.Item{{Kind: 1, A: 5, B: 6}, {Kind: 9}}, 2, "\x01\x00\x05\x06")
	wantBytes(t, []api.Item{{}}, 1, "\x00\x00\x00\x00")
	wantBytes(t, []api.Item{{Kind: 3, Core: 7, A: 255, B: 254}}, 8, "\x03\x07\xff\xfe")
	wantBytes(t, []api.Item{{Core: 1, A: 1}, {Core: 2, A: 2}, {A: 3}, {A: 3}}, 2, "\x00\x01\x01\x00\x00\x00\x03\x00\x00\x00\x03\x00")
	for _, cores := range []int{0, -1, math.MinInt} {
		wantBytes(t, []api.Item{{}, {Kind: 1}, {Core: -1}, {Core: math.MinInt}}, cores, "")
	}
}

// A field that a byte does not hold must not become another one's byte.
func TestP31PrintLeavesOut(t *testing.T) {
	for _, n := range never {
		for _, x := range []api.Item{{Kind: n}, {Core: n}, {A: n}, {B: n}} {
			wantBytes(t, []api.Item{{Kind: 1, B: 4}, x, {Kind: 2, A: 3}, x}, 2, "\x01\x00\x00\x04\x02\x00\x03\x00")
			wantBytes(t, []api.Item{x}, 2, "")
		}
	}
	for _, cores := range counts {
		wantBytes(t, edged(), cores, bytesOf(only(edged(), cores)))
	}
}

// What is handed in stays as it was, and the room behind it; what is answered is one's own, and its spare room.
func TestP31MemoryIsOnesOwn(t *testing.T) {
	room := []api.Item{{Kind: 9}, {Kind: 1, A: 5}, {Core: 9}, {Kind: 2, B: 6}, {Kind: 3, A: 7}, {Kind: -1}}
	before := slices.Clone(room)
	text := script.Print(room[:4], 2)
	if !slices.Equal(room, before) {
		t.Errorf("what was printed is %v now", room)
	}
	clear(room)
	if text != "\x01\x00\x05\x00\x02\x00\x00\x06" {
		t.Errorf("the bytes are %q now", text)
	}
	one, other := script.Parse(text, 2), script.Parse(text, 2)
	all := one[:cap(one)]
	for i := range all {
		all[i] = api.Item{Kind: 77}
	}
	if want := []api.Item{{Kind: 1, A: 5}, {Kind: 2, B: 6}}; !slices.Equal(other, want) {
		t.Errorf("another list is %v, not %v", other, want)
	}
	wantItems(t, text, 2, other...)
}

func TestP32PrintedIsParsed(t *testing.T) {
	for _, cores := range counts {
		l := edged()
		wantItems(t, script.Print(l, cores), cores, only(l, cores)...)
		slices.Reverse(l)
		wantItems(t, script.Print(l, cores), cores, only(l, cores)...)
		wantItems(t, script.Print(nil, cores), cores)
	}
}

func TestP32ParsedPrintedIsParsedTheSame(t *testing.T) {
	s := bytesOf(edged())
	for _, cores := range counts {
		for _, text := range []string{"", "\x00", "\x00\x00\x00", s, s[1:], s[2:], s[3:], s[:len(s)-1], s[:len(s)-3]} {
			l := script.Parse(text, cores)
			printed := script.Print(l, cores)
			if len(printed) != 4*len(l) {
				t.Errorf("%d cores: %d items are %d bytes", cores, len(l), len(printed))
			}
			if again := script.Parse(printed, cores); !slices.Equal(again, l) {
				t.Errorf("%d cores: what was parsed, printed, is parsed as other items", cores)
			}
		}
	}
}

// Fewer cores leave out more: what one number of cores printed another one parses by its own measure.
func TestP32OtherCores(t *testing.T) {
	for _, printed := range counts {
		for _, parsed := range counts {
			want := only(only(edged(), printed), parsed)
			wantItems(t, script.Print(edged(), printed), parsed, want...)
		}
	}
}
