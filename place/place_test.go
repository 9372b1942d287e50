package place_test

import (
	"math"
	"math/rand"
	"slices"
	"strings"
	"testing"
	"unsafe"

	"casemate/anchor"
	"casemate/api"
	"casemate/geom"
	"casemate/place"
)

// geo is a geometry.
func geo(zones, data, spares, slots, anchors int) api.Geometry {
	return api.Geometry{Zones: zones, Data: data, Spares: spares, Slots: slots, Anchors: anchors}
}

// small is one between, least and greatest are the smallest and the greatest valid geometry.
var (
	small    = geo(2, 3, 1, 14, 2)
	least    = geo(1, 1, 0, 14, 1)
	greatest = geo(4, 4, 2, 30, 3)
)

// some are valid geometries with each number of zones, of blocks and of spares.
func some() []api.Geometry {
	return []api.Geometry{
		small, least, greatest, geo(1, 1, 2, 30, 3), geo(3, 2, 0, 20, 1), geo(3, 2, 2, 20, 1), geo(4, 2, 1, 14, 3),
		geo(2, 3, 0, 29, 2), geo(1, 4, 0, 14, 1), geo(3, 1, 1, 17, 2), geo(4, 4, 0, 30, 3), geo(3, 4, 2, 15, 1),
	}
}

// geometries are all valid ones.
func geometries() (l []api.Geometry) {
	for zones := 1; zones <= 4; zones++ {
		for data := 1; data <= 4; data++ {
			for spares := 0; spares <= 2; spares++ {
				for slots := 14; slots <= 30; slots++ {
					for anchors := 1; anchors <= 3; anchors++ {
						l = append(l, geo(zones, data, spares, slots, anchors))
					}
				}
			}
		}
	}
	return l
}

// wrongGeometries are g with each number in turn one beyond each of its bounds and far out.
func wrongGeometries(g api.Geometry) (l []api.Geometry) {
	for i, beyond := range [][]int{{0, 5}, {0, 5}, {-1, 3}, {13, 31}, {0, 4}} {
		for _, n := range append(beyond, -1, math.MinInt, math.MaxInt) {
			numbers := [5]int{g.Zones, g.Data, g.Spares, g.Slots, g.Anchors}
			numbers[i] = n
			l = append(l, geo(numbers[0], numbers[1], numbers[2], numbers[3], numbers[4]))
		}
	}
	return append(l, api.Geometry{}, geo(-1, -1, -1, -1, -1))
}

// clone is a copy of a that shares nothing with it.
func clone(a api.Anchor) api.Anchor {
	a.Homes = slices.Clone(a.Homes)
	for i := range a.Homes {
		a.Homes[i].Places = slices.Clone(a.Homes[i].Places)
	}
	return a
}

// firstAnchor is the anchor of a new volume.
func firstAnchor(t *testing.T, g api.Geometry) api.Anchor {
	t.Helper()
	a, e := anchor.First(g, "né")
	if e != api.OK {
		t.Fatalf("First(%+v): %v", g, e)
	}
	return a
}

// anyAnchor returns a valid anchor of g.
func anyAnchor(random *rand.Rand, g api.Geometry) api.Anchor {
	nums := []int{0, 1, 255, 256, 65535, 65536, 1<<31 - 1, 1 << 31, api.MaxNum, int(random.Uint32())}
	num := func() int { return nums[random.Intn(len(nums))] }
	texts := []string{"", "né", "disk 1", "水水水水水水"}
	a := api.Anchor{Gen: num(), Epoch: num(), Pos: random.Intn(g.Slots), Seq: max(num(), 1), Label: texts[random.Intn(len(texts))]}
	a.Last = max(num(), a.Seq-1)
	for range g.Zones {
		places := random.Perm(g.Data + 1 + g.Spares)[:g.Data+1]
		low := max(g.Data+1, slices.Max(places)+1)
		a.Homes = append(a.Homes, api.Home{Places: places, Next: low + random.Intn(g.Data+1+g.Spares-low+1), Root: num()})
	}
	return a
}

// wrongAnchors are a with one thing in each that makes it not valid, in what a call needs and in what it does not.
func wrongAnchors(g api.Geometry, a api.Anchor) (l []api.Anchor) {
	with := func(change func(a *api.Anchor)) {
		b := clone(a)
		change(&b)
		l = append(l, b)
	}
	for _, n := range []int{-1, api.MaxNum + 1, math.MinInt, math.MaxInt} {
		with(func(a *api.Anchor) { a.Gen = n })
		with(func(a *api.Anchor) { a.Epoch = n })
		with(func(a *api.Anchor) { a.Seq = n })
		with(func(a *api.Anchor) { a.Last = n })
		with(func(a *api.Anchor) { a.Pos = n })
	}
	with(func(a *api.Anchor) { a.Seq = 0 })
	with(func(a *api.Anchor) { a.Seq, a.Last = 5, 3 })
	with(func(a *api.Anchor) { a.Pos = g.Slots })
	with(func(a *api.Anchor) { a.Label = "\n" })
	with(func(a *api.Anchor) { a.Label = "\xff" })
	with(func(a *api.Anchor) { a.Label = "abcdefg" })
	with(func(a *api.Anchor) { a.Homes = nil })
	with(func(a *api.Anchor) { a.Homes = a.Homes[:g.Zones-1] })
	with(func(a *api.Anchor) { a.Homes = append(a.Homes, a.Homes[0]) })
	for zone := range g.Zones {
		l = append(l, wrongHomes(g, a, zone)...)
	}
	return append(l, api.Anchor{})
}

// wrongHomes are a with one thing in each that makes the Home of this zone, and so the whole anchor, not valid.
func wrongHomes(g api.Geometry, a api.Anchor, zone int) (l []api.Anchor) {
	with := func(change func(home *api.Home)) {
		b := clone(a)
		change(&b.Homes[zone])
		l = append(l, b)
	}
	for _, n := range []int{-1, math.MinInt, math.MaxInt} {
		with(func(home *api.Home) { home.Next = n })
		with(func(home *api.Home) { home.Root = n })
		with(func(home *api.Home) { home.Places[0] = n })
		with(func(home *api.Home) { home.Places[g.Data] = n })
	}
	with(func(home *api.Home) { home.Next = g.Data })
	with(func(home *api.Home) { home.Next = slices.Max(home.Places) })
	with(func(home *api.Home) { home.Next = g.Data + 2 + g.Spares })
	with(func(home *api.Home) { home.Places[0] = home.Next })
	with(func(home *api.Home) { home.Places[0] = home.Places[g.Data] })
	with(func(home *api.Home) { home.Places = nil })
	with(func(home *api.Home) { home.Places = home.Places[:g.Data] })
	with(func(home *api.Home) { home.Places = append(home.Places, home.Places[0]) })
	with(func(home *api.Home) { *home = api.Home{} })
	return l
}

// zones are all zones of g, and such numbers as are none: beside the bounds, far out, and such as share low bits with zones.
func zones(g api.Geometry) []int {
	return append(outside(g.Zones), upTo(g.Zones)...)
}

// whats are all blocks of a zone and Parity, and such numbers as are none.
func whats(g api.Geometry) []int {
	l := append(outside(g.Data), upTo(g.Data)...)
	return append(slices.DeleteFunc(l, func(n int) bool { return n == api.Parity }), api.Parity)
}

// blocks are all blocks of a zone, and Parity.
func blocks(g api.Geometry) []int {
	return append(upTo(g.Data), api.Parity)
}

// upTo are the numbers from 0 to n - 1.
func upTo(n int) (l []int) {
	for i := range n {
		l = append(l, i)
	}
	return l
}

// outside are numbers that are not from 0 to n - 1.
func outside(n int) []int {
	return []int{
		-1, -2, -3, -n - 1, n, n + 1, n + 2, 7, 8, 127, 128, 255, 256, 256 + n - 1, 65535, 65536, -255, -256, -65536,
		math.MinInt32, math.MaxInt32, 1<<32 - 1, 1 << 32, 1<<32 + n - 1, -1 << 32, 1 << 62,
		math.MinInt, math.MinInt + 1, math.MinInt / 2, math.MaxInt / 2, math.MaxInt - 1, math.MaxInt,
	}
}

// The document's words, as a second program that is to answer the same. It sees a zone as the list of its slots, each with the block that is
// in it.

// nobody is in a slot in which no block is.
const nobody = -2

// holders are the blocks that are in the slots of a zone, slot by slot.
func holders(g api.Geometry, home api.Home) []int {
	l := slices.Repeat([]int{nobody}, g.Data+1+g.Spares)
	for i, slot := range home.Places {
		l[slot] = blocks(g)[i]
	}
	return l
}

// placesOf are the slots in which the blocks, and the parity after them, are.
func placesOf(g api.Geometry, holders []int) (l []int) {
	for _, what := range blocks(g) {
		l = append(l, slices.Index(holders, what))
	}
	return l
}

// slotAddrs are the addresses of the slots of a zone: the cells are counted in the document's order.
func slotAddrs(g api.Geometry, zone int) (l []int) {
	next := 0
	count := func(n int) (l []int) {
		for range n {
			l = append(l, next)
			next++
		}
		return l
	}
	count(g.Anchors)
	count(g.Slots)
	count(g.Slots)
	for range g.Zones {
		count(2)
	}
	for range zone + 1 {
		l = count(g.Data + 1 + g.Spares)
	}
	return l
}

// answer is what a call of one function comes to.
type answer struct {
	a api.Anchor
	n int
	e api.Errno
}

func (x answer) isSame(y answer) bool {
	return isSame(x.a, y.a) && x.n == y.n && x.e == y.e
}

// names are those of the functions, in the order of the answers.
func names() [4]string {
	return [4]string{"Addr", "Spares", "Move", "Skip"}
}

// ask makes a call of each function.
func ask(g api.Geometry, a api.Anchor, zone, what int) (l [4]answer) {
	l[0].n, l[0].e = place.Addr(g, a, zone, what)
	l[1].n, l[1].e = place.Spares(g, a, zone)
	l[2].a, l[2].n, l[2].e = place.Move(g, a, zone, what)
	l[3].a, l[3].e = place.Skip(g, a, zone)
	return l
}

// want is what ask is to return where g and a are valid.
func want(g api.Geometry, a api.Anchor, zone, what int) (l [4]answer) {
	if !slices.Contains(upTo(g.Zones), zone) {
		return allOf(api.ErrArg)
	}
	home := a.Homes[zone]
	addrs, in := slotAddrs(g, zone), holders(g, home)
	left := addrs[home.Next:]
	l[1].n = len(left)
	if len(left) == 0 {
		l[2].e, l[3].e = api.ErrNone, api.ErrNone
	} else {
		l[3].a = clone(a)
		l[3].a.Homes[zone].Next = home.Next + 1
	}
	if !slices.Contains(blocks(g), what) {
		l[0].e, l[2] = api.ErrArg, answer{e: api.ErrArg}
		return l
	}
	slot := slices.Index(in, what)
	l[0].n = addrs[slot]
	if len(left) > 0 {
		in[slot], in[home.Next] = nobody, what
		l[2].a, l[2].n = clone(l[3].a), left[0]
		l[2].a.Homes[zone].Places = placesOf(g, in)
	}
	return l
}

// allOf is the answer e of each function, and nothing beside it.
func allOf(e api.Errno) [4]answer {
	return [4]answer{{e: e}, {e: e}, {e: e}, {e: e}}
}

// The answers, held against what they are to be.

// isSame tells whether two anchors are the same. Nil and empty mean the same.
func isSame(a, b api.Anchor) bool {
	if a.Gen != b.Gen || a.Epoch != b.Epoch || a.Pos != b.Pos || a.Seq != b.Seq || a.Last != b.Last || a.Label != b.Label {
		return false
	}
	return slices.EqualFunc(a.Homes, b.Homes, func(a, b api.Home) bool {
		return slices.Equal(a.Places, b.Places) && a.Next == b.Next && a.Root == b.Root
	})
}

// answers tells an error unless each function answers as it is to.
func answers(t *testing.T, g api.Geometry, a api.Anchor, zone, what int, want [4]answer) {
	t.Helper()
	for i, x := range ask(g, a, zone, what) {
		if !x.isSame(want[i]) {
			t.Fatalf("%s of %+v, %+v, zone %d, what %d = %+v, want %+v", names()[i], g, a, zone, what, x, want[i])
		}
	}
}

// isRight tells an error unless each function answers of a, which is valid, as the document says: for each zone and each block, and such as
// are none.
func isRight(t *testing.T, g api.Geometry, a api.Anchor) {
	t.Helper()
	isSound(t, g, a)
	for _, zone := range zones(g) {
		for _, what := range whats(g) {
			answers(t, g, a, zone, what, want(g, a, zone, what))
		}
	}
}

// isSound tells an error unless a is valid, all its blocks are in different slots, those of a zone in slots of that zone, and each zone has no
// more spare slots left than there are slots after those of its blocks.
func isSound(t *testing.T, g api.Geometry, a api.Anchor) {
	t.Helper()
	if e := anchor.Check(g, a); e != api.OK {
		t.Fatalf("%+v is not valid: %v", a, e)
	}
	seen := map[int]int{}
	for zone := range g.Zones {
		greatest := 0
		for _, what := range blocks(g) {
			addr, e := place.Addr(g, a, zone, what)
			if e != api.OK || !slices.Contains(slotAddrs(g, zone), addr) {
				t.Fatalf("%+v, %+v: %d of zone %d is at %d, %v", g, a, what, zone, addr, e)
			}
			seen[addr]++
			if seen[addr] > 1 {
				t.Fatalf("%+v, %+v: %d of zone %d is at %d, as another one", g, a, what, zone, addr)
			}
			greatest = max(greatest, addr)
		}
		spares, e := place.Spares(g, a, zone)
		if after := slotAddrs(g, zone+1)[0] - 1 - greatest; e != api.OK || spares < 0 || spares > g.Spares || spares > after {
			t.Fatalf("%+v, %+v: zone %d has %d spares, %v", g, a, zone, spares, e)
		}
	}
}

// P11.1: the chapter's example: the first spare slot of a zone of three blocks is slot 4.
func TestExample(t *testing.T) {
	a := firstAnchor(t, small)
	for zone, want := range []int{38, 43} {
		for _, what := range []int{0, 1, 2, api.Parity} {
			b, addr, e := place.Move(small, a, zone, what)
			slot, _ := geom.Slot(small, zone, 4)
			if e != api.OK || addr != want || addr != slot || b.Homes[zone].Next != 5 {
				t.Errorf("Move(zone %d, %d) = %+v, %d, %v, want %d", zone, what, b, addr, e, want)
			}
		}
	}
}

// P11.1: addresses of each block and of Parity, written out by hand: in the first, a middle and the last zone, of new anchors and of such whose
// blocks have moved.
func TestAddrByHand(t *testing.T) {
	three, four := geo(3, 2, 1, 20, 1), geo(4, 4, 2, 30, 3)
	moved := firstAnchor(t, three)
	moved.Homes = []api.Home{{Places: []int{2, 0, 1}, Next: 3}, {Places: []int{0, 3, 2}, Next: 4}, {Places: []int{0, 1, 3}, Next: 4, Root: 9}}
	more := firstAnchor(t, four)
	more.Homes[1] = api.Home{Places: []int{5, 1, 0, 4, 6}, Next: 7}
	more.Homes[3] = api.Home{Places: []int{0, 6, 3, 1, 2}, Next: 7}
	for _, test := range []struct {
		g    api.Geometry
		a    api.Anchor
		want [][]int
	}{
		{least, firstAnchor(t, least), [][]int{{31, 32}}},
		{small, firstAnchor(t, small), [][]int{{34, 35, 36, 37}, {39, 40, 41, 42}}},
		{three, firstAnchor(t, three), [][]int{{47, 48, 49}, {51, 52, 53}, {55, 56, 57}}},
		{three, moved, [][]int{{49, 47, 48}, {51, 54, 53}, {55, 56, 58}}},
		{four, firstAnchor(t, four), [][]int{{71, 72, 73, 74, 75}, {78, 79, 80, 81, 82}, {85, 86, 87, 88, 89}, {92, 93, 94, 95, 96}}},
		{four, more, [][]int{{71, 72, 73, 74, 75}, {83, 79, 78, 82, 84}, {85, 86, 87, 88, 89}, {92, 98, 95, 93, 94}}},
	} {
		for zone, addrs := range test.want {
			for i, want := range addrs {
				what := i
				if i == len(addrs)-1 {
					what = -1
				}
				if addr, e := place.Addr(test.g, test.a, zone, what); e != api.OK || addr != want {
					t.Errorf("Addr(%+v, %+v, %d, %d) = %d, %v, want %d", test.g, test.a, zone, what, addr, e, want)
				}
			}
		}
		isRight(t, test.g, test.a)
	}
}

// P11.1: Spares from all of them down to none, in geometries without a spare too. It hangs on Next, not on where the blocks are.
func TestSparesByHand(t *testing.T) {
	for _, test := range []struct {
		g      api.Geometry
		places []int
		next   int
		want   int
	}{
		{geo(1, 1, 0, 14, 1), []int{0, 1}, 2, 0}, {geo(1, 1, 1, 14, 1), []int{0, 1}, 2, 1}, {geo(1, 1, 2, 14, 1), []int{0, 1}, 2, 2},
		{geo(1, 1, 1, 14, 1), []int{0, 1}, 3, 0}, {geo(1, 1, 1, 14, 1), []int{2, 1}, 3, 0}, {geo(1, 1, 1, 14, 1), []int{1, 2}, 3, 0},
		{geo(1, 1, 2, 14, 1), []int{1, 0}, 3, 1}, {geo(1, 1, 2, 14, 1), []int{2, 0}, 3, 1},
		{geo(1, 1, 2, 14, 1), []int{1, 0}, 4, 0}, {geo(1, 1, 2, 14, 1), []int{3, 2}, 4, 0}, {geo(1, 1, 2, 14, 1), []int{2, 0}, 4, 0},
		{geo(1, 3, 0, 30, 3), []int{3, 2, 1, 0}, 4, 0}, {geo(1, 4, 0, 30, 3), []int{0, 1, 2, 3, 4}, 5, 0},
		{geo(1, 4, 1, 30, 3), []int{0, 1, 2, 3, 4}, 5, 1}, {geo(1, 4, 1, 30, 3), []int{0, 5, 2, 3, 4}, 6, 0},
		{geo(1, 4, 2, 30, 3), []int{0, 1, 2, 3, 4}, 5, 2}, {geo(1, 4, 2, 30, 3), []int{0, 1, 2, 5, 4}, 6, 1}, {geo(1, 4, 2, 30, 3), []int{0, 6, 2, 5, 4}, 7, 0},
	} {
		a := api.Anchor{Seq: 1, Homes: []api.Home{{Places: test.places, Next: test.next}}}
		if n, e := place.Spares(test.g, a, 0); e != api.OK || n != test.want {
			t.Errorf("Spares(%+v, %+v) = %d, %v, want %d", test.g, a, n, e, test.want)
		}
		isRight(t, test.g, a)
	}
	a := firstAnchor(t, greatest)
	for zone, next := range []int{6, 5, 7, 6} {
		a.Homes[zone].Next = next
	}
	for zone, want := range []int{1, 2, 0, 1} {
		if n, e := place.Spares(greatest, a, zone); e != api.OK || n != want {
			t.Errorf("Spares of zone %d = %d, %v, want %d", zone, n, e, want)
		}
	}
}

// step is a Move of a block of a zone, or a Skip, with what it is to come to. With an error the anchor stays.
type step struct {
	zone, what int
	addr       int
	e          api.Errno
	homes      []api.Home
}

// skip is in the place of what in a step that is a Skip.
const skip = 99

// P11.1: rows of Moves and Skips, written out by hand: each block and Parity, one behind the other until no spare is left, then one more, a
// block that moves twice, Skip alone and among Moves.
func TestRowsByHand(t *testing.T) {
	g := geo(3, 2, 2, 20, 1)
	one, two, none := []api.Home{{Places: []int{0, 1, 2}, Next: 3}}, []api.Home{{Places: []int{0, 1, 2}, Next: 3}, {Places: []int{0, 1, 2}, Next: 3}}, []api.Home(nil)
	homes := func(before []api.Home, next int, places ...int) []api.Home {
		l := append(slices.Clone(before), api.Home{Places: places, Next: next})
		return append(l, two...)[:3]
	}
	for i, row := range [][]step{
		{
			{1, 0, 55, api.OK, homes(one, 4, 3, 1, 2)}, {1, api.Parity, 56, api.OK, homes(one, 5, 3, 1, 4)},
			{1, 1, 0, api.ErrNone, nil}, {1, 0, 0, api.ErrNone, nil}, {1, api.Parity, 0, api.ErrNone, nil}, {1, skip, 0, api.ErrNone, nil},
		},
		{{0, 1, 50, api.OK, homes(none, 4, 0, 3, 2)}, {0, 0, 51, api.OK, homes(none, 5, 4, 3, 2)}, {0, 1, 0, api.ErrNone, nil}},
		{{2, 0, 60, api.OK, homes(two, 4, 3, 1, 2)}, {2, 0, 61, api.OK, homes(two, 5, 4, 1, 2)}, {2, 0, 0, api.ErrNone, nil}},
		{{2, api.Parity, 60, api.OK, homes(two, 4, 0, 1, 3)}, {2, api.Parity, 61, api.OK, homes(two, 5, 0, 1, 4)}, {2, api.Parity, 0, api.ErrNone, nil}},
		{{0, skip, 0, api.OK, homes(none, 4, 0, 1, 2)}, {0, 1, 51, api.OK, homes(none, 5, 0, 4, 2)}, {0, skip, 0, api.ErrNone, nil}, {0, 1, 0, api.ErrNone, nil}},
		{{1, 1, 55, api.OK, homes(one, 4, 0, 3, 2)}, {1, skip, 0, api.OK, homes(one, 5, 0, 3, 2)}, {1, skip, 0, api.ErrNone, nil}, {1, 0, 0, api.ErrNone, nil}},
		{{2, skip, 0, api.OK, homes(two, 4, 0, 1, 2)}, {2, skip, 0, api.OK, homes(two, 5, 0, 1, 2)}, {2, skip, 0, api.ErrNone, nil}, {2, api.Parity, 0, api.ErrNone, nil}},
		{
			{0, api.Parity, 50, api.OK, homes(none, 4, 0, 1, 3)}, {0, skip, 0, api.OK, homes(none, 5, 0, 1, 3)}, {0, 0, 0, api.ErrNone, nil},
			{2, 1, 60, api.OK, []api.Home{{Places: []int{0, 1, 3}, Next: 5}, two[0], {Places: []int{0, 3, 2}, Next: 4}}},
			{1, 0, 55, api.OK, []api.Home{{Places: []int{0, 1, 3}, Next: 5}, {Places: []int{3, 1, 2}, Next: 4}, {Places: []int{0, 3, 2}, Next: 4}}},
		},
	} {
		a := firstAnchor(t, g)
		for k, step := range row {
			b := api.Anchor{Gen: 1, Seq: 1, Label: "né", Homes: step.homes}
			if step.e != api.OK {
				b = api.Anchor{}
			}
			x := act(g, a, step.zone, step.what)
			if !x.isSame(answer{b, step.addr, step.e}) {
				t.Fatalf("row %d, step %d: %+v, want %+v, %d, %v", i, k, x, b, step.addr, step.e)
			}
			if x.e == api.OK {
				a = x.a
			}
			isRight(t, g, a)
		}
	}
}

// act makes a Move, or a Skip.
func act(g api.Geometry, a api.Anchor, zone, what int) (x answer) {
	if what == skip {
		x.a, x.e = place.Skip(g, a, zone)
	} else {
		x.a, x.n, x.e = place.Move(g, a, zone, what)
	}
	return x
}

// P11.1: Move and Skip leave as they were the other places, the other zones, Root, Gen, Epoch, Seq, Last, Pos and Label, also where one of them
// is the greatest that it may be.
func TestWhatStays(t *testing.T) {
	g := geo(3, 2, 1, 20, 1)
	homes := []api.Home{{Places: []int{2, 0, 1}, Next: 3, Root: 5}, {Places: []int{1, 2, 0}, Next: 3, Root: api.MaxNum}, {Places: []int{0, 1, 3}, Next: 4, Root: 7}}
	for _, a := range []api.Anchor{
		{Gen: 11, Epoch: 12, Pos: 13, Seq: 14, Last: 15, Label: "disk 1", Homes: homes},
		{Gen: api.MaxNum, Epoch: api.MaxNum, Pos: 19, Seq: api.MaxNum, Last: api.MaxNum, Label: "水水水水水水", Homes: homes},
		{Gen: 0, Epoch: 0, Pos: 0, Seq: 1, Last: 0, Label: "", Homes: homes},
	} {
		for _, test := range []struct {
			zone, what int
			addr       int
			home       api.Home
		}{
			{0, 0, 50, api.Home{Places: []int{3, 0, 1}, Next: 4, Root: 5}},
			{0, 1, 50, api.Home{Places: []int{2, 3, 1}, Next: 4, Root: 5}},
			{0, api.Parity, 50, api.Home{Places: []int{2, 0, 3}, Next: 4, Root: 5}},
			{0, skip, 0, api.Home{Places: []int{2, 0, 1}, Next: 4, Root: 5}},
			{1, 0, 54, api.Home{Places: []int{3, 2, 0}, Next: 4, Root: api.MaxNum}},
			{1, 1, 54, api.Home{Places: []int{1, 3, 0}, Next: 4, Root: api.MaxNum}},
			{1, api.Parity, 54, api.Home{Places: []int{1, 2, 3}, Next: 4, Root: api.MaxNum}},
			{1, skip, 0, api.Home{Places: []int{1, 2, 0}, Next: 4, Root: api.MaxNum}},
		} {
			b := clone(a)
			b.Homes[test.zone] = test.home
			if x := act(g, a, test.zone, test.what); !x.isSame(answer{b, test.addr, api.OK}) {
				t.Errorf("%+v: zone %d, %d: %+v, want %+v, %d", a, test.zone, test.what, x, b, test.addr)
			}
		}
		for _, what := range []int{0, 1, api.Parity, skip} {
			if x := act(g, a, 2, what); !x.isSame(answer{e: api.ErrNone}) {
				t.Errorf("%+v: zone 2, %d: %+v, want ErrNone alone", a, what, x)
			}
		}
		isRight(t, g, a)
	}
}

// P11.1: anchors of each geometry, new ones and others, against the second program.
func TestEachGeometry(t *testing.T) {
	random := rand.New(rand.NewSource(1))
	for _, g := range geometries() {
		for _, a := range []api.Anchor{firstAnchor(t, g), anyAnchor(random, g)} {
			isSound(t, g, a)
			for zone := range g.Zones {
				for _, what := range blocks(g) {
					answers(t, g, a, zone, what, want(g, a, zone, what))
				}
			}
		}
	}
	for _, g := range some() {
		for range 20 {
			isRight(t, g, anyAnchor(random, g))
		}
	}
}

// P11.1: a zone that there is not is ErrArg with each function, a what that there is not with Addr and Move, and nothing is beside it. Spares and
// Skip have no what, so that none is asked for.
func TestNoSuchZoneOrBlock(t *testing.T) {
	for _, g := range some() {
		a := firstAnchor(t, g)
		for _, zone := range []int{-1, g.Zones, g.Zones + 1, 255, math.MinInt, math.MaxInt} {
			for _, what := range []int{0, api.Parity, -2, g.Data, math.MinInt, math.MaxInt} {
				answers(t, g, a, zone, what, allOf(api.ErrArg))
			}
		}
		for zone := range g.Zones {
			for _, what := range []int{-2, g.Data, g.Data + 1, 255, math.MinInt, math.MaxInt} {
				l := want(g, a, zone, 0)
				l[0], l[2] = answer{e: api.ErrArg}, answer{e: api.ErrArg}
				answers(t, g, a, zone, what, l)
			}
		}
	}
}

// P11.1: a geometry that is not valid, and an anchor that is not, are ErrArg with each function, whatever the zone and the block are, and nothing
// is beside it.
func TestNotValid(t *testing.T) {
	random := rand.New(rand.NewSource(2))
	for _, g := range some() {
		for _, a := range []api.Anchor{firstAnchor(t, g), anyAnchor(random, g)} {
			for zone := -1; zone <= g.Zones; zone++ {
				for what := -2; what <= g.Data; what++ {
					for _, wrong := range wrongGeometries(g) {
						answers(t, wrong, a, zone, what, allOf(api.ErrArg))
					}
					for _, wrong := range wrongAnchors(g, a) {
						answers(t, g, wrong, zone, what, allOf(api.ErrArg))
					}
				}
			}
		}
	}
}

// P11.1: an anchor of another geometry is ErrArg, even if there are the zone and the block, unless it is valid there as well. The slots are then
// those of the geometry that is handed in.
func TestAnotherGeometry(t *testing.T) {
	random := rand.New(rand.NewSource(3))
	for _, from := range some() {
		for range 3 {
			a := anyAnchor(random, from)
			for _, g := range some() {
				l := allOf(api.ErrArg)
				if anchor.Check(g, a) == api.OK {
					l = want(g, a, 0, 0)
				} else if g == from {
					t.Fatalf("%+v, %+v: not valid", g, a)
				}
				answers(t, g, a, 0, 0, l)
			}
		}
	}
}

// P11.1: the errors in the chapter's order where several apply: each set of a geometry that is not valid, an anchor that is not, a zone that
// there is not, a block that there is not, and no spare left.
func TestSeveralErrors(t *testing.T) {
	for _, right := range some() {
		for faults := range 1 << 5 {
			has := func(i int) bool { return faults>>i&1 == 1 }
			g, a, zone, what := right, firstAnchor(t, right), right.Zones-1, right.Data-1
			none := has(4) || g.Spares == 0
			if none {
				a.Homes[zone].Next = g.Data + 1 + g.Spares
			}
			if has(0) {
				g.Anchors = 4
			}
			if has(1) {
				a.Pos = g.Slots
			}
			if has(2) {
				zone = g.Zones
			}
			if has(3) {
				what = g.Data
			}
			l := allOf(api.ErrArg)
			if !has(0) && !has(1) && !has(2) {
				l = want(g, a, zone, what)
				isError := func(i int, e api.Errno) {
					if l[i].e != e {
						t.Fatalf("the test says of the faults %05b: %s is %v", faults, names()[i], l[i].e)
					}
				}
				switch {
				case has(3):
					isError(0, api.ErrArg)
					isError(2, api.ErrArg)
				case none:
					isError(2, api.ErrNone)
					isError(3, api.ErrNone)
				}
			}
			answers(t, g, a, zone, what, l)
		}
	}
}

// P11.2, P11.1: all rows of Moves and Skips in one zone, in each zone of new anchors and of others, until no spare is left, and one more: after
// each the slots of all blocks are different and the anchor is valid.
func TestAllRowsOfOneZone(t *testing.T) {
	random := rand.New(rand.NewSource(4))
	for _, g := range some() {
		for _, a := range []api.Anchor{firstAnchor(t, g), anyAnchor(random, g), anyAnchor(random, g)} {
			for zone := range g.Zones {
				rows(t, g, a, zone)
			}
		}
	}
}

// rows makes all rows of Moves and Skips that are possible in a zone from a on.
func rows(t *testing.T, g api.Geometry, a api.Anchor, zone int) {
	t.Helper()
	isSound(t, g, a)
	spares := want(g, a, zone, 0)[1].n
	for _, what := range append(blocks(g), skip) {
		x := act(g, a, zone, what)
		if spares == 0 {
			if !x.isSame(answer{e: api.ErrNone}) {
				t.Fatalf("%+v, %+v: zone %d, %d: %+v, want ErrNone alone", g, a, zone, what, x)
			}
			continue
		}
		if x.e != api.OK || want(g, x.a, zone, 0)[1].n != spares-1 {
			t.Fatalf("%+v, %+v: zone %d, %d: %+v", g, a, zone, what, x)
		}
		answers(t, g, a, zone, what, want(g, a, zone, what))
		rows(t, g, x.a, zone)
	}
}

// P11.2, P11.1: long rows of Moves and Skips, in all zones and with such as there are not among them: after each the slots of all blocks are
// different and the anchor is valid, and the slots that a row of Moves names come one after the other, none of them twice.
func TestLongRows(t *testing.T) {
	random := rand.New(rand.NewSource(5))
	for _, g := range geometries() {
		a := firstAnchor(t, g)
		if random.Intn(2) == 0 {
			a = anyAnchor(random, g)
		}
		last := map[int]int{}
		for range 30 {
			zone, what := random.Intn(g.Zones+2)-1, random.Intn(g.Data+4)-2
			if what > g.Data {
				what = skip
			}
			x := act(g, a, zone, what)
			l := want(g, a, zone, what)
			if what == skip && !x.isSame(l[3]) || what != skip && !x.isSame(l[2]) {
				t.Fatalf("%+v, %+v: zone %d, %d: %+v, want %+v", g, a, zone, what, x, l)
			}
			if x.e != api.OK {
				continue
			}
			if what != skip {
				if addr, e := place.Addr(g, x.a, zone, what); e != api.OK || addr != x.n || addr <= last[zone] {
					t.Fatalf("%+v, %+v: zone %d, %d: moved to %d, and is at %d, %v", g, a, zone, what, x.n, addr, e)
				}
				last[zone] = x.n
			}
			a = x.a
			isSound(t, g, a)
		}
	}
}

// spare returns a copy of l with x behind its length, three times.
func spare[T any](l []T, x T) []T {
	return append(slices.Clone(l), x, x, x)[:len(l)]
}

// roomy is a copy of a in which each list has something behind its length.
func roomy(a api.Anchor, n int) api.Anchor {
	a.Homes = spare(a.Homes, api.Home{Places: []int{n}, Next: n, Root: n})
	for i := range a.Homes {
		a.Homes[i].Places = spare(a.Homes[i].Places, n)
	}
	return a
}

// whole is a copy of a with all memory of its lists, that behind their lengths too.
func whole(a api.Anchor) api.Anchor {
	a.Homes = slices.Clone(a.Homes[:cap(a.Homes)])
	for i := range a.Homes {
		a.Homes[i].Places = slices.Clone(a.Homes[i].Places[:cap(a.Homes[i].Places)])
	}
	return a
}

// fill writes over all memory of the lists of a: n, and the number of the list.
func fill(a api.Anchor, n int) {
	all := a.Homes[:cap(a.Homes)]
	for i := range all {
		places := all[i].Places[:cap(all[i].Places)]
		for k := range places {
			places[k] = n + i
		}
		all[i].Next, all[i].Root = n, n
	}
}

// isFilled tells whether fill has been there last, and each list of a is one of its own.
func isFilled(a api.Anchor, n int) bool {
	for i, home := range a.Homes[:cap(a.Homes)] {
		if home.Next != n || home.Root != n || slices.ContainsFunc(home.Places[:cap(home.Places)], func(place int) bool { return place != n+i }) {
			return false
		}
	}
	return true
}

// cases calls f with what succeeds and with what fails in each way. Behind each length of an anchor is n.
func cases(n int, f func(g api.Geometry, a api.Anchor, zone, what int)) {
	random := rand.New(rand.NewSource(6))
	for _, g := range some() {
		a := anyAnchor(random, g)
		for zone := -1; zone <= g.Zones; zone++ {
			for what := -2; what <= g.Data; what++ {
				f(g, roomy(a, n), zone, what)
			}
		}
		for _, wrong := range wrongAnchors(g, a) {
			f(g, roomy(wrong, n), 0, 0)
		}
		f(api.Geometry{}, roomy(a, n), 0, 0)
	}
}

// P11.1 under R2: what is handed in stays as it was, its spare capacity too, also when all memory of the answers is written to, which they do
// not share with each other either, nor do the lists of one answer.
func TestMemory(t *testing.T) {
	cases(3, func(g api.Geometry, a api.Anchor, zone, what int) {
		was := whole(a)
		once, again := ask(g, a, zone, what), ask(g, a, zone, what)
		l := []api.Anchor{once[2].a, once[3].a, again[2].a, again[3].a}
		if !isSame(whole(a), was) {
			t.Fatalf("%+v: zone %d, %d: %+v has become %+v", g, zone, what, was, whole(a))
		}
		for i, x := range l {
			fill(x, 1000+100*i)
		}
		for i, x := range l {
			if !isFilled(x, 1000+100*i) {
				t.Fatalf("%+v, %+v: zone %d, %d: two answers, or two lists of one, share memory", g, a, zone, what)
			}
		}
		if !isSame(whole(a), was) {
			t.Fatalf("%+v: zone %d, %d: an answer shares memory with %+v, which has become %+v", g, zone, what, was, whole(a))
		}
	})
}

// P11.1 under R2: the answers stay as they were when all memory of what was handed in is written to, its Label too.
func TestMemoryHandedIn(t *testing.T) {
	random := rand.New(rand.NewSource(7))
	for _, g := range some() {
		for zone := range g.Zones {
			for _, what := range blocks(g) {
				a := anyAnchor(random, g)
				a.Label = "disk 1"
				l := want(g, a, zone, what)
				text := []byte(strings.Clone(a.Label))
				a.Label = unsafe.String(&text[0], len(text))
				got := ask(g, a, zone, what)
				copy(text, "changed")
				fill(a, 1000)
				for i := range got {
					if !got[i].isSame(l[i]) {
						t.Fatalf("%+v: %s of zone %d, %d has become %+v, was %+v", g, names()[i], zone, what, got[i], l[i])
					}
				}
			}
		}
	}
}

// P11.1 under R3 and R6: what is behind a length does not matter and is not returned, not even behind the length of an answer, and a call that
// is made again answers the same.
func TestAgain(t *testing.T) {
	var times [][]answer
	for _, n := range []int{3, 3, 0, 255} {
		var l []answer
		cases(n, func(g api.Geometry, a api.Anchor, zone, what int) {
			for _, x := range ask(g, a, zone, what) {
				l = append(l, answer{whole(x.a), x.n, x.e})
			}
		})
		times = append(times, l)
	}
	for i, l := range times {
		if !slices.EqualFunc(l, times[0], answer.isSame) {
			t.Errorf("the answers of the time %d are other ones", i)
		}
	}
}

// P11.1, P11.2: any numbers, any anchor.
func FuzzPlace(f *testing.F) {
	f.Add(2, 3, 1, 14, 2, int64(1), 0, -1, 0, 1)
	f.Add(1, 1, 0, 14, 1, int64(2), 1, 5, 11, math.MaxInt)
	f.Add(4, 4, 2, 30, 3, int64(3), 3, 3, 7, -1)
	f.Add(0, 5, 3, 13, 4, int64(4), math.MinInt, math.MaxInt, 5, math.MinInt)
	f.Fuzz(func(t *testing.T, zones, data, spares, slots, anchors int, seed int64, zone, what, at, n int) {
		near := geo(1+zones&3, 1+data&3, spares&1+spares>>1&1, 14+slots&15, 1+anchors&1)
		a := anyAnchor(rand.New(rand.NewSource(seed)), near)
		isSound(t, near, a)
		answers(t, near, a, zone, what, want(near, a, zone, what))
		answers(t, near, a, zone&3, what, want(near, a, zone&3, what))
		answers(t, near, a, zone&3, what&7-2, want(near, a, zone&3, what&7-2))
		for _, x := range ask(near, a, zone&3, what&7-2) {
			if len(x.a.Homes) > 0 {
				isSound(t, near, x.a)
			}
		}
		home := &a.Homes[zones&3]
		fields := []*int{&a.Gen, &a.Epoch, &a.Pos, &a.Seq, &a.Last, &home.Next, &home.Root}
		for i := range home.Places {
			fields = append(fields, &home.Places[i])
		}
		*fields[at&0xff%len(fields)] = n
		l := allOf(api.ErrArg)
		if anchor.Check(near, a) == api.OK {
			l = want(near, a, zone&3, what)
		}
		answers(t, near, a, zone&3, what, l)
		if g := geo(zones, data, spares, slots, anchors); !slices.Contains(geometries(), g) {
			answers(t, g, a, zone, what, allOf(api.ErrArg))
		}
	})
}
