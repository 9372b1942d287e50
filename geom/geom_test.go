package geom_test

import (
	"math"
	"slices"
	"testing"

	"casemate/api"
	"casemate/geom"
)

// geo is a geometry.
func geo(zones, data, spares, slots, anchors int) api.Geometry {
	return api.Geometry{Zones: zones, Data: data, Spares: spares, Slots: slots, Anchors: anchors}
}

// small is the chapter's example, least and greatest are the smallest and the greatest valid geometry.
var (
	small    = geo(2, 3, 1, 14, 2)
	least    = geo(1, 1, 0, 14, 1)
	greatest = geo(4, 4, 2, 30, 3)
)

// valid are all valid geometries.
func valid() (l []api.Geometry) {
	for zones := 1; zones <= 4; zones++ {
		for data := 1; data <= 4; data++ {
			for spares := 0; spares <= 2; spares++ {
				for slots := 14; slots <= 30; slots++ {
					for anchors := 1; anchors <= 3; anchors++ {
						l = append(l, geo(zones, data, spares, slots, anchors))
					}
				}
			}
		}
	}
	return l
}

// extremes are numbers far out, and such as an address or a count could wrap round with.
func extremes() []int {
	return []int{
		math.MinInt, math.MinInt + 1, math.MinInt / 2, -1 << 32, math.MinInt32, -100,
		100, 1 << 8, 1 << 16, math.MaxInt32, 1 << 32, 1<<32 + 1, math.MaxInt / 7, math.MaxInt / 3, 1 << 61, 1 << 62, math.MaxInt - 1, math.MaxInt,
	}
}

// about are the numbers from -3 to n + 2, and extremes.
func about(n int) []int {
	l := extremes()
	for i := -3; i <= n+2; i++ {
		l = append(l, i)
	}
	return l
}

// The functions.
const (
	fCheck = iota
	fCells
	fBlocks
	fSets
	fAnchor
	fLog
	fTable
	fSlot
	fSet
	fSplit
	functions
)

// names are the functions', for what a test tells.
func names(f int) string {
	return []string{"Check", "Cells", "Blocks", "Sets", "Anchor", "Log", "Table", "Slot", "Set", "Split"}[f]
}

// call is a call of the package with a geometry: its function and its numbers. An x or y that it has no use for is 0.
type call struct{ f, x, y int }

// answer is what a call answers: m is the second number of Split.
type answer struct {
	n, m int
	e    api.Errno
}

// do makes the call c with g.
func (c call) do(g api.Geometry) (r answer) {
	switch c.f {
	case fCheck:
		r.e = geom.Check(g)
	case fCells:
		r.n, r.e = geom.Cells(g)
	case fBlocks:
		r.n, r.e = geom.Blocks(g)
	case fSets:
		r.n, r.e = geom.Sets(g)
	case fAnchor:
		r.n, r.e = geom.Anchor(g, c.x)
	case fLog:
		r.n, r.e = geom.Log(g, c.x, c.y)
	case fTable:
		r.n, r.e = geom.Table(g, c.x, c.y)
	case fSlot:
		r.n, r.e = geom.Slot(g, c.x, c.y)
	case fSet:
		r.n, r.e = geom.Set(g, c.x)
	case fSplit:
		r.n, r.m, r.e = geom.Split(g, c.x)
	}
	return r
}

// answers tells an error unless the call c with g answers want.
func answers(t *testing.T, g api.Geometry, c call, want answer) {
	t.Helper()
	if got := c.do(g); got != want {
		t.Fatalf("%s(%+v) with %d, %d: %+v, want %+v", names(c.f), g, c.x, c.y, got, want)
	}
}

// The document's words, as a second program that is to answer the same. It lists the cells, the sets and the blocks one by one, where
// the package computes.

// cells are those of g in their order, each as the call that asks for its address.
func cells(g api.Geometry) (l []call) {
	for i := range g.Anchors {
		l = append(l, call{fAnchor, i, 0})
	}
	for copy := range 2 {
		for slot := range g.Slots {
			l = append(l, call{fLog, copy, slot})
		}
	}
	for zone := range g.Zones {
		l = append(l, call{fTable, zone, 0}, call{fTable, zone, 1})
	}
	for zone := range g.Zones {
		l = append(l, zoneSlots(g, zone)...)
	}
	return l
}

// zoneSlots are the slots of a zone: one for each block, one for the parity, one for each spare.
func zoneSlots(g api.Geometry, zone int) (l []call) {
	for range g.Data {
		l = append(l, call{fSlot, zone, len(l)})
	}
	l = append(l, call{fSlot, zone, len(l)})
	for range g.Spares {
		l = append(l, call{fSlot, zone, len(l)})
	}
	return l
}

// sets are those of g in their order, each as its cells.
func sets(g api.Geometry) (l [][]call) {
	for zone := range g.Zones {
		l = append(l, zoneSlots(g, zone))
	}
	for slot := range g.Slots {
		l = append(l, []call{{fLog, 0, slot}, {fLog, 1, slot}})
	}
	for zone := range g.Zones {
		l = append(l, []call{{fTable, zone, 0}, {fTable, zone, 1}})
	}
	var anchors []call
	for i := range g.Anchors {
		anchors = append(anchors, call{fAnchor, i, 0})
	}
	return append(l, anchors)
}

// block is where a block is: its zone and its index there.
type block struct{ zone, at int }

// blocks are those of g in the order of their numbers.
func blocks(g api.Geometry) (l []block) {
	for zone := range g.Zones {
		for at := range g.Data {
			l = append(l, block{zone, at})
		}
	}
	return l
}

// isOf tells whether g is valid.
func isOf(g api.Geometry) bool {
	return slices.Contains(valid(), g)
}

// layout is what the second program says of a valid geometry.
type layout struct {
	cells  []call
	sets   [][]call
	blocks []block
	addr   map[call]int // of each cell
	set    map[call]int // of each cell
}

func layoutOf(g api.Geometry) layout {
	l := layout{cells: cells(g), sets: sets(g), blocks: blocks(g), addr: map[call]int{}, set: map[call]int{}}
	for a, c := range l.cells {
		l.addr[c] = a
	}
	for n, set := range l.sets {
		for _, c := range set {
			l.set[c] = n
		}
	}
	return l
}

// want is what the call c with the geometry of l is to answer.
func (l layout) want(c call) answer {
	switch c.f {
	case fCells:
		return answer{n: len(l.cells)}
	case fBlocks:
		return answer{n: len(l.blocks)}
	case fSets:
		return answer{n: len(l.sets)}
	case fAnchor, fLog, fTable, fSlot:
		if a, ok := l.addr[c]; ok {
			return answer{n: a}
		}
		return answer{e: api.ErrArg}
	case fSet:
		if c.x < 0 || c.x >= len(l.cells) {
			return answer{e: api.ErrArg}
		}
		return answer{n: l.set[l.cells[c.x]]}
	case fSplit:
		if c.x < 0 || c.x >= len(l.blocks) {
			return answer{e: api.ErrBadLBA}
		}
		return answer{n: l.blocks[c.x].zone, m: l.blocks[c.x].at}
	}
	return answer{}
}

// calls are of all functions, with numbers that are in range for the geometry of l and such as are not.
func (l layout) calls(g api.Geometry) []call {
	list := []call{{f: fCheck}, {f: fCells}, {f: fBlocks}, {f: fSets}}
	one := func(f int, numbers []int) {
		for _, x := range numbers {
			list = append(list, call{f, x, 0})
		}
	}
	two := func(f int, first, second []int) {
		for _, x := range first {
			for _, y := range second {
				list = append(list, call{f, x, y})
			}
		}
	}
	one(fAnchor, about(g.Anchors))
	two(fLog, about(2), about(g.Slots))
	two(fTable, about(g.Zones), about(2))
	two(fSlot, about(g.Zones), about(g.Data+1+g.Spares))
	one(fSet, about(len(l.cells)))
	one(fSplit, about(len(l.blocks)))
	return list
}

// P7.1: the chapter's example, with all addresses by hand.
func TestExample(t *testing.T) {
	answers(t, small, call{f: fCheck}, answer{})
	answers(t, small, call{f: fCells}, answer{n: 2 + 28 + 4 + 10})
	answers(t, small, call{f: fCells}, answer{n: 44})
	answers(t, small, call{f: fBlocks}, answer{n: 6})
	answers(t, small, call{f: fSets}, answer{n: 2 + 14 + 2 + 1})
	for _, test := range []struct {
		c      call
		a, set int
	}{
		{call{fAnchor, 0, 0}, 0, 18}, {call{fAnchor, 1, 0}, 1, 18},
		{call{fLog, 0, 0}, 2, 2}, {call{fLog, 0, 1}, 3, 3}, {call{fLog, 0, 13}, 15, 15},
		{call{fLog, 1, 0}, 16, 2}, {call{fLog, 1, 1}, 17, 3}, {call{fLog, 1, 13}, 29, 15},
		{call{fTable, 0, 0}, 30, 16}, {call{fTable, 0, 1}, 31, 16}, {call{fTable, 1, 0}, 32, 17}, {call{fTable, 1, 1}, 33, 17},
		{call{fSlot, 0, 0}, 34, 0}, {call{fSlot, 0, 2}, 36, 0}, {call{fSlot, 0, 3}, 37, 0}, {call{fSlot, 0, 4}, 38, 0},
		{call{fSlot, 1, 0}, 39, 1}, {call{fSlot, 1, 2}, 41, 1}, {call{fSlot, 1, 3}, 42, 1}, {call{fSlot, 1, 4}, 43, 1},
	} {
		answers(t, small, test.c, answer{n: test.a})
		answers(t, small, call{fSet, test.a, 0}, answer{n: test.set})
	}
	for lba, want := range []answer{{n: 0, m: 0}, {n: 0, m: 1}, {n: 0, m: 2}, {n: 1, m: 0}, {n: 1, m: 1}, {n: 1, m: 2}} {
		answers(t, small, call{fSplit, lba, 0}, want)
	}
}

// P7.1: the smallest and the greatest valid geometry by hand: the first and the last cell of each part, and one more.
func TestLeastAndGreatest(t *testing.T) {
	wrong := answer{e: api.ErrArg}
	for _, test := range []struct {
		c               call
		least, greatest answer
	}{
		{call{fCheck, 0, 0}, answer{}, answer{}},
		{call{fCells, 0, 0}, answer{n: 33}, answer{n: 99}},
		{call{fBlocks, 0, 0}, answer{n: 1}, answer{n: 16}},
		{call{fSets, 0, 0}, answer{n: 17}, answer{n: 39}},
		{call{fAnchor, 0, 0}, answer{n: 0}, answer{n: 0}}, {call{fAnchor, 2, 0}, wrong, answer{n: 2}}, {call{fAnchor, 3, 0}, wrong, wrong},
		{call{fLog, 0, 0}, answer{n: 1}, answer{n: 3}}, {call{fLog, 0, 13}, answer{n: 14}, answer{n: 16}}, {call{fLog, 0, 14}, wrong, answer{n: 17}},
		{call{fLog, 0, 29}, wrong, answer{n: 32}}, {call{fLog, 0, 30}, wrong, wrong}, {call{fLog, 1, 0}, answer{n: 15}, answer{n: 33}},
		{call{fLog, 1, 13}, answer{n: 28}, answer{n: 46}}, {call{fLog, 1, 29}, wrong, answer{n: 62}}, {call{fLog, 2, 0}, wrong, wrong},
		{call{fTable, 0, 0}, answer{n: 29}, answer{n: 63}}, {call{fTable, 0, 1}, answer{n: 30}, answer{n: 64}}, {call{fTable, 0, 2}, wrong, wrong},
		{call{fTable, 3, 1}, wrong, answer{n: 70}}, {call{fTable, 4, 0}, wrong, wrong},
		{call{fSlot, 0, 0}, answer{n: 31}, answer{n: 71}}, {call{fSlot, 0, 1}, answer{n: 32}, answer{n: 72}}, {call{fSlot, 0, 2}, wrong, answer{n: 73}},
		{call{fSlot, 0, 6}, wrong, answer{n: 77}}, {call{fSlot, 0, 7}, wrong, wrong}, {call{fSlot, 3, 6}, wrong, answer{n: 98}}, {call{fSlot, 4, 0}, wrong, wrong},
		{call{fSet, 0, 0}, answer{n: 16}, answer{n: 38}}, {call{fSet, 1, 0}, answer{n: 1}, answer{n: 38}}, {call{fSet, 3, 0}, answer{n: 3}, answer{n: 4}},
		{call{fSet, 14, 0}, answer{n: 14}, answer{n: 15}}, {call{fSet, 15, 0}, answer{n: 1}, answer{n: 16}}, {call{fSet, 30, 0}, answer{n: 15}, answer{n: 31}},
		{call{fSet, 31, 0}, answer{n: 0}, answer{n: 32}}, {call{fSet, 32, 0}, answer{n: 0}, answer{n: 33}}, {call{fSet, 33, 0}, wrong, answer{n: 4}},
		{call{fSet, 70, 0}, wrong, answer{n: 37}}, {call{fSet, 71, 0}, wrong, answer{n: 0}}, {call{fSet, 98, 0}, wrong, answer{n: 3}}, {call{fSet, 99, 0}, wrong, wrong},
		{call{fSplit, 0, 0}, answer{}, answer{}}, {call{fSplit, 1, 0}, answer{e: api.ErrBadLBA}, answer{m: 1}}, {call{fSplit, 3, 0}, answer{e: api.ErrBadLBA}, answer{m: 3}},
		{call{fSplit, 4, 0}, answer{e: api.ErrBadLBA}, answer{n: 1}}, {call{fSplit, 15, 0}, answer{e: api.ErrBadLBA}, answer{n: 3, m: 3}},
		{call{fSplit, 16, 0}, answer{e: api.ErrBadLBA}, answer{e: api.ErrBadLBA}},
	} {
		answers(t, least, test.c, test.least)
		answers(t, greatest, test.c, test.greatest)
	}
}

// invalid are geometries that would be valid but for one number, which is one beyond a bound or far out. The last one is all wrong.
func invalid() (l []api.Geometry) {
	for _, g := range []api.Geometry{small, least, greatest} {
		for _, each := range []struct {
			number    func(g *api.Geometry) *int
			low, high int
		}{
			{func(g *api.Geometry) *int { return &g.Zones }, 1, 4},
			{func(g *api.Geometry) *int { return &g.Data }, 1, 4},
			{func(g *api.Geometry) *int { return &g.Spares }, 0, 2},
			{func(g *api.Geometry) *int { return &g.Slots }, 14, 30},
			{func(g *api.Geometry) *int { return &g.Anchors }, 1, 3},
		} {
			for _, n := range append(extremes(), each.low-2, each.low-1, each.high+1, each.high+2) {
				wrong := g
				*each.number(&wrong) = n
				l = append(l, wrong)
			}
		}
	}
	return append(l, api.Geometry{}, geo(-1, -1, -1, -1, -1), geo(math.MaxInt, math.MaxInt, math.MaxInt, math.MaxInt, math.MaxInt), geo(math.MinInt, math.MinInt, math.MinInt, math.MinInt, math.MinInt))
}

// P7.1: each of the five numbers by itself at each of its bounds, where the geometry is valid.
func TestValid(t *testing.T) {
	for _, g := range valid() {
		answers(t, g, call{f: fCheck}, answer{})
	}
	for _, g := range []api.Geometry{
		geo(1, 3, 1, 14, 2), geo(4, 3, 1, 14, 2), geo(2, 1, 1, 14, 2), geo(2, 4, 1, 14, 2), geo(2, 3, 0, 14, 2), geo(2, 3, 2, 14, 2),
		geo(2, 3, 1, 14, 2), geo(2, 3, 1, 30, 2), geo(2, 3, 1, 14, 1), geo(2, 3, 1, 14, 3), least, greatest,
	} {
		answers(t, g, call{f: fCheck}, answer{})
	}
}

// P7.1: with a geometry that is not valid each function answers ErrArg and nothing beside it, whether or not its numbers are wrong as
// well, Split too.
func TestNotValid(t *testing.T) {
	asked := []call{{f: fCheck}, {f: fCells}, {f: fBlocks}, {f: fSets}}
	for _, f := range []int{fAnchor, fLog, fTable, fSlot, fSet, fSplit} {
		for _, x := range append(extremes(), -1, 0, 1, 2, 3, 4, 5) {
			asked = append(asked, call{f, x, 0}, call{f, x, 1}, call{f, x, -1}, call{f, x, math.MinInt}, call{f, x, math.MaxInt}, call{f, 0, x})
		}
	}
	for _, g := range invalid() {
		if isOf(g) {
			t.Fatalf("%+v is valid", g)
		}
		for _, c := range asked {
			answers(t, g, c, answer{e: api.ErrArg})
		}
	}
}

// P7.1: all valid geometries, all functions: each cell and block, and numbers out of range. A number that is out of range has no answer
// beside its error, and the same call answers the same again.
func TestAllGeometries(t *testing.T) {
	for _, g := range valid() {
		l := layoutOf(g)
		for _, c := range l.calls(g) {
			answers(t, g, c, l.want(c))
		}
	}
	for _, g := range []api.Geometry{small, least, greatest} {
		l := layoutOf(g)
		for _, c := range l.calls(g) {
			if first, again := c.do(g), c.do(g); first != again {
				t.Fatalf("%s(%+v) with %d, %d: %+v, then %+v", names(c.f), g, c.x, c.y, first, again)
			}
		}
	}
}

// P7.1: one number out of range is enough, whatever the other is.
func TestOutOfRange(t *testing.T) {
	for _, g := range []api.Geometry{small, least, greatest} {
		for _, test := range []struct{ f, first, second int }{{fLog, 2, g.Slots}, {fTable, g.Zones, 2}, {fSlot, g.Zones, g.Data + 1 + g.Spares}} {
			for _, wrong := range append(extremes(), -2, -1) {
				for y := range test.second {
					answers(t, g, call{test.f, wrong, y}, answer{e: api.ErrArg})
				}
				for x := range test.first {
					answers(t, g, call{test.f, x, wrong}, answer{e: api.ErrArg})
				}
				answers(t, g, call{test.f, wrong, wrong}, answer{e: api.ErrArg})
			}
			for y := range test.second {
				answers(t, g, call{test.f, test.first, y}, answer{e: api.ErrArg})
			}
			for x := range test.first {
				answers(t, g, call{test.f, x, test.second}, answer{e: api.ErrArg})
			}
			answers(t, g, call{test.f, test.first, test.second}, answer{e: api.ErrArg})
		}
		for _, wrong := range append(extremes(), -1) {
			answers(t, g, call{fAnchor, wrong, 0}, answer{e: api.ErrArg})
			answers(t, g, call{fSet, wrong, 0}, answer{e: api.ErrArg})
			answers(t, g, call{fSplit, wrong, 0}, answer{e: api.ErrBadLBA})
		}
	}
}

// addressOf is the address that the package tells of the cell c.
func addressOf(t *testing.T, g api.Geometry, c call) int {
	t.Helper()
	r := c.do(g)
	if r.e != api.OK {
		t.Fatalf("%s(%+v) with %d, %d: %+v", names(c.f), g, c.x, c.y, r)
	}
	return r.n
}

// P7.1: the addresses of all parts together are the cells, each told exactly once and none left out, in the chapter's order.
func TestEachCellOnce(t *testing.T) {
	for _, g := range valid() {
		count, e := geom.Cells(g)
		told := make([]int, max(count, 0))
		last := -1
		for _, c := range cells(g) {
			a := addressOf(t, g, c)
			if a < 0 || a >= count || a != last+1 {
				t.Fatalf("%+v: %s of %d, %d is the cell %d of %d, behind %d", g, names(c.f), c.x, c.y, a, count, last)
			}
			told[a]++
			last = a
		}
		if e != api.OK || slices.ContainsFunc(told, func(n int) bool { return n != 1 }) {
			t.Fatalf("%+v: %d cells, told %v, %d", g, count, told, e)
		}
	}
}

// P7.2: each cell belongs to exactly one set, and each set has the cells that protect one another, and no others: those of each group
// that the chapter names are told the same number, those of different groups different ones, from 0 to Sets - 1.
func TestEachCellInOneSet(t *testing.T) {
	for _, g := range valid() {
		count, _ := geom.Cells(g)
		number, _ := geom.Sets(g)
		members := map[int][]int{}
		for a := range count {
			set, e := geom.Set(g, a)
			if e != api.OK || set < 0 || set >= number {
				t.Fatalf("%+v: the set of %d is %d of %d, %d", g, a, set, number, e)
			}
			members[set] = append(members[set], a)
		}
		want := sets(g)
		if number != len(want) || len(members) != len(want) {
			t.Fatalf("%+v: %d sets, %d of them with cells, want %d", g, number, len(members), len(want))
		}
		for n, set := range want {
			var l []int
			for _, c := range set {
				l = append(l, addressOf(t, g, c))
			}
			slices.Sort(l)
			if !slices.Equal(members[n], l) {
				t.Fatalf("%+v: the set %d has the cells %v, want %v", g, n, members[n], l)
			}
		}
	}
}

// P7.1: the blocks of a zone and the next zone's first one, counted through. Each pair of zone and index is told exactly once.
func TestSplit(t *testing.T) {
	for _, g := range valid() {
		zone, at := 0, 0
		for lba := range g.Zones * g.Data {
			answers(t, g, call{fSplit, lba, 0}, answer{n: zone, m: at})
			if at++; at == g.Data {
				zone, at = zone+1, 0
			}
		}
		answers(t, g, call{fSplit, g.Zones * g.Data, 0}, answer{e: api.ErrBadLBA})
		answers(t, g, call{fSplit, -1, 0}, answer{e: api.ErrBadLBA})
	}
}

// P7.1, P7.2: any geometries and any numbers.
func FuzzGeom(f *testing.F) {
	f.Add(2, 3, 1, 14, 2, 1, 4)
	f.Add(1, 1, 0, 14, 1, 0, -1)
	f.Add(4, 4, 2, 30, 3, 98, math.MaxInt)
	f.Add(0, 5, 3, 13, 4, math.MinInt, 0)
	f.Fuzz(func(t *testing.T, zones, data, spares, slots, anchors, x, y int) {
		near := geo(1+zones&3, 1+data&3, spares&1+spares>>1&1, 14+slots&15, 1+anchors&1)
		for _, g := range []api.Geometry{geo(zones, data, spares, slots, anchors), near} {
			ok := isOf(g)
			var l layout
			if ok {
				l = layoutOf(g)
			}
			for f := range functions {
				for _, c := range []call{{f, x, y}, {f, x & 127, y & 31}, {f, x & 3, y & 31}, {f, x & 3, y & 1}} {
					if f != fLog && f != fTable && f != fSlot {
						c.y = 0
					}
					if f < fAnchor {
						c.x = 0
					}
					if ok {
						answers(t, g, c, l.want(c))
					} else {
						answers(t, g, c, answer{e: api.ErrArg})
					}
				}
			}
		}
	})
}
