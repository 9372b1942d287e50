package newest_test

import (
	"bytes"
	"encoding/binary"
	"hash/crc32"
	"math"
	"math/rand"
	"slices"
	"testing"

	"casemate/anchor"
	"casemate/api"
	"casemate/disk"
	"casemate/newest"
	"casemate/seal"
)

// geo is a geometry.
func geo(zones, data, spares, slots, anchors int) api.Geometry {
	return api.Geometry{Zones: zones, Data: data, Spares: spares, Slots: slots, Anchors: anchors}
}

// least and greatest are the smallest and the greatest valid geometry, small and three are some between.
var (
	least    = geo(1, 1, 0, 14, 1)
	small    = geo(2, 1, 2, 14, 2)
	three    = geo(1, 2, 1, 14, 3)
	greatest = geo(4, 4, 2, 30, 3)
)

func someGeometries() []api.Geometry {
	return []api.Geometry{least, small, three, greatest, geo(3, 4, 0, 29, 1), geo(2, 3, 1, 20, 2)}
}

// geometries are all valid ones.
func geometries() (l []api.Geometry) {
	for n := range 4 * 4 * 3 * 17 * 3 {
		l = append(l, geo(1+n%4, 1+n/4%4, n/16%3, 14+n/48%17, 1+n/816))
	}
	return l
}

// wrongGeometries are such as are not valid: each number one beyond each of its bounds and far out.
func wrongGeometries() (l []api.Geometry) {
	for _, base := range []api.Geometry{least, small, three, greatest} {
		change := func(number func(g *api.Geometry) *int, wrong ...int) {
			for _, n := range append(wrong, -1, math.MinInt, math.MaxInt) {
				g := base
				*number(&g) = n
				l = append(l, g)
			}
		}
		change(func(g *api.Geometry) *int { return &g.Zones }, 0, 5)
		change(func(g *api.Geometry) *int { return &g.Data }, 0, 5)
		change(func(g *api.Geometry) *int { return &g.Spares }, 3)
		change(func(g *api.Geometry) *int { return &g.Slots }, 13, 31)
		change(func(g *api.Geometry) *int { return &g.Anchors }, 0, 4)
	}
	return append(l, api.Geometry{})
}

// The document's words, as a second program that is to answer the same.

// sealed is the encoding of a sector. Its checksum is computed by the library of Go in a way of its own.
func sealed(addr, stamp int, payload []byte) []byte {
	b := append([]byte{byte(len(payload))}, payload...)
	b = binary.LittleEndian.AppendUint16(b, uint16(addr))
	b = binary.LittleEndian.AppendUint32(b, uint32(stamp))
	return binary.LittleEndian.AppendUint32(b, crc32.Checksum(b, crc32.MakeTable(crc32.Castagnoli)))
}

// body is the encoding of a, valid or not, as far as its numbers have that many bytes.
func body(a api.Anchor) (b []byte) {
	for _, n := range []int{a.Gen, a.Epoch, a.Seq, a.Last} {
		b = binary.LittleEndian.AppendUint32(b, uint32(n))
	}
	b = append(append(b, byte(a.Pos), byte(len(a.Label))), a.Label...)
	for _, home := range a.Homes {
		for _, place := range home.Places {
			b = append(b, byte(place))
		}
		b = binary.LittleEndian.AppendUint32(append(b, byte(home.Next)), uint32(home.Root))
	}
	return b
}

// cell is what the cell with the address addr has for the anchor a. An anchor cell has its index as its address.
func cell(a api.Anchor, addr int) []byte {
	return sealed(addr, a.Gen, body(a))
}

// wantSays is the anchor that the reading x contains, if it contains one: the one whose cell is all that was read.
func wantSays(g api.Geometry, x api.Got, addr int) (api.Anchor, bool) {
	if x.Err != api.OK || addr < 0 || addr > 65535 || len(x.Bytes) == 0 || len(x.Bytes) <= int(x.Bytes[0]) {
		return api.Anchor{}, false
	}
	a, e := anchor.Read(g, x.Bytes[1:1+int(x.Bytes[0])])
	if e != api.OK || !bytes.Equal(cell(a, addr), x.Bytes) {
		return api.Anchor{}, false
	}
	return a, true
}

// wantPick is what is to be picked from as many readings as there are anchors: the first one behind a sorting by Gen that leaves equals in order.
func wantPick(g api.Geometry, l []api.Got) (a api.Anchor, at int, e api.Errno) {
	type found struct {
		a  api.Anchor
		at int
	}
	var all []found
	for i, x := range l {
		if a, ok := wantSays(g, x, i); ok {
			all = append(all, found{a, i})
		}
	}
	if len(all) == 0 {
		return api.Anchor{}, 0, api.ErrNoAnchor
	}
	slices.SortStableFunc(all, func(x, y found) int { return y.a.Gen - x.a.Gen })
	return all[0].a, all[0].at, api.OK
}

// The answers, held against what they are to be.

// isSame tells whether two anchors are the same. Nil and empty mean the same.
func isSame(a, b api.Anchor) bool {
	if a.Gen != b.Gen || a.Epoch != b.Epoch || a.Pos != b.Pos || a.Seq != b.Seq || a.Last != b.Last || a.Label != b.Label {
		return false
	}
	return slices.EqualFunc(a.Homes, b.Homes, func(a, b api.Home) bool {
		return slices.Equal(a.Places, b.Places) && a.Next == b.Next && a.Root == b.Root
	})
}

// says tells an error unless the reading x contains want.
func says(t *testing.T, g api.Geometry, x api.Got, addr int, want api.Anchor) {
	t.Helper()
	if a, ok := newest.Says(g, x, addr); !ok || !isSame(a, want) {
		t.Fatalf("Says(%+v, %v, % x, %d) = %+v, %v, want %+v", g, int(x.Err), x.Bytes, addr, a, ok, want)
	}
}

// saysNot tells an error unless the reading x contains nothing, and nothing stands beside false.
func saysNot(t *testing.T, g api.Geometry, x api.Got, addr int) {
	t.Helper()
	if a, ok := newest.Says(g, x, addr); ok || !isSame(a, api.Anchor{}) {
		t.Fatalf("Says(%+v, %v, % x, %d) = %+v, %v, want nothing", g, int(x.Err), x.Bytes, addr, a, ok)
	}
}

// picks tells an error unless the anchor want is picked, that of the index at.
func picks(t *testing.T, g api.Geometry, l []api.Got, want api.Anchor, at int) {
	t.Helper()
	if a, i, e := newest.Pick(g, l); e != api.OK || i != at || !isSame(a, want) {
		t.Fatalf("Pick(%+v, %v) = %+v, %d, %v, want %+v, %d", g, l, a, i, e, want, at)
	}
}

// picksNot tells an error unless Pick returns the error want and nothing beside it.
func picksNot(t *testing.T, g api.Geometry, l []api.Got, want api.Errno) {
	t.Helper()
	if a, at, e := newest.Pick(g, l); e != want || at != 0 || !isSame(a, api.Anchor{}) {
		t.Fatalf("Pick(%+v, %d readings) = %+v, %d, %v, not the error %v alone", g, len(l), a, at, e, want)
	}
}

// isRight tells an error unless Pick answers as the document says, of readings of all anchor cells.
func isRight(t *testing.T, g api.Geometry, l []api.Got) {
	t.Helper()
	if a, at, e := wantPick(g, l); e != api.OK {
		picksNot(t, g, l, e)
	} else {
		picks(t, g, l, a, at)
	}
}

// makesNot tells an error unless Cell returns ErrArg and nothing beside it.
func makesNot(t *testing.T, g api.Geometry, a api.Anchor, i int) {
	t.Helper()
	if b, e := newest.Cell(g, a, i); b != nil || e != api.ErrArg {
		t.Fatalf("Cell(%+v, %+v, %d) = % x, %v, want ErrArg alone", g, a, i, b, e)
	}
}

// made is the reading of a cell that Cell has made, which has to be right.
func made(t *testing.T, g api.Geometry, a api.Anchor, i int) api.Got {
	t.Helper()
	b, e := newest.Cell(g, a, i)
	if e != api.OK || !bytes.Equal(b, cell(a, i)) {
		t.Fatalf("Cell(%+v, %+v, %d) = % x, %v, want % x", g, a, i, b, e, cell(a, i))
	}
	return api.Got{Bytes: b}
}

// Anchors and readings to ask of.

// nums are numbers from 0 to MaxNum, the edges of signed and of shorter numbers among them, in ascending order.
var nums = []int{0, 1, 255, 256, 65535, 65536, 1<<31 - 1, 1 << 31, api.MaxNum - 1, api.MaxNum}

// anyAnchor returns a valid anchor of g with this Gen.
func anyAnchor(random *rand.Rand, g api.Geometry, gen int) api.Anchor {
	num := func() int { return nums[random.Intn(len(nums))] }
	label := []string{"", "v", "né", "disk 1", "😀😀😀😀😀😀"}[random.Intn(5)]
	a := api.Anchor{Gen: gen, Epoch: num(), Pos: random.Intn(g.Slots), Seq: max(num(), 1), Label: label}
	a.Last = max(num(), a.Seq-1)
	for range g.Zones {
		places := random.Perm(g.Data + 1 + g.Spares)[:g.Data+1]
		a.Homes = append(a.Homes, api.Home{Places: places, Next: max(g.Data+1, slices.Max(places)+1), Root: num()})
	}
	return a
}

// readingErrors are all that a reading may have, and numbers that are none.
func readingErrors() (l []api.Errno) {
	for e := api.ErrArg; e <= api.ErrCrash; e++ {
		l = append(l, e)
	}
	return append(l, -1, -256, 24, 256, 1<<32, math.MinInt, math.MaxInt)
}

// others are numbers from 0 to most that are not n: those next to it, such as share bytes with it, and any.
func others(random *rand.Rand, n, most int) (l []int) {
	near := []int{n - 1, n + 1, n ^ 1, n ^ 0x80, n ^ 0x100, n ^ 0x8000, most - n, n&0xff<<8 | n>>8&0xff, n & 0xff, n >> 8, 0, 1, 2, most, most - 1, random.Intn(most + 1), n ^ 1<<31}
	for _, other := range near {
		if other != n && other >= 0 && other <= most {
			l = append(l, other)
		}
	}
	return l
}

// wrongBodies are encodings of nothing, though they are near to that of a.
func wrongBodies(g api.Geometry, a api.Anchor) (l [][]byte) {
	good := body(a)
	for n := range good {
		l = append(l, good[:n])
	}
	l = append(l, good[1:], slices.Concat(good, []byte{0}), slices.Concat([]byte{0}, good), slices.Concat(good, good)[:min(2*len(good), api.MaxPayload)])
	change := func(f func(a *api.Anchor)) {
		wrong := a
		wrong.Homes = slices.Clone(a.Homes)
		f(&wrong)
		l = append(l, body(wrong))
	}
	last := g.Zones - 1
	change(func(a *api.Anchor) { a.Pos = g.Slots })
	change(func(a *api.Anchor) { a.Seq, a.Last = 0, 0 })
	change(func(a *api.Anchor) { a.Seq, a.Last = 7, 5 })
	change(func(a *api.Anchor) { a.Label = "\n" })
	change(func(a *api.Anchor) { a.Homes = a.Homes[:last] })
	change(func(a *api.Anchor) { a.Homes = append(a.Homes, a.Homes[0]) })
	change(func(a *api.Anchor) { a.Homes[last].Next = g.Data + 2 + g.Spares })
	change(func(a *api.Anchor) { a.Homes[last].Next = g.Data })
	change(func(a *api.Anchor) { a.Homes[last].Places = make([]int, g.Data+1) })
	return slices.DeleteFunc(l, func(b []byte) bool { return len(b) > api.MaxPayload })
}

// withErrors are readings with an error, with the bytes b beside it and without.
func withErrors(b []byte) (l []api.Got) {
	for _, e := range readingErrors() {
		l = append(l, api.Got{Err: e, Bytes: bytes.Clone(b)}, api.Got{Err: e}, api.Got{Err: e, Bytes: []byte{}})
	}
	return l
}

// cut are readings of b with bytes too few or too many, and of none.
func cut(b []byte) (l []api.Got) {
	l = append(l, api.Got{}, api.Got{Bytes: []byte{}}, api.Got{Bytes: make([]byte, len(b))}, api.Got{Bytes: make([]byte, 1<<20)})
	for n := range b {
		l = append(l, api.Got{Bytes: bytes.Clone(b[:n])}, api.Got{Bytes: bytes.Clone(b[n+1:])})
	}
	for _, x := range []byte{0, 1, 255} {
		l = append(l, api.Got{Bytes: slices.Concat(b, []byte{x})}, api.Got{Bytes: slices.Concat([]byte{x}, b)})
	}
	return append(l, api.Got{Bytes: slices.Concat(b, b)}, api.Got{Bytes: slices.Concat(b, make([]byte, 200))})
}

// flipped are readings of b with 1 to 32 bits inverted that lie side by side, from each of its bits on, or that a random pattern names.
func flipped(random *rand.Rand, b []byte) (l []api.Got) {
	for bit := range 8 * len(b) {
		for _, bits := range []int{1, 3, 1<<(1+random.Intn(32)) - 1, math.MaxUint32, int(random.Uint32())} {
			l = append(l, api.Got{Bytes: seal.Flip(b, bit, bits)})
		}
	}
	return l
}

// spoilt are readings of the cell with the address addr that contain no anchor, though all but one thing of each is right for a.
func spoilt(random *rand.Rand, g api.Geometry, a api.Anchor, addr int) []api.Got {
	good := cell(a, addr)
	l := slices.Concat(withErrors(good), cut(good), flipped(random, good))
	for _, other := range others(random, addr, 65535) {
		l = append(l, api.Got{Bytes: sealed(other, a.Gen, body(a))})
	}
	for _, other := range others(random, a.Gen, api.MaxNum) {
		l = append(l, api.Got{Bytes: sealed(addr, other, body(a))})
	}
	for _, wrong := range wrongBodies(g, a) {
		l = append(l, api.Got{Bytes: sealed(addr, a.Gen, wrong)})
	}
	return l
}

// aSpoilt is one of them.
func aSpoilt(random *rand.Rand, g api.Geometry, a api.Anchor, addr int) api.Got {
	l := spoilt(random, g, a, addr)
	return l[random.Intn(len(l))]
}

// P9.1: cells by hand, of the first anchor of a volume and of another one. The checksums were computed bit by bit beside the project.
func TestByHand(t *testing.T) {
	for _, test := range []struct {
		g api.Geometry
		a api.Anchor
		i int
		b []byte
	}{
		{
			least,
			api.Anchor{Gen: 1, Seq: 1, Homes: []api.Home{{Places: []int{0, 1}, Next: 2}}},
			0,
			[]byte{25, 1, 0, 0, 0, 0, 0, 0, 0, 1, 0, 0, 0, 0, 0, 0, 0, 0, 0, 0, 1, 2, 0, 0, 0, 0, 0, 0, 1, 0, 0, 0, 0x25, 0xf6, 0xfb, 0x41},
		},
		{
			small,
			api.Anchor{
				Gen: 0x01020304, Epoch: 5, Pos: 13, Seq: 7, Last: api.MaxNum, Label: "né",
				Homes: []api.Home{{Places: []int{0, 1}, Next: 2, Root: 6}, {Places: []int{3, 0}, Next: 4, Root: 1 << 31}},
			},
			1,
			[]byte{
				35, 4, 3, 2, 1, 5, 0, 0, 0, 7, 0, 0, 0, 255, 255, 255, 255, 13, 3, 'n', 0xc3, 0xa9, 0, 1, 2, 6, 0, 0, 0, 3, 0, 4, 0, 0, 0, 128,
				1, 0, 4, 3, 2, 1, 0x01, 0xf1, 0xc0, 0xb3,
			},
		},
	} {
		b, e := newest.Cell(test.g, test.a, test.i)
		if e != api.OK || !bytes.Equal(b, test.b) {
			t.Fatalf("Cell(%+v, %+v, %d) = % x, %v, want % x", test.g, test.a, test.i, b, e, test.b)
		}
		says(t, test.g, api.Got{Bytes: test.b}, test.i, test.a)
	}
}

// P9.1: the chapter's example, with the newer one in each cell of two.
func TestExample(t *testing.T) {
	random := rand.New(rand.NewSource(1))
	four, five := anyAnchor(random, small, 4), anyAnchor(random, small, 5)
	picks(t, small, []api.Got{made(t, small, four, 0), made(t, small, five, 1)}, five, 1)
	picks(t, small, []api.Got{made(t, small, five, 0), made(t, small, four, 1)}, five, 0)
}

// P9.1: Cell for each index of each valid geometry, with each Gen; what it made is said at the cell's address and picked from it.
func TestCell(t *testing.T) {
	random := rand.New(rand.NewSource(2))
	for _, g := range geometries() {
		for i := range g.Anchors {
			a := anyAnchor(random, g, nums[random.Intn(len(nums))])
			l := make([]api.Got, g.Anchors)
			l[i] = made(t, g, a, i)
			says(t, g, l[i], i, a)
			picks(t, g, l, a, i)
		}
	}
	for _, gen := range nums {
		a := anyAnchor(random, greatest, gen)
		says(t, greatest, made(t, greatest, a, 2), 2, a)
	}
}

// P9.1: Cell with an index that is none, with an anchor that is not valid, and with both, and with a geometry that is not valid.
func TestCellErrors(t *testing.T) {
	random := rand.New(rand.NewSource(3))
	for _, g := range someGeometries() {
		a := anyAnchor(random, g, 3)
		wrongIndexes := []int{-1, -2, -g.Anchors, g.Anchors, g.Anchors + 1, 255, 256, 65536, 1 << 32, -1 << 32, math.MinInt, math.MaxInt}
		for _, i := range wrongIndexes {
			makesNot(t, g, a, i)
		}
		for _, wrong := range wrongAnchors(g, a) {
			for i := range g.Anchors {
				makesNot(t, g, wrong, i)
			}
			for _, i := range wrongIndexes {
				makesNot(t, g, wrong, i)
			}
		}
		for _, wrong := range wrongGeometries() {
			for _, i := range []int{0, -1, 3, 4, math.MaxInt} {
				makesNot(t, wrong, a, i)
				makesNot(t, wrong, api.Anchor{}, i)
			}
		}
	}
}

// wrongAnchors are near to a, and not valid.
func wrongAnchors(g api.Geometry, a api.Anchor) (l []api.Anchor) {
	change := func(f func(a *api.Anchor)) {
		wrong := a
		wrong.Homes = slices.Clone(a.Homes)
		f(&wrong)
		l = append(l, wrong)
	}
	for _, n := range []int{-1, math.MinInt, api.MaxNum + 1, math.MaxInt} {
		change(func(a *api.Anchor) { a.Gen = n })
		change(func(a *api.Anchor) { a.Epoch = n })
		change(func(a *api.Anchor) { a.Homes[0].Root = n })
	}
	change(func(a *api.Anchor) { a.Pos = g.Slots })
	change(func(a *api.Anchor) { a.Pos = -1 })
	change(func(a *api.Anchor) { a.Seq = 0 })
	change(func(a *api.Anchor) { a.Seq, a.Last = 9, 7 })
	change(func(a *api.Anchor) { a.Label = "seven r" })
	change(func(a *api.Anchor) { a.Homes = nil })
	change(func(a *api.Anchor) { a.Homes[0].Places = nil })
	change(func(a *api.Anchor) { a.Homes[0].Next = g.Data })
	return append(l, api.Anchor{})
}

// P9.1: what Cell made contains the anchor at its address and at no other one, below 0 and beyond 65535 among them.
func TestSaysAtEachAddress(t *testing.T) {
	random := rand.New(rand.NewSource(4))
	for _, g := range []api.Geometry{least, three, greatest} {
		for i := range g.Anchors {
			a := anyAnchor(random, g, nums[i])
			x := made(t, g, a, i)
			for addr := range 65537 {
				if addr != i {
					saysNot(t, g, x, addr)
				}
			}
			for _, addr := range farAddresses(i) {
				saysNot(t, g, x, addr)
			}
			says(t, g, x, i, a)
		}
	}
}

// P9.1: a sector with any address contains the anchor in the cell with that address; the ends, 0 and 65535, are not next to each other.
func TestSaysOfEachAddress(t *testing.T) {
	random := rand.New(rand.NewSource(5))
	for addr := range 65536 {
		g := someGeometries()[addr%6]
		a := anyAnchor(random, g, nums[random.Intn(len(nums))])
		x := api.Got{Bytes: cell(a, addr)}
		says(t, g, x, addr, a)
		for _, other := range append(farAddresses(addr), addr-1, addr+1, 65535-addr, addr&0xff, addr>>8) {
			if other != addr {
				saysNot(t, g, x, other)
			}
		}
	}
}

// farAddresses are none of a disk: below 0, one more than 65535, far out, and such as a conversion could make addr of.
func farAddresses(addr int) []int {
	return []int{
		-1, -2, -65535, -65536, -1 << 31, -1 << 32, math.MinInt, math.MinInt + 1, 65536, 65537, 1 << 31, 1 << 32, math.MaxInt - 1, math.MaxInt,
		addr + 65536, addr - 65536, addr + 1<<31, addr + 1<<32, addr - 1<<32, math.MinInt + addr, -1 - addr,
	}
}

// P9.1: a reading with an error contains nothing, whatever bytes are beside it.
func TestSaysOfErrors(t *testing.T) {
	random := rand.New(rand.NewSource(6))
	for _, g := range someGeometries() {
		a := anyAnchor(random, g, 7)
		for _, x := range withErrors(cell(a, 0)) {
			saysNot(t, g, x, 0)
		}
		says(t, g, api.Got{Err: api.OK, Bytes: cell(a, 0)}, 0, a)
	}
}

// P9.1: bytes that are no sector contain nothing: too few, too many, or some of their bits inverted.
func TestSaysOfNoSector(t *testing.T) {
	random := rand.New(rand.NewSource(7))
	for _, g := range someGeometries() {
		for _, gen := range nums {
			b := cell(anyAnchor(random, g, gen), 0)
			for _, x := range slices.Concat(cut(b), flipped(random, b)) {
				saysNot(t, g, x, 0)
			}
		}
	}
	a := anyAnchor(random, small, 6)
	b := cell(a, 1)
	for bit := range 8 * len(b) {
		for length := range 32 {
			saysNot(t, small, api.Got{Bytes: seal.Flip(b, bit, 1<<(length+1)-1)}, 1)
		}
	}
	says(t, small, api.Got{Bytes: b}, 1, a)
}

// P9.1: the Stamp of the sector is the Gen of the anchor, and no other number of it.
func TestSaysOfStamps(t *testing.T) {
	random := rand.New(rand.NewSource(8))
	for _, g := range someGeometries() {
		for _, gen := range append(nums, 2, 5, 6, 7, 0x01020304) {
			a := anyAnchor(random, g, gen)
			a.Seq, a.Last, a.Epoch = 4, 8, 9
			says(t, g, api.Got{Bytes: sealed(0, gen, body(a))}, 0, a)
			for _, stamp := range append(others(random, gen, api.MaxNum), 4, 8, 9) {
				if stamp != gen {
					saysNot(t, g, api.Got{Bytes: sealed(0, stamp, body(a))}, 0)
				}
			}
		}
	}
}

// P9.1: a Payload that is no anchor's encoding: with a byte more or less, cut anywhere, and that of anchors that are not valid.
func TestSaysOfNoAnchor(t *testing.T) {
	random := rand.New(rand.NewSource(9))
	for _, g := range someGeometries() {
		for _, gen := range nums {
			a := anyAnchor(random, g, gen)
			for _, payload := range wrongBodies(g, a) {
				saysNot(t, g, api.Got{Bytes: sealed(0, gen, payload)}, 0)
			}
		}
		for n := range api.MaxPayload + 1 {
			saysNot(t, g, api.Got{Bytes: sealed(0, 0, make([]byte, n))}, 0)
		}
	}
}

// P9.1: an anchor of another geometry: with other numbers of zones or blocks there is none; with other numbers of spares, of slots and of
// anchors there is one as far as Next and Pos fit.
func TestSaysOfOtherGeometries(t *testing.T) {
	a := api.Anchor{Gen: 2, Pos: 14, Seq: 1, Label: "v", Homes: []api.Home{{Places: []int{0, 1, 3}, Next: 4}}}
	x := made(t, geo(1, 2, 1, 15, 3), a, 1)
	for _, g := range []api.Geometry{geo(1, 2, 1, 15, 3), geo(1, 2, 2, 15, 3), geo(1, 2, 1, 16, 3), geo(1, 2, 1, 30, 3), geo(1, 2, 1, 15, 2), geo(1, 2, 1, 15, 1)} {
		says(t, g, x, 1, a)
	}
	for _, g := range []api.Geometry{geo(2, 2, 1, 15, 3), geo(1, 1, 1, 15, 3), geo(1, 3, 1, 15, 3), geo(1, 2, 0, 15, 3), geo(1, 2, 1, 14, 3)} {
		saysNot(t, g, x, 1)
		picksNot(t, g, []api.Got{{}, x, {}}, api.ErrNoAnchor)
	}
	random := rand.New(rand.NewSource(10))
	all := geometries()
	for range 20000 {
		g, other := all[random.Intn(len(all))], all[random.Intn(len(all))]
		x := api.Got{Bytes: cell(anyAnchor(random, other, 3), 0)}
		if want, ok := wantSays(g, x, 0); ok {
			says(t, g, x, 0, want)
		} else {
			saysNot(t, g, x, 0)
		}
		if g.Zones != other.Zones || g.Data != other.Data {
			saysNot(t, g, x, 0)
		}
	}
}

// P9.1: with a geometry that is not valid, no reading contains anything, and Pick answers ErrArg ahead of all other errors.
func TestWrongGeometries(t *testing.T) {
	random := rand.New(rand.NewSource(11))
	for _, g := range wrongGeometries() {
		for _, base := range someGeometries() {
			a := anyAnchor(random, base, 3)
			x := made(t, base, a, 0)
			saysNot(t, g, x, 0)
			saysNot(t, g, x, -1)
			saysNot(t, g, api.Got{Err: api.ErrRead}, 0)
			for n := range 6 {
				picksNot(t, g, slices.Repeat([]api.Got{x}, n), api.ErrArg)
				picksNot(t, g, make([]api.Got, n), api.ErrArg)
			}
			picksNot(t, g, nil, api.ErrArg)
		}
	}
}

// P9.1: readings too few and too many, none and nil among them, with anchors and without; ErrLen comes before ErrNoAnchor.
func TestPickOfAnotherLength(t *testing.T) {
	random := rand.New(rand.NewSource(12))
	for _, g := range someGeometries() {
		var full []api.Got
		for i := range 8 {
			full = append(full, api.Got{Bytes: cell(anyAnchor(random, g, i), i)})
		}
		for n := range 9 {
			if n == g.Anchors {
				picks(t, g, full[:n:n], mustSay(t, g, full[n-1], n-1), n-1)
				picksNot(t, g, make([]api.Got, n), api.ErrNoAnchor)
				continue
			}
			picksNot(t, g, slices.Clone(full[:n]), api.ErrLen)
			picksNot(t, g, full[:n], api.ErrLen)
			picksNot(t, g, make([]api.Got, n), api.ErrLen)
			picksNot(t, g, slices.Repeat([]api.Got{{Err: api.ErrRead}}, n), api.ErrLen)
		}
		picksNot(t, g, nil, api.ErrLen)
		picksNot(t, g, []api.Got{}, api.ErrLen)
		picksNot(t, g, make([]api.Got, 1<<16), api.ErrLen)
	}
}

// mustSay is the anchor that the second program says x contains.
func mustSay(t *testing.T, g api.Geometry, x api.Got, addr int) api.Anchor {
	t.Helper()
	a, ok := wantSays(g, x, addr)
	if !ok {
		t.Fatalf("the test says that % x contains no anchor", x.Bytes)
	}
	return a
}

// P9.1: the order of Gens by hand: rising, falling, all alike, the greatest one first, in the midst and last, and several with the same.
func TestPickByHand(t *testing.T) {
	random := rand.New(rand.NewSource(13))
	for _, g := range []api.Geometry{three, greatest} {
		for _, test := range []struct {
			gens [3]int
			at   int
		}{
			{[3]int{1, 2, 3}, 2}, {[3]int{3, 2, 1}, 0}, {[3]int{2, 3, 1}, 1}, {[3]int{1, 3, 2}, 1}, {[3]int{2, 1, 3}, 2}, {[3]int{3, 1, 2}, 0},
			{[3]int{5, 5, 5}, 0}, {[3]int{5, 5, 4}, 0}, {[3]int{5, 4, 5}, 0}, {[3]int{4, 5, 5}, 1}, {[3]int{4, 4, 5}, 2}, {[3]int{4, 5, 4}, 1}, {[3]int{5, 4, 4}, 0},
			{[3]int{0, 0, 0}, 0}, {[3]int{0, 0, 1}, 2}, {[3]int{0, 1, 0}, 1}, {[3]int{0, 1, 1}, 1},
			{[3]int{api.MaxNum - 1, api.MaxNum, 0}, 1}, {[3]int{api.MaxNum, api.MaxNum, api.MaxNum}, 0}, {[3]int{1<<31 - 1, 1 << 31, 1 << 31}, 1}, {[3]int{255, 256, 1}, 1},
		} {
			var l []api.Got
			var all []api.Anchor
			for i, gen := range test.gens {
				a := anyAnchor(random, g, gen)
				a.Epoch = 100 + i
				all, l = append(all, a), append(l, made(t, g, a, i))
			}
			picks(t, g, l, all[test.at], test.at)
		}
	}
}

// P9.1: each choice of a Gen, or of a cell that is spoilt, for each of the anchors, against the second program.
func TestPickOfEachGen(t *testing.T) {
	random := rand.New(rand.NewSource(14))
	for _, g := range []api.Geometry{least, small, three, greatest} {
		count := 1
		for range g.Anchors {
			count *= len(nums) + 1
		}
		var bad [][]api.Got
		for i := range g.Anchors {
			bad = append(bad, spoilt(random, g, anyAnchor(random, g, api.MaxNum), i))
		}
		for n := range count {
			l := make([]api.Got, g.Anchors)
			for i := range l {
				if k := n % (len(nums) + 1); k < len(nums) {
					l[i] = api.Got{Bytes: cell(anyAnchor(random, g, nums[k]), i)}
				} else {
					l[i] = bad[i][random.Intn(len(bad[i]))]
				}
				n /= len(nums) + 1
			}
			isRight(t, g, l)
		}
	}
}

// P9.1: each of the readings in turn spoilt, all of them but one, and all of them, in each way.
func TestPickOfSpoilt(t *testing.T) {
	random := rand.New(rand.NewSource(15))
	for _, g := range []api.Geometry{least, small, three} {
		var good []api.Got
		var all []api.Anchor
		var bad [][]api.Got
		for i := range g.Anchors {
			a := anyAnchor(random, g, 9)
			a.Epoch = 100 + i
			all, good = append(all, a), append(good, made(t, g, a, i))
			bad = append(bad, spoilt(random, g, a, i))
		}
		for i := range g.Anchors {
			// If the first one is spoilt, the second one is picked, as its Gen is the same.
			for k := range bad[i] {
				rest := slices.Clone(good)
				rest[i] = bad[i][k]
				if first := slices.IndexFunc(all, func(a api.Anchor) bool { return a.Epoch != 100+i }); first >= 0 {
					picks(t, g, rest, all[first], first)
				}
				var alone []api.Got
				for other := range g.Anchors {
					alone = append(alone, bad[other][(k+other)%len(bad[other])])
				}
				picksNot(t, g, alone, api.ErrNoAnchor)
				alone[i] = good[i]
				picks(t, g, alone, all[i], i)
			}
		}
	}
}

// P9.1: the greatest Gen does not matter where its reading contains no anchor.
func TestPickOfSpoiltGreatest(t *testing.T) {
	random := rand.New(rand.NewSource(16))
	first, last := anyAnchor(random, three, 0), anyAnchor(random, three, 8)
	for at := range 3 {
		rest := slices.Delete([]int{0, 1, 2}, at, at+1)
		for _, x := range spoilt(random, three, anyAnchor(random, three, api.MaxNum), at) {
			l := make([]api.Got, 3)
			l[at], l[rest[0]], l[rest[1]] = x, api.Got{Bytes: cell(first, rest[0])}, api.Got{Bytes: cell(last, rest[1])}
			picks(t, three, l, last, rest[1])
		}
	}
}

// P9.1: cells that have been exchanged contain no anchor, as each has the address of the other.
func TestPickOfExchanged(t *testing.T) {
	random := rand.New(rand.NewSource(17))
	a := anyAnchor(random, three, 5)
	x, y, z := made(t, three, a, 0), made(t, three, a, 1), made(t, three, a, 2)
	picks(t, three, []api.Got{x, y, z}, a, 0)
	picks(t, three, []api.Got{y, x, z}, a, 2)
	picks(t, three, []api.Got{z, y, x}, a, 1)
	picks(t, three, []api.Got{x, z, y}, a, 0)
	picksNot(t, three, []api.Got{y, z, x}, api.ErrNoAnchor)
	picksNot(t, three, []api.Got{z, x, y}, api.ErrNoAnchor)
}

// P9.1: random bytes of Payloads behind right checksums, and of whole readings, against the second program.
func TestRandom(t *testing.T) {
	random := rand.New(rand.NewSource(18))
	all := geometries()
	for range 50000 {
		g := all[random.Intn(len(all))]
		l := make([]api.Got, g.Anchors)
		for i := range l {
			a := anyAnchor(random, g, random.Intn(3))
			payload := body(a)
			for range random.Intn(3) {
				payload[random.Intn(len(payload))] = byte(random.Intn(9))
			}
			l[i].Bytes = sealed(max(0, i+random.Intn(9)/8), max(0, a.Gen+random.Intn(9)/8), payload)
			if random.Intn(9) == 0 {
				l[i].Bytes[random.Intn(len(l[i].Bytes))] = byte(random.Intn(9))
			}
		}
		isRight(t, g, l)
	}
}

// work ends the test unless e is OK.
func work(t *testing.T, d api.Disk, e api.Errno) api.Disk {
	t.Helper()
	if e != api.OK {
		t.Fatalf("the disk answers %v", e)
	}
	return d
}

// diskWith is a disk on which the anchors l were written to all anchor cells, the first one first, and flushed.
func diskWith(t *testing.T, g api.Geometry, l ...api.Anchor) api.Disk {
	t.Helper()
	d, e := disk.New(20)
	work(t, d, e)
	for _, a := range l {
		d, e = disk.Flush(written(t, g, d, a))
		work(t, d, e)
	}
	return d
}

// written is d with a written to all anchor cells, not flushed.
func written(t *testing.T, g api.Geometry, d api.Disk, a api.Anchor) api.Disk {
	t.Helper()
	for i := range g.Anchors {
		b, e := newest.Cell(g, a, i)
		if e != api.OK {
			t.Fatalf("Cell(%+v, %+v, %d): %v", g, a, i, e)
		}
		d, e = disk.Write(d, i, b)
		work(t, d, e)
	}
	return d
}

// readings are those of all anchor cells of d.
func readings(g api.Geometry, d api.Disk) (l []api.Got) {
	for i := range g.Anchors {
		var x api.Got
		d, x.Bytes, x.Err = disk.Read(d, i)
		l = append(l, x)
	}
	return l
}

// damaged is d with a fault of this kind in the cell at.
func damaged(t *testing.T, random *rand.Rand, d api.Disk, kind, at int) api.Disk {
	t.Helper()
	from := (at + 1 + random.Intn(len(d.Cells)-1)) % len(d.Cells)
	if random.Intn(2) == 0 {
		from = (at + 1) % 3
	}
	d, e := disk.Fault(d, kind, at, from, random.Intn(2000), int(random.Uint32()))
	return work(t, d, e)
}

// firstIntact is the index of the first reading that is what was written for a, -1 if there is none.
func firstIntact(l []api.Got, a api.Anchor) int {
	for i, x := range l {
		if x.Err == api.OK && bytes.Equal(x.Bytes, cell(a, i)) {
			return i
		}
	}
	return -1
}

// P9.2: what was written to all anchor cells is picked as long as one of them is intact: each of them in turn alone, each two and all, with
// faults of each kind in the others, over older anchors and over none.
func TestPickOfDamagedDisk(t *testing.T) {
	random := rand.New(rand.NewSource(19))
	kinds := []int{api.StepLatent, api.StepSticky, api.StepFlip, api.StepStale, api.StepMove}
	for _, g := range []api.Geometry{least, small, three, greatest} {
		for _, gen := range nums[1:] {
			older, a := anyAnchor(random, g, gen-1), anyAnchor(random, g, gen)
			for _, sound := range []api.Disk{diskWith(t, g, a), diskWith(t, g, older, a)} {
				for intact := 1; intact < 1<<g.Anchors; intact++ {
					for choice := range 25 {
						d := sound
						for at := range g.Anchors {
							if intact>>at&1 == 0 {
								d = damaged(t, random, d, kinds[choice%5], at)
								choice /= 5
							}
						}
						// One that a fault has moved away may have been moved back, so that more of them are intact.
						l := readings(g, d)
						picks(t, g, l, a, firstIntact(l, a))
					}
				}
			}
		}
	}
}

// P9.1, P9.2: if the disk is cut off while a newer anchor is written, the newer one is picked as soon as one cell has it, and else the older
// one; and nothing is picked of a disk to which no anchor was written, or on which none is intact.
func TestPickOfDiskThatWasCutOff(t *testing.T) {
	random := rand.New(rand.NewSource(20))
	for _, g := range someGeometries() {
		older, a := anyAnchor(random, g, 254), anyAnchor(random, g, 255)
		for keep := range 1 << g.Anchors {
			d, e := disk.Crash(written(t, g, diskWith(t, g, older), a), keep)
			l := readings(g, work(t, d, e))
			if keep == 0 {
				picks(t, g, l, older, 0)
			} else {
				picks(t, g, l, a, firstIntact(l, a))
			}
		}
		picksNot(t, g, readings(g, diskWith(t, g)), api.ErrNoAnchor)
		for _, kind := range []int{api.StepLatent, api.StepSticky, api.StepFlip, api.StepStale} {
			d := diskWith(t, g, a)
			for at := range g.Anchors {
				d = damaged(t, random, d, kind, at)
			}
			picksNot(t, g, readings(g, d), api.ErrNoAnchor)
		}
	}
}

// spare returns a copy of l with x behind its length, three times.
func spare[T any](l []T, x T) []T {
	return append(slices.Clone(l), x, x, x)[:len(l)]
}

// whole is a copy of l with all memory behind its length too.
func whole[T any](l []T) []T {
	return slices.Clone(l[:cap(l)])
}

// wholeAnchor is a copy of a with all memory of its lists.
func wholeAnchor(a api.Anchor) api.Anchor {
	a.Homes = whole(a.Homes)
	for i := range a.Homes {
		a.Homes[i].Places = whole(a.Homes[i].Places)
	}
	return a
}

// wholeReadings is a copy of l with all memory of its lists.
func wholeReadings(l []api.Got) []api.Got {
	l = whole(l)
	for i := range l {
		l[i].Bytes = whole(l[i].Bytes)
	}
	return l
}

// fill writes n over all memory of the lists of a.
func fill(a api.Anchor, n int) {
	homes := a.Homes[:cap(a.Homes)]
	for i := range homes {
		homes[i].Next, homes[i].Root = n, n
		places := homes[i].Places[:cap(homes[i].Places)]
		for k := range places {
			places[k] = n + i
		}
	}
}

// isFilled tells whether fill has been there last, and no two lists of a share memory.
func isFilled(a api.Anchor, n int) bool {
	for i, home := range a.Homes[:cap(a.Homes)] {
		if home.Next != n || home.Root != n || slices.ContainsFunc(home.Places[:cap(home.Places)], func(place int) bool { return place != n+i }) {
			return false
		}
	}
	return true
}

// calls makes each call twice with these, and returns the anchors, the byte strings and the numbers of the answers.
func calls(g api.Geometry, l []api.Got, a api.Anchor, i int) (anchors []api.Anchor, texts [][]byte, numbers []int) {
	for range 2 {
		picked, at, e := newest.Pick(g, l)
		anchors, numbers = append(anchors, picked), append(numbers, at, int(e))
		for addr, x := range l {
			said, ok := newest.Says(g, x, addr)
			anchors = append(anchors, said)
			if ok {
				numbers = append(numbers, addr)
			}
		}
		b, e := newest.Cell(g, a, i)
		texts, numbers = append(texts, b), append(numbers, int(e))
	}
	return anchors, texts, numbers
}

// cases calls f with readings, anchors and indexes, right and wrong. Behind each length is n, or a newer anchor's reading.
func cases(n int, f func(g api.Geometry, l []api.Got, a api.Anchor, i int)) {
	random := rand.New(rand.NewSource(21))
	for _, g := range append(someGeometries(), geo(0, 1, 0, 14, 1)) {
		base := g
		base.Zones = max(g.Zones, 1)
		var l []api.Got
		for i := range g.Anchors {
			l = append(l, api.Got{Bytes: spare(cell(anyAnchor(random, base, 5+i), i), byte(n))})
		}
		l = spare(l, api.Got{Err: api.Errno(n % 2), Bytes: cell(anyAnchor(random, base, 100+n), g.Anchors)})
		a := anyAnchor(random, base, 6)
		a.Homes = spare(a.Homes, api.Home{Places: []int{n}, Next: n, Root: n})
		for k := range a.Homes {
			a.Homes[k].Places = spare(a.Homes[k].Places, n)
		}
		f(g, l, a, g.Anchors-1)
		f(g, l, a, g.Anchors)
		f(g, l[:g.Anchors-1], a, 0)
		wrong := a
		wrong.Pos = 30
		f(g, spare(make([]api.Got, g.Anchors), api.Got{Err: api.Errno(n)}), wrong, 0)
		// What has been cut off stands behind the length.
		short := slices.Clone(l)
		for k := range short {
			short[k].Bytes = short[k].Bytes[:len(short[k].Bytes)-1]
		}
		f(g, short, a, 0)
	}
}

// P9.1 under R2: what is handed in stays as it was, its spare capacity too, also when all memory of the answers is written to, which they do
// not share with each other either, nor do the lists of one answer.
func TestMemory(t *testing.T) {
	cases(3, func(g api.Geometry, l []api.Got, a api.Anchor, i int) {
		wasReadings, wasAnchor := wholeReadings(l), wholeAnchor(a)
		anchors, texts, _ := calls(g, l, a, i)
		for k, x := range anchors {
			fill(x, 1000*(k+1))
		}
		for k, b := range texts {
			for at := range b[:cap(b)] {
				b[:cap(b)][at] = byte(100 + k)
			}
		}
		for k, x := range anchors {
			if !isFilled(x, 1000*(k+1)) {
				t.Fatalf("%+v: two answers share memory, or two lists of one", g)
			}
		}
		for k, b := range texts {
			if slices.ContainsFunc(b[:cap(b)], func(c byte) bool { return c != byte(100+k) }) {
				t.Fatalf("%+v: two answers share memory", g)
			}
		}
		isSameReading := func(x, y api.Got) bool { return x.Err == y.Err && bytes.Equal(x.Bytes, y.Bytes) }
		if !slices.EqualFunc(wholeReadings(l), wasReadings, isSameReading) || !isSame(wholeAnchor(a), wasAnchor) {
			t.Fatalf("%+v: %v, %+v have become %v, %+v", g, wasReadings, wasAnchor, wholeReadings(l), wholeAnchor(a))
		}
	})
}

// P9.1 under R2: the Label of an answer does not share memory with the readings.
func TestMemoryOfLabels(t *testing.T) {
	a := anyAnchor(rand.New(rand.NewSource(22)), least, 5)
	a.Label = "né"
	x := made(t, least, a, 0)
	said, _ := newest.Says(least, x, 0)
	picked, _, _ := newest.Pick(least, []api.Got{x})
	clear(x.Bytes)
	if !isSame(said, a) || !isSame(picked, a) {
		t.Errorf("Says has %+v, Pick has %+v, after what was handed in has changed", said, picked)
	}
}

// P9.1 under R3 and R6: what is behind a length does not matter and is not returned, not even behind the length of an answer, and a call
// that is made again answers the same.
func TestAgain(t *testing.T) {
	var answers [][]api.Anchor
	var encodings [][][]byte
	var codes [][]int
	for _, n := range []int{3, 3, 0, 254} {
		var anchors []api.Anchor
		var texts [][]byte
		var numbers []int
		cases(n, func(g api.Geometry, l []api.Got, a api.Anchor, i int) {
			x, y, z := calls(g, l, a, i)
			for k := range x {
				x[k] = wholeAnchor(x[k])
			}
			for k := range y {
				y[k] = whole(y[k])
			}
			anchors, texts, numbers = append(anchors, x...), append(texts, y...), append(numbers, z...)
		})
		answers, encodings, codes = append(answers, anchors), append(encodings, texts), append(codes, numbers)
	}
	for i := range answers {
		if !slices.EqualFunc(answers[i], answers[0], isSame) || !slices.EqualFunc(encodings[i], encodings[0], bytes.Equal) || !slices.Equal(codes[i], codes[0]) {
			t.Errorf("the answers of the time %d are other ones", i)
		}
	}
}

// P9.1: any reading, alone and with others, any bytes as a Payload behind a right checksum, any address, any geometry, any index.
func FuzzNewest(f *testing.F) {
	first := api.Anchor{Gen: 1, Seq: 1, Homes: []api.Home{{Places: []int{0, 1}, Next: 2}}}
	f.Add(1, 1, 0, 14, 1, cell(first, 0), 0, 0, 1)
	f.Add(1, 1, 0, 15, 2, body(first), 0, 1, 1)
	f.Add(4, 4, 2, 30, 3, []byte{}, 6, 65536, api.MaxNum)
	f.Add(0, 5, 3, 13, 4, []byte{25, 1}, math.MinInt, math.MinInt, math.MaxInt)
	f.Fuzz(func(t *testing.T, zones, data, spares, slots, anchors int, b []byte, err, addr, n int) {
		near := geo(1+zones&3, 1+data&3, spares&1+spares>>1&1, 14+slots&15, 1+anchors&1)
		at := addr & 0xffff
		payload := b[:min(len(b), api.MaxPayload)]
		for _, x := range []api.Got{{Err: api.Errno(err), Bytes: b}, {Bytes: b}, {Bytes: sealed(at, n, payload)}} {
			for _, address := range []int{addr, at, at & 1} {
				if want, ok := wantSays(near, x, address); ok {
					says(t, near, x, address, want)
				} else {
					saysNot(t, near, x, address)
				}
			}
			other := api.Got{Bytes: cell(anyAnchor(rand.New(rand.NewSource(int64(n))), near, err&api.MaxNum), near.Anchors-1)}
			isRight(t, near, []api.Got{x, other}[2-near.Anchors:])
			isRight(t, near, []api.Got{other, x}[2-near.Anchors:])
			if g := geo(zones, data, spares, slots, anchors); !slices.Contains(geometries(), g) {
				saysNot(t, g, x, at)
				picksNot(t, g, []api.Got{x, other}, api.ErrArg)
				makesNot(t, g, api.Anchor{}, n)
			}
		}
		a := anyAnchor(rand.New(rand.NewSource(int64(addr))), near, n&api.MaxNum)
		if n < 0 || n >= near.Anchors {
			makesNot(t, near, a, n)
		}
		made(t, near, a, addr&0xff%near.Anchors)
	})
}
