package table_test

import (
	"bytes"
	"hash/crc32"
	"math"
	"math/rand"
	"slices"
	"testing"

	"casemate/api"
	"casemate/table"
)

// geo is a geometry.
func geo(zones, data, spares, slots, anchors int) api.Geometry {
	return api.Geometry{Zones: zones, Data: data, Spares: spares, Slots: slots, Anchors: anchors}
}

// small is one between, least and greatest are the smallest and the greatest valid geometry.
var (
	small    = geo(2, 3, 1, 14, 2)
	least    = geo(1, 1, 0, 14, 1)
	greatest = geo(4, 4, 2, 30, 3)
)

// some are valid geometries with each number of blocks.
func some() []api.Geometry {
	return []api.Geometry{small, least, greatest, geo(1, 1, 2, 30, 3), geo(3, 2, 0, 20, 1), geo(4, 2, 2, 14, 3), geo(2, 3, 0, 29, 2), geo(1, 4, 0, 14, 1)}
}

// geometries are all valid ones.
func geometries() (l []api.Geometry) {
	for zones := 1; zones <= 4; zones++ {
		for data := 1; data <= 4; data++ {
			for spares := 0; spares <= 2; spares++ {
				for slots := 14; slots <= 30; slots++ {
					for anchors := 1; anchors <= 3; anchors++ {
						l = append(l, geo(zones, data, spares, slots, anchors))
					}
				}
			}
		}
	}
	return l
}

// wrongGeometries are such as are not valid: each number one beyond each of its bounds and far out, and all of them at once.
func wrongGeometries() (l []api.Geometry) {
	l = []api.Geometry{{}, geo(-1, -1, -1, -1, -1)}
	for _, g := range []api.Geometry{small, least, greatest} {
		for _, n := range []int{math.MinInt, -1, math.MaxInt} {
			l = append(l, geo(n, g.Data, g.Spares, g.Slots, g.Anchors), geo(g.Zones, n, g.Spares, g.Slots, g.Anchors), geo(g.Zones, g.Data, n, g.Slots, g.Anchors))
			l = append(l, geo(g.Zones, g.Data, g.Spares, n, g.Anchors), geo(g.Zones, g.Data, g.Spares, g.Slots, n))
		}
		l = append(l, geo(0, g.Data, g.Spares, g.Slots, g.Anchors), geo(5, g.Data, g.Spares, g.Slots, g.Anchors))
		l = append(l, geo(g.Zones, 0, g.Spares, g.Slots, g.Anchors), geo(g.Zones, 5, g.Spares, g.Slots, g.Anchors))
		l = append(l, geo(g.Zones, g.Data, 3, g.Slots, g.Anchors))
		l = append(l, geo(g.Zones, g.Data, g.Spares, 13, g.Anchors), geo(g.Zones, g.Data, g.Spares, 31, g.Anchors))
		l = append(l, geo(g.Zones, g.Data, g.Spares, g.Slots, 0), geo(g.Zones, g.Data, g.Spares, g.Slots, 4))
	}
	return l
}

// goodNumbers are a Stamp or a Sum: the edges, and such as have other bytes in each place.
func goodNumbers() []int {
	return []int{0, 1, 255, 256, 65535, 65536, 1<<31 - 1, 1 << 31, 0x04030201, api.MaxNum - 1, api.MaxNum}
}

// badNumbers are none: beside the edges, far out, and such as share low bits with numbers that are.
func badNumbers() []int {
	return []int{
		-1, -2, -255, -256, math.MinInt32, -1<<32 + 1, -1 << 32, math.MinInt / 2, math.MinInt + 1, math.MinInt,
		api.MaxNum + 1, api.MaxNum + 2, 1 << 33, 1 << 40, 1 << 62, math.MaxInt - 1, math.MaxInt,
	}
}

// The document's words, as a second program that is to answer the same.

// number appends n in 4 bytes: each byte is the remainder by 256 of what is left.
func number(b []byte, n int) []byte {
	for range 4 {
		b = append(b, byte(n%256))
		n /= 256
	}
	return b
}

// wantBytes is the encoding of x, valid or not, as far as its numbers have 4 bytes.
func wantBytes(x api.Table) (b []byte) {
	for _, entry := range x.Entries {
		b = append(number(number(b, entry.Stamp), entry.Sum), 0)
		if entry.Lost {
			b[len(b)-1] = 1
		}
	}
	return b
}

// hasBytes tells whether the numbers of x have 4 bytes.
func hasBytes(x api.Table) bool {
	return !slices.ContainsFunc(x.Entries, func(entry api.Entry) bool {
		return min(entry.Stamp, entry.Sum) < 0 || max(entry.Stamp, entry.Sum) > 0xffffffff
	})
}

// isValid tells whether x is a valid table of the valid geometry g.
func isValid(g api.Geometry, x api.Table) bool {
	return len(x.Entries) == g.Data+1 && hasBytes(x) && !x.Entries[len(x.Entries)-1].Lost
}

// wantRead is the table of which b is the encoding, if there is one: Stamp, Sum and Lost are taken from each nine bytes, and the encoding of
// what there is then has to be b.
func wantRead(g api.Geometry, b []byte) (x api.Table, ok bool) {
	for i := 0; i+9 <= len(b) && i < 9*(g.Data+1); i += 9 {
		var entry api.Entry
		for k := range 4 {
			entry.Stamp += int(b[i+k]) << (8 * k)
			entry.Sum += int(b[i+4+k]) << (8 * k)
		}
		entry.Lost = b[i+8] > 0
		x.Entries = append(x.Entries, entry)
	}
	return x, bytes.Equal(wantBytes(x), b) && isValid(g, x)
}

// wantLost are the indices of the entries that are Lost.
func wantLost(x api.Table) (l []int) {
	for i := range x.Entries {
		if x.Entries[i].Lost {
			l = append(l, i)
		}
	}
	return l
}

// The answers, held against what they are to be.

func isSame(x, y api.Table) bool {
	return slices.Equal(x.Entries, y.Entries)
}

// fails tells an error unless the answer is the error want and nothing beside it.
func fails(t *testing.T, what string, x api.Table, e, want api.Errno) {
	t.Helper()
	if e != want || x.Entries != nil {
		t.Fatalf("%s = %+v, %v, not the error %v alone", what, x, e, want)
	}
}

// refuses tells an error unless Check, Bytes and Lost answer ErrArg of x, and nothing beside it.
func refuses(t *testing.T, g api.Geometry, x api.Table) {
	t.Helper()
	if e := table.Check(g, x); e != api.ErrArg {
		t.Fatalf("Check(%+v, %+v) = %v", g, x, e)
	}
	if b, e := table.Bytes(g, x); e != api.ErrArg || b != nil {
		t.Fatalf("Bytes(%+v, %+v) = % x, %v", g, x, b, e)
	}
	if l, e := table.Lost(g, x); e != api.ErrArg || l != nil {
		t.Fatalf("Lost(%+v, %+v) = %d, %v", g, x, l, e)
	}
}

// isRight tells an error unless Check, Bytes and Lost answer of x that it is valid, or that it is not, and Read of its encoding the same.
func isRight(t *testing.T, g api.Geometry, x api.Table, valid bool) {
	t.Helper()
	if isValid(g, x) != valid {
		t.Fatalf("the test says of %+v and of %+v: valid is %v", g, x, valid)
	}
	want := wantBytes(x)
	if !valid {
		refuses(t, g, x)
		if hasBytes(x) {
			readsNot(t, g, want)
		}
		return
	}
	if e := table.Check(g, x); e != api.OK {
		t.Fatalf("Check(%+v, %+v) = %v", g, x, e)
	}
	if b, e := table.Bytes(g, x); e != api.OK || !bytes.Equal(b, want) || len(b) != 9*(g.Data+1) || len(b) > api.MaxPayload {
		t.Fatalf("Bytes(%+v, %+v) = % x, %v, want % x", g, x, b, e, want)
	}
	if l, e := table.Lost(g, x); e != api.OK || !slices.Equal(l, wantLost(x)) {
		t.Fatalf("Lost(%+v, %+v) = %d, %v, want %d", g, x, l, e, wantLost(x))
	}
	readsAs(t, g, want, x)
}

// readsAs tells an error unless Read of b is the table want.
func readsAs(t *testing.T, g api.Geometry, b []byte, want api.Table) {
	t.Helper()
	if x, e := table.Read(g, b); e != api.OK || !isSame(x, want) {
		t.Fatalf("Read(%+v, % x) = %+v, %v, want %+v", g, b, x, e, want)
	}
}

// readsNot tells an error unless Read of b is ErrBytes and nothing beside it.
func readsNot(t *testing.T, g api.Geometry, b []byte) {
	t.Helper()
	x, e := table.Read(g, b)
	fails(t, "Read", x, e, api.ErrBytes)
}

// reads tells an error unless Read of b answers as the document says, for a valid geometry.
func reads(t *testing.T, g api.Geometry, b []byte) {
	t.Helper()
	if want, ok := wantRead(g, b); ok {
		readsAs(t, g, b, want)
	} else {
		readsNot(t, g, b)
	}
}

// Tables to ask of.

// clone is a copy of x that shares nothing with it.
func clone(x api.Table) api.Table {
	return api.Table{Entries: slices.Clone(x.Entries)}
}

// anyTable returns a valid table of g.
func anyTable(random *rand.Rand, g api.Geometry) (x api.Table) {
	nums := append(goodNumbers(), int(random.Uint32()))
	for i := range g.Data + 1 {
		x.Entries = append(x.Entries, api.Entry{Stamp: nums[random.Intn(len(nums))], Sum: nums[random.Intn(len(nums))], Lost: i < g.Data && random.Intn(2) == 0})
	}
	return x
}

// base is a valid table, with its geometry.
type base struct {
	g api.Geometry
	x api.Table
}

// bases are several for each number of blocks: of zeros, of the greatest numbers, and of any.
func bases() (l []base) {
	random := rand.New(rand.NewSource(1))
	for _, g := range some() {
		l = append(l, base{g, api.Table{Entries: make([]api.Entry, g.Data+1)}})
		l = append(l, base{g, api.Table{Entries: slices.Repeat([]api.Entry{{Stamp: api.MaxNum, Sum: api.MaxNum}}, g.Data+1)}})
		for range 6 {
			l = append(l, base{g, anyTable(random, g)})
		}
	}
	return l
}

// with tells an error unless the table of b in which change has made one change is valid, or is not.
func (b base) with(t *testing.T, valid bool, change func(x *api.Table)) {
	t.Helper()
	x := clone(b.x)
	change(&x)
	isRight(t, b.g, x, valid)
}

// P10.1: the chapter's example, and the encodings of others by hand.
func TestBytesByHand(t *testing.T) {
	for _, test := range []struct {
		g    api.Geometry
		x    api.Table
		want []byte
	}{
		{least, api.Table{Entries: make([]api.Entry, 2)}, make([]byte, 18)},
		{
			geo(3, 1, 2, 15, 3),
			api.Table{Entries: []api.Entry{{Stamp: 0x04030201, Sum: 0x08070605, Lost: true}, {Stamp: 0x0d0c0b0a, Sum: 0x11100f0e}}},
			[]byte{1, 2, 3, 4, 5, 6, 7, 8, 1, 10, 11, 12, 13, 14, 15, 16, 17, 0},
		},
		{
			geo(1, 2, 0, 14, 1),
			api.Table{Entries: []api.Entry{{Stamp: 1<<32 - 1, Sum: 255}, {Stamp: 256, Sum: 65536, Lost: true}, {Stamp: 0, Sum: 1<<32 - 2}}},
			[]byte{255, 255, 255, 255, 255, 0, 0, 0, 0, 0, 1, 0, 0, 0, 0, 1, 0, 1, 0, 0, 0, 0, 254, 255, 255, 255, 0},
		},
		{
			greatest,
			api.Table{Entries: []api.Entry{{Stamp: 1, Sum: 2, Lost: true}, {Stamp: 3, Sum: 4}, {Stamp: 5, Sum: 6, Lost: true}, {Stamp: 7, Sum: 8}, {Stamp: 9, Sum: 10}}},
			[]byte{1, 0, 0, 0, 2, 0, 0, 0, 1, 3, 0, 0, 0, 4, 0, 0, 0, 0, 5, 0, 0, 0, 6, 0, 0, 0, 1, 7, 0, 0, 0, 8, 0, 0, 0, 0, 9, 0, 0, 0, 10, 0, 0, 0, 0},
		},
	} {
		if b, e := table.Bytes(test.g, test.x); e != api.OK || !bytes.Equal(b, test.want) {
			t.Errorf("Bytes(%+v) = % x, %v, want % x", test.x, b, e, test.want)
		}
		readsAs(t, test.g, test.want, test.x)
		isRight(t, test.g, test.x, true)
	}
}

// P10.1: what the other tests set out from is valid.
func TestBases(t *testing.T) {
	for _, b := range bases() {
		b.with(t, true, func(*api.Table) {})
	}
}

// P10.1: a table has Data + 1 Entries.
func TestNumberOfEntries(t *testing.T) {
	for _, b := range bases() {
		for n := range b.g.Data + 1 + 2 + 1 {
			b.with(t, n == b.g.Data+1, func(x *api.Table) { x.Entries = append(x.Entries, make([]api.Entry, 2)...)[:n] })
			b.with(t, n == b.g.Data+1, func(x *api.Table) { x.Entries = make([]api.Entry, n) })
			// Those behind the length do not count.
			b.with(t, n == b.g.Data+1, func(x *api.Table) { x.Entries = make([]api.Entry, n, b.g.Data+1+2) })
		}
		b.with(t, false, func(x *api.Table) { x.Entries = nil })
		b.with(t, false, func(x *api.Table) { x.Entries = []api.Entry{} })
		b.with(t, false, func(x *api.Table) { x.Entries = x.Entries[1:] })
		b.with(t, false, func(x *api.Table) { x.Entries = x.Entries[:b.g.Data] })
		b.with(t, false, func(x *api.Table) { x.Entries = append(x.Entries, api.Entry{}) })
		b.with(t, false, func(x *api.Table) { x.Entries = slices.Repeat(x.Entries, 2) })
		b.with(t, false, func(x *api.Table) { x.Entries = slices.Repeat(x.Entries, 1000) })
		// The number is that of the blocks of a zone, not that of the slots of one.
		if b.g.Spares > 0 {
			b.with(t, false, func(x *api.Table) { x.Entries = append(x.Entries, make([]api.Entry, b.g.Spares)...) })
		}
	}
}

// P10.1: the Stamp and the Sum of each entry, the parity's too, are from 0 to MaxNum.
func TestNumbers(t *testing.T) {
	for _, b := range bases() {
		for i := range b.x.Entries {
			for _, n := range goodNumbers() {
				b.with(t, true, func(x *api.Table) { x.Entries[i].Stamp = n })
				b.with(t, true, func(x *api.Table) { x.Entries[i].Sum = n })
				b.with(t, true, func(x *api.Table) { x.Entries[i].Stamp, x.Entries[i].Sum = n, n })
			}
			for _, n := range badNumbers() {
				b.with(t, false, func(x *api.Table) { x.Entries[i].Stamp = n })
				b.with(t, false, func(x *api.Table) { x.Entries[i].Sum = n })
				b.with(t, false, func(x *api.Table) { x.Entries[i].Stamp, x.Entries[i].Sum = n, n })
			}
		}
	}
}

// P10.1: each block may be Lost, any of them together, but the parity may not. Lost returns which are, in ascending order.
func TestLost(t *testing.T) {
	for _, b := range bases() {
		for which := range 1 << (b.g.Data + 1) {
			valid := which < 1<<b.g.Data
			b.with(t, valid, func(x *api.Table) {
				for i := range x.Entries {
					x.Entries[i].Lost = which>>i&1 == 1
				}
			})
		}
	}
}

// P10.1: Lost by hand.
func TestLostByHand(t *testing.T) {
	for _, test := range []struct {
		g    api.Geometry
		lost []bool
		want []int
	}{
		{least, []bool{false, false}, nil}, {least, []bool{true, false}, []int{0}},
		{small, []bool{false, false, false, false}, nil}, {small, []bool{true, true, true, false}, []int{0, 1, 2}},
		{small, []bool{false, true, false, false}, []int{1}}, {small, []bool{false, false, true, false}, []int{2}}, {small, []bool{true, false, true, false}, []int{0, 2}},
		{greatest, []bool{true, true, true, true, false}, []int{0, 1, 2, 3}}, {greatest, []bool{false, true, false, true, false}, []int{1, 3}}, {greatest, []bool{false, false, false, true, false}, []int{3}},
	} {
		var x api.Table
		for i, lost := range test.lost {
			x.Entries = append(x.Entries, api.Entry{Stamp: 9 - i, Sum: i, Lost: lost})
		}
		if l, e := table.Lost(test.g, x); e != api.OK || !slices.Equal(l, test.want) {
			t.Errorf("Lost(%+v, %v) = %d, %v, want %d", test.g, test.lost, l, e, test.want)
		}
		x.Entries[test.g.Data].Lost = true
		refuses(t, test.g, x)
	}
}

// P10.1: First for each geometry, its Sum by hand and by another program. What it returns is valid.
func TestFirst(t *testing.T) {
	const zeros = 0x8c28b28a
	if crc32.Checksum(make([]byte, 8), crc32.MakeTable(crc32.Castagnoli)) != zeros {
		t.Fatal("the test has a wrong checksum of eight zero bytes")
	}
	for _, g := range geometries() {
		x, e := table.First(g)
		if e != api.OK || !slices.Equal(x.Entries, slices.Repeat([]api.Entry{{Stamp: 0, Sum: zeros, Lost: false}}, g.Data+1)) {
			t.Fatalf("First(%+v) = %+v, %v", g, x, e)
		}
		isRight(t, g, x, true)
	}
	x, e := table.First(least)
	if want := (api.Table{Entries: []api.Entry{{Sum: zeros}, {Sum: zeros}}}); e != api.OK || !isSame(x, want) {
		t.Errorf("%+v, %v", x, e)
	}
	b, e := table.Bytes(least, x)
	if want := []byte{0, 0, 0, 0, 0x8a, 0xb2, 0x28, 0x8c, 0, 0, 0, 0, 0, 0x8a, 0xb2, 0x28, 0x8c, 0}; e != api.OK || !bytes.Equal(b, want) {
		t.Errorf("% x, %v", b, e)
	}
}

// P10.1, R4: with a geometry that is not valid, each function answers ErrArg and nothing beside it, whatever else is wrong or right.
func TestWrongGeometries(t *testing.T) {
	for _, g := range wrongGeometries() {
		x, e := table.First(g)
		fails(t, "First", x, e, api.ErrArg)
		tables := []api.Table{{}, {Entries: []api.Entry{}}, {Entries: []api.Entry{{Stamp: -1, Sum: math.MaxInt, Lost: true}}}, {Entries: make([]api.Entry, 1000)}}
		for _, b := range bases() {
			tables = append(tables, b.x)
		}
		for n := range 8 {
			tables = append(tables, api.Table{Entries: make([]api.Entry, n)})
		}
		for _, x := range tables {
			refuses(t, g, x)
			for _, b := range [][]byte{nil, {}, {1, 2, 3}, wantBytes(x), append(wantBytes(x), 7)} {
				y, e := table.Read(g, b)
				fails(t, "Read", y, e, api.ErrArg)
			}
		}
	}
}

// P10.1, R4: of a valid geometry, a table with several faults at once is ErrArg, and bytes with several are ErrBytes.
func TestSeveralFaults(t *testing.T) {
	for _, g := range some() {
		refuses(t, g, api.Table{Entries: slices.Repeat([]api.Entry{{Stamp: -1, Sum: api.MaxNum + 1, Lost: true}}, g.Data+1)})
		refuses(t, g, api.Table{Entries: slices.Repeat([]api.Entry{{Stamp: math.MaxInt, Sum: math.MinInt, Lost: true}}, g.Data)})
		readsNot(t, g, bytes.Repeat([]byte{255}, 9*(g.Data+1)))
		readsNot(t, g, bytes.Repeat([]byte{255}, 9*(g.Data+1)-1))
		readsNot(t, g, bytes.Repeat([]byte{255}, 9*(g.Data+1)+1))
	}
}

// P10.2: Read returns what Bytes was given: tables of each geometry.
func TestReadReturnsWhatBytesWasGiven(t *testing.T) {
	random := rand.New(rand.NewSource(2))
	for _, g := range geometries() {
		for range 10 {
			x := anyTable(random, g)
			b, e := table.Bytes(g, x)
			if e != api.OK {
				t.Fatalf("Bytes(%+v, %+v): %v", g, x, e)
			}
			readsAs(t, g, b, x)
			isRight(t, g, x, true)
		}
	}
}

// P10.1: an encoding with any number of its bytes cut off, at its end or at its beginning, or with bytes more, is none.
func TestReadOfAnotherLength(t *testing.T) {
	for _, b := range bases() {
		x := wantBytes(b.x)
		readsAs(t, b.g, x, b.x)
		for n := range x {
			readsNot(t, b.g, x[:n])
			readsNot(t, b.g, bytes.Clone(x[:n]))
			if n > 0 {
				readsNot(t, b.g, x[n:])
			}
		}
		for _, more := range [][]byte{{0}, {1}, {255}, {0, 0}, {0, 0, 0, 0}, make([]byte, 8), make([]byte, 9), make([]byte, 10), x, make([]byte, 1<<20)} {
			readsNot(t, b.g, slices.Concat(x, more))
			readsNot(t, b.g, slices.Concat(more, x))
		}
		readsNot(t, b.g, nil)
		readsNot(t, b.g, []byte{})
		readsNot(t, b.g, make([]byte, 0, 99))
	}
}

// P10.1: encodings in which one byte is another, each byte and each other value of it: Lost is 0 or 1, that of the parity is 0.
func TestReadOfAnotherByte(t *testing.T) {
	for _, b := range bases() {
		x := wantBytes(b.x)
		for i, was := range x {
			for c := range 256 {
				x[i] = byte(c)
				reads(t, b.g, x)
				if i%9 == 8 && (c > 1 || c == 1 && i == 9*b.g.Data+8) {
					readsNot(t, b.g, x)
				}
			}
			x[i] = was
		}
	}
}

// P10.1: encodings, written out by hand, of one zone of two blocks: Lost bytes that may be, and that may not.
func TestReadOfLostByHand(t *testing.T) {
	g := geo(1, 2, 1, 14, 1)
	for _, test := range []struct {
		lost [3]byte
		ok   bool
	}{
		{[3]byte{0, 0, 0}, true}, {[3]byte{1, 0, 0}, true}, {[3]byte{0, 1, 0}, true}, {[3]byte{1, 1, 0}, true},
		{[3]byte{0, 0, 1}, false}, {[3]byte{1, 1, 1}, false}, {[3]byte{0, 0, 2}, false}, {[3]byte{0, 0, 255}, false},
		{[3]byte{2, 0, 0}, false}, {[3]byte{255, 0, 0}, false}, {[3]byte{128, 0, 0}, false}, {[3]byte{3, 0, 0}, false},
		{[3]byte{0, 2, 0}, false}, {[3]byte{0, 255, 0}, false}, {[3]byte{1, 129, 0}, false}, {[3]byte{'1', '0', 0}, false},
	} {
		b := []byte{1, 0, 0, 0, 2, 0, 0, 0, test.lost[0], 3, 0, 0, 0, 4, 0, 0, 0, test.lost[1], 5, 0, 0, 0, 6, 0, 0, 0, test.lost[2]}
		if !test.ok {
			readsNot(t, g, b)
			continue
		}
		readsAs(t, g, b, api.Table{Entries: []api.Entry{{Stamp: 1, Sum: 2, Lost: test.lost[0] == 1}, {Stamp: 3, Sum: 4, Lost: test.lost[1] == 1}, {Stamp: 5, Sum: 6}}})
	}
}

// P10.1: a table, and its encoding, of another geometry is one of this geometry only if it has as many blocks in a zone.
func TestAnotherGeometry(t *testing.T) {
	random := rand.New(rand.NewSource(3))
	for _, from := range some() {
		x := anyTable(random, from)
		for _, g := range geometries() {
			isRight(t, g, x, g.Data == from.Data)
			if g.Data == from.Data {
				readsAs(t, g, wantBytes(x), x)
			} else {
				readsNot(t, g, wantBytes(x))
			}
		}
	}
}

// P10.1: bytes of any kind, and tables with several things changed, against the second program.
func TestRandom(t *testing.T) {
	random := rand.New(rand.NewSource(4))
	all := geometries()
	nums := slices.Concat(goodNumbers(), badNumbers())
	for range 100000 {
		g := all[random.Intn(len(all))]
		x := anyTable(random, g)
		b := wantBytes(x)
		for range 1 + random.Intn(3) {
			b[random.Intn(len(b))] = byte(random.Intn(3))
		}
		reads(t, g, b)
		for range random.Intn(3) {
			entry := &x.Entries[random.Intn(g.Data+1)]
			entry.Stamp = nums[random.Intn(len(nums))]
			entry.Lost = random.Intn(2) == 0
		}
		isRight(t, g, x, isValid(g, x))
	}
}

// spare returns a copy of l with x behind its length, three times.
func spare[T any](l []T, x T) []T {
	return append(slices.Clone(l), x, x, x)[:len(l)]
}

// fill writes x over all memory of l.
func fill[T any](l []T, x T) {
	for i := range l[:cap(l)] {
		l[:cap(l)][i] = x
	}
}

// isFilled tells whether fill has been there last.
func isFilled[T comparable](l []T, x T) bool {
	return !slices.ContainsFunc(l[:cap(l)], func(y T) bool { return y != x })
}

// wrote is an entry that fill writes.
func wrote(n int) api.Entry {
	return api.Entry{Stamp: n, Sum: n, Lost: true}
}

// answers is what a call of each function comes to.
type answers struct {
	first, read []api.Entry
	bytes       []byte
	lost        []int
	errors      [5]api.Errno
}

// ask makes each call with these.
func ask(g api.Geometry, x api.Table, b []byte) (a answers) {
	a.errors[0] = table.Check(g, x)
	first, e := table.First(g)
	a.first, a.errors[1] = first.Entries, e
	a.bytes, a.errors[2] = table.Bytes(g, x)
	read, e := table.Read(g, b)
	a.read, a.errors[3] = read.Entries, e
	a.lost, a.errors[4] = table.Lost(g, x)
	return a
}

// whole is a copy of a with all memory of its lists, that behind their lengths too.
func (a answers) whole() answers {
	a.first, a.read = slices.Clone(a.first[:cap(a.first)]), slices.Clone(a.read[:cap(a.read)])
	a.bytes, a.lost = slices.Clone(a.bytes[:cap(a.bytes)]), slices.Clone(a.lost[:cap(a.lost)])
	return a
}

func (a answers) isSame(b answers) bool {
	return slices.Equal(a.first, b.first) && slices.Equal(a.read, b.read) && slices.Equal(a.bytes, b.bytes) && slices.Equal(a.lost, b.lost) && a.errors == b.errors
}

// cases calls f with tables, valid and not, and with bytes, encodings and not. Behind each length is n.
func cases(n int, f func(g api.Geometry, x api.Table, b []byte)) {
	roomy := func(g api.Geometry, x api.Table, b []byte) {
		f(g, api.Table{Entries: spare(x.Entries, wrote(n))}, spare(b, byte(n)))
	}
	for _, b := range bases() {
		x := wantBytes(b.x)
		roomy(b.g, b.x, x)
		roomy(b.g, b.x, x[:len(x)-1])
		wrong := clone(b.x)
		wrong.Entries[b.g.Data].Lost = true
		roomy(b.g, wrong, wantBytes(wrong))
		roomy(b.g, api.Table{Entries: b.x.Entries[:b.g.Data]}, wantBytes(b.x)[:9*b.g.Data])
		roomy(b.g, api.Table{}, nil)
		roomy(api.Geometry{}, b.x, x)
	}
}

// P10.1, P10.2 under R2: what is handed in stays as it was, its spare capacity too, also when all memory of the answers is written to, which
// they do not share with each other either.
func TestMemory(t *testing.T) {
	cases(3, func(g api.Geometry, x api.Table, b []byte) {
		wasX, wasB := slices.Clone(x.Entries[:cap(x.Entries)]), bytes.Clone(b[:cap(b)])
		twice := []answers{ask(g, x, b), ask(g, x, b)}
		for i, a := range twice {
			fill(a.first, wrote(100+i))
			fill(a.read, wrote(200+i))
			fill(a.bytes, byte(100+i))
			fill(a.lost, 100+i)
		}
		for i, a := range twice {
			if !isFilled(a.first, wrote(100+i)) || !isFilled(a.read, wrote(200+i)) || !isFilled(a.bytes, byte(100+i)) || !isFilled(a.lost, 100+i) {
				t.Fatalf("%+v, %+v: two answers share memory", g, x)
			}
		}
		if !slices.Equal(x.Entries[:cap(x.Entries)], wasX) || !bytes.Equal(b[:cap(b)], wasB) {
			t.Fatalf("%+v, % x have become %+v, % x", wasX, wasB, x.Entries[:cap(x.Entries)], b[:cap(b)])
		}
	})
}

// P10.1, P10.2 under R3 and R6: what is behind a length does not matter and is not returned, not even behind the length of an answer, and a
// call that is made again answers the same.
func TestAgain(t *testing.T) {
	var times [][]answers
	for _, n := range []int{3, 3, 0, 255} {
		var l []answers
		cases(n, func(g api.Geometry, x api.Table, b []byte) { l = append(l, ask(g, x, b).whole()) })
		times = append(times, l)
	}
	for i, l := range times {
		if !slices.EqualFunc(l, times[0], answers.isSame) {
			t.Errorf("the answers of the time %d are other ones", i)
		}
	}
}

// P10.1, P10.2: any bytes, any numbers.
func FuzzTable(f *testing.F) {
	f.Add(2, 3, 1, 14, 2, make([]byte, 36), 0, -1, 0, false)
	f.Add(1, 1, 0, 14, 1, make([]byte, 18), 1, 5, math.MaxInt, true)
	f.Add(4, 4, 2, 30, 3, bytes.Repeat([]byte{1}, 45), 2, api.MaxNum, api.MaxNum+1, true)
	f.Add(0, 5, 3, 13, 4, []byte{}, 4, 7, math.MinInt, false)
	f.Fuzz(func(t *testing.T, zones, data, spares, slots, anchors int, b []byte, at, stamp, sum int, lost bool) {
		near := geo(1+zones&3, 1+data&3, spares&1+spares>>1&1, 14+slots&15, 1+anchors&1)
		reads(t, near, b)
		x, ok := wantRead(near, b)
		if !ok {
			x = anyTable(rand.New(rand.NewSource(int64(at))), near)
		}
		isRight(t, near, x, true)
		x.Entries[at&0xff%(near.Data+1)] = api.Entry{Stamp: stamp, Sum: sum, Lost: lost}
		isRight(t, near, x, isValid(near, x))
		if g := geo(zones, data, spares, slots, anchors); !slices.Contains(geometries(), g) {
			y, e := table.Read(g, b)
			fails(t, "Read", y, e, api.ErrArg)
			y, e = table.First(g)
			fails(t, "First", y, e, api.ErrArg)
			refuses(t, g, x)
		}
	})
}
