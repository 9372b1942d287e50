package entry_test

import (
	"bytes"
	"encoding/binary"
	"hash/crc32"
	"math"
	"math/rand"
	"slices"
	"testing"

	"casemate/api"
	"casemate/disk"
	"casemate/entry"
	"casemate/geom"
	"casemate/seal"
	"casemate/table"
)

// geo is a geometry.
func geo(zones, data, spares, slots, anchors int) api.Geometry {
	return api.Geometry{Zones: zones, Data: data, Spares: spares, Slots: slots, Anchors: anchors}
}

// least and greatest are the smallest and the greatest valid geometry, small and three are some between.
var (
	least    = geo(1, 1, 0, 14, 1)
	small    = geo(2, 3, 1, 14, 2)
	three    = geo(3, 2, 2, 20, 3)
	greatest = geo(4, 4, 2, 30, 3)
)

func someGeometries() []api.Geometry {
	return []api.Geometry{least, small, three, greatest}
}

// geometries are all valid ones.
func geometries() (l []api.Geometry) {
	for n := range 4 * 4 * 3 * 17 * 3 {
		l = append(l, geo(1+n%4, 1+n/4%4, n/16%3, 14+n/48%17, 1+n/816))
	}
	return l
}

// wrongGeometries are such as are not valid: each number one beyond each of its bounds and far out, and all of them at once.
func wrongGeometries() (l []api.Geometry) {
	for _, base := range someGeometries() {
		change := func(number func(g *api.Geometry) *int, wrong ...int) {
			for _, n := range append(wrong, -1, math.MinInt, math.MaxInt) {
				g := base
				*number(&g) = n
				l = append(l, g)
			}
		}
		change(func(g *api.Geometry) *int { return &g.Zones }, 0, 5)
		change(func(g *api.Geometry) *int { return &g.Data }, 0, 5)
		change(func(g *api.Geometry) *int { return &g.Spares }, 3)
		change(func(g *api.Geometry) *int { return &g.Slots }, 13, 31)
		change(func(g *api.Geometry) *int { return &g.Anchors }, 0, 4)
	}
	return append(l, api.Geometry{}, geo(-1, -1, -1, -1, -1), geo(5, 5, 3, 31, 4))
}

// The document's words, as a second program that is to answer the same.

// crc is the checksum of b, which the library of Go computes in a way of its own.
func crc(b []byte) int {
	return int(crc32.Checksum(b, crc32.MakeTable(crc32.Castagnoli)))
}

// closed is b followed by its checksum.
func closed(b []byte) []byte {
	return binary.LittleEndian.AppendUint32(bytes.Clone(b), uint32(crc(b)))
}

// sealed is the encoding of a sector, of which addr has 2 bytes and stamp has 4.
func sealed(addr, stamp int, payload []byte) []byte {
	b := append([]byte{byte(len(payload))}, payload...)
	b = binary.LittleEndian.AppendUint16(b, uint16(addr))
	return closed(binary.LittleEndian.AppendUint32(b, uint32(stamp)))
}

// isSector tells whether the reading x has no error and is the encoding of the sector with these.
func isSector(x api.Got, addr, stamp int, payload []byte) bool {
	isNumbers := addr >= 0 && addr <= 65535 && stamp >= 0 && stamp <= 1<<32-1
	return x.Err == api.OK && isNumbers && bytes.Equal(x.Bytes, sealed(addr, stamp, payload))
}

// wantBlock is what Block is to answer: behind the length byte of a block's sector are the 8 bytes of the block.
func wantBlock(x api.Got, addr int, in api.Entry) ([]byte, bool) {
	if len(x.Bytes) != 8+11 || !isSector(x, addr, in.Stamp, x.Bytes[1:9]) || crc(x.Bytes[1:9]) != in.Sum {
		return nil, false
	}
	return x.Bytes[1:9], true
}

// tableBytes is the encoding of x, valid or not, as far as its numbers have 4 bytes.
func tableBytes(x api.Table) (b []byte) {
	for _, in := range x.Entries {
		b = binary.LittleEndian.AppendUint32(b, uint32(in.Stamp))
		b = append(binary.LittleEndian.AppendUint32(b, uint32(in.Sum)), 0)
		if in.Lost {
			b[len(b)-1] = 1
		}
	}
	return b
}

// wantTable is what Table is to answer, of a valid geometry: behind the length byte of a table's sector are 9 bytes for each entry.
func wantTable(g api.Geometry, x api.Got, addr, root int) (y api.Table, ok bool) {
	size := 9 * (g.Data + 1)
	if len(x.Bytes) != size+11 || !isSector(x, addr, root, x.Bytes[1:1+size]) {
		return api.Table{}, false
	}
	for row := range slices.Chunk(x.Bytes[1:1+size], 9) {
		if row[8] > 1 || row[8] == 1 && len(y.Entries) == g.Data {
			return api.Table{}, false
		}
		stamp, sum := binary.LittleEndian.Uint32(row), binary.LittleEndian.Uint32(row[4:])
		y.Entries = append(y.Entries, api.Entry{Stamp: int(stamp), Sum: int(sum), Lost: row[8] == 1})
	}
	return y, true
}

// The answers, held against what they are to be.

// isSame tells whether two tables are the same. Nil and empty mean the same.
func isSame(x, y api.Table) bool {
	return slices.Equal(x.Entries, y.Entries)
}

// blockIs tells an error unless Block answers the block want and true.
func blockIs(t *testing.T, x api.Got, addr int, in api.Entry, want []byte) {
	t.Helper()
	if b, ok := entry.Block(x, addr, in); !ok || !bytes.Equal(b, want) {
		t.Fatalf("Block(%d, % x, %d, %+v) = % x, %v, want % x", int(x.Err), x.Bytes, addr, in, b, ok, want)
	}
}

// blockIsNot tells an error unless Block answers false, and nothing beside it.
func blockIsNot(t *testing.T, x api.Got, addr int, in api.Entry) {
	t.Helper()
	if b, ok := entry.Block(x, addr, in); ok || b != nil {
		t.Fatalf("Block(%d, % x, %d, %+v) = % x, %v, want false alone", int(x.Err), x.Bytes, addr, in, b, ok)
	}
}

// isRightBlock tells an error unless Block answers as the second program does, whether the entry is Lost or not.
func isRightBlock(t *testing.T, x api.Got, addr int, in api.Entry) {
	t.Helper()
	for _, in.Lost = range []bool{false, true} {
		if want, ok := wantBlock(x, addr, in); ok {
			blockIs(t, x, addr, in, want)
		} else {
			blockIsNot(t, x, addr, in)
		}
	}
}

// tableIs tells an error unless Table answers the table want and true.
func tableIs(t *testing.T, g api.Geometry, x api.Got, addr, root int, want api.Table) {
	t.Helper()
	if y, ok := entry.Table(g, x, addr, root); !ok || !isSame(y, want) {
		t.Fatalf("Table(%+v, %d, % x, %d, %d) = %+v, %v, want %+v", g, int(x.Err), x.Bytes, addr, root, y, ok, want)
	}
}

// tableIsNot tells an error unless Table answers false, and nothing beside it.
func tableIsNot(t *testing.T, g api.Geometry, x api.Got, addr, root int) {
	t.Helper()
	if y, ok := entry.Table(g, x, addr, root); ok || y.Entries != nil {
		t.Fatalf("Table(%+v, %d, % x, %d, %d) = %+v, %v, want false alone", g, int(x.Err), x.Bytes, addr, root, y, ok)
	}
}

// isRightTable tells an error unless Table answers as the second program does, of a valid geometry.
func isRightTable(t *testing.T, g api.Geometry, x api.Got, addr, root int) {
	t.Helper()
	if want, ok := wantTable(g, x, addr, root); ok {
		tableIs(t, g, x, addr, root, want)
	} else {
		tableIsNot(t, g, x, addr, root)
	}
}

// made is the entry that Make has made of a block with this stamp, which has to be right.
func made(t *testing.T, stamp int, b []byte) api.Entry {
	t.Helper()
	in, e := entry.Make(stamp, b)
	if want := (api.Entry{Stamp: stamp, Sum: crc(b)}); e != api.OK || in != want {
		t.Fatalf("Make(%d, % x) = %+v, %v, want %+v", stamp, b, in, e, want)
	}
	return in
}

// makesNot tells an error unless Make returns the error want and nothing beside it.
func makesNot(t *testing.T, stamp int, b []byte, want api.Errno) {
	t.Helper()
	if in, e := entry.Make(stamp, b); e != want || in != (api.Entry{}) {
		t.Fatalf("Make(%d, %d bytes) = %+v, %v, not the error %v alone", stamp, len(b), in, e, want)
	}
}

// sample is a sector as it was written, of a block or of a table.
type sample struct {
	addr, stamp int
	payload     []byte
	isTable     bool
	// g is the geometry of a table.
	g api.Geometry
}

func (s sample) bytes() []byte {
	return sealed(s.addr, s.stamp, s.payload)
}

func (s sample) reading() api.Got {
	return api.Got{Bytes: s.bytes()}
}

// entry is that of a block.
func (s sample) entry() api.Entry {
	return api.Entry{Stamp: s.stamp, Sum: crc(s.payload)}
}

// accepts tells an error unless the reading x is accepted, with these in place of the address and the stamp of the sample, and is what was
// written. It makes no difference to a block whether its entry is Lost.
func (s sample) accepts(t *testing.T, x api.Got, addr, stamp int) {
	t.Helper()
	if s.isTable {
		want, ok := wantTable(s.g, s.reading(), s.addr, s.stamp)
		if !ok {
			t.Fatalf("the test says of %+v that it is no table", s)
		}
		tableIs(t, s.g, x, addr, stamp, want)
		return
	}
	for _, lost := range []bool{false, true} {
		blockIs(t, x, addr, api.Entry{Stamp: stamp, Sum: s.entry().Sum, Lost: lost}, s.payload)
	}
}

// refuses tells an error unless the reading x is not accepted, with these in place of the address and the stamp of the sample.
func (s sample) refuses(t *testing.T, x api.Got, addr, stamp int) {
	t.Helper()
	if s.isTable {
		tableIsNot(t, s.g, x, addr, stamp)
		return
	}
	for _, lost := range []bool{false, true} {
		blockIsNot(t, x, addr, api.Entry{Stamp: stamp, Sum: s.entry().Sum, Lost: lost})
	}
}

// Sectors to ask of.

// nums are stamps and checksums, the edges of signed and of shorter numbers among them, in ascending order.
var nums = []int{0, 1, 2, 255, 256, 65535, 65536, 0x04030201, 1<<31 - 1, 1 << 31, api.MaxNum - 1, api.MaxNum}

// addrs are addresses, the edges of signed and of shorter numbers among them, in ascending order.
var addrs = []int{0, 1, 29, 50, 255, 256, 0x0201, 32767, 32768, 65534, 65535}

// badNumbers are no stamps, no checksums and no addresses: below nought, far out, and such as share low bits with numbers that are.
func badNumbers() []int {
	return []int{
		-1, -2, -255, -256, -65535, -65536, math.MinInt32, -1<<32 + 1, -1 << 32, math.MinInt / 2, math.MinInt + 1, math.MinInt,
		api.MaxNum + 1, api.MaxNum + 2, 1 << 33, 1 << 40, 1 << 62, math.MaxInt - 1, math.MaxInt,
	}
}

// others are numbers from 0 to most that are not n: those next to it, such as share bytes with it, and any.
func others(random *rand.Rand, n, most int) (l []int) {
	near := []int{n - 1, n + 1, n ^ 1, n ^ 0x80, n ^ 0x100, n ^ 0x8000, most - n, n&0xff<<8 | n>>8&0xff, n & 0xff, n >> 8, 0, 1, 2, most, most - 1, random.Intn(most + 1), n ^ 1<<31}
	for _, other := range near {
		if other != n && other >= 0 && other <= most {
			l = append(l, other)
		}
	}
	return l
}

// far are numbers below nought and beyond MaxNum, such as a conversion could make n of among them.
func far(n int) (l []int) {
	l = append(l, badNumbers()...)
	for _, wrap := range []int{1 << 32, 1 << 33, -1 << 32, -1 << 33, math.MinInt} {
		l = append(l, n+wrap)
	}
	return append(l, -1-n)
}

// blocks are of zero bytes, of the greatest ones, of such as tell their order, and of any.
func blocks(random *rand.Rand) [][]byte {
	b := make([]byte, 8)
	random.Read(b)
	return [][]byte{make([]byte, 8), bytes.Repeat([]byte{255}, 8), {1, 2, 3, 4, 5, 6, 7, 8}, []byte("8 bytes."), {0, 0, 0, 0, 0, 0, 0, 1}, {8, 0, 0, 0, 0, 0, 0, 0}, b}
}

// anyBlock is any of all blocks.
func anyBlock(random *rand.Rand) []byte {
	b := make([]byte, 8)
	random.Read(b)
	return b
}

// anyTable returns a valid table of g.
func anyTable(random *rand.Rand, g api.Geometry) (x api.Table) {
	num := func() int { return nums[random.Intn(len(nums))] }
	for i := range g.Data + 1 {
		x.Entries = append(x.Entries, api.Entry{Stamp: num(), Sum: num(), Lost: i < g.Data && random.Intn(2) == 0})
	}
	return x
}

// tables are of zeros, of the greatest numbers, and of any.
func tables(random *rand.Rand, g api.Geometry) []api.Table {
	zeros := api.Table{Entries: make([]api.Entry, g.Data+1)}
	ends := api.Table{Entries: slices.Repeat([]api.Entry{{Stamp: api.MaxNum, Sum: api.MaxNum, Lost: true}}, g.Data+1)}
	ends.Entries[g.Data].Lost = false
	return []api.Table{zeros, ends, anyTable(random, g), anyTable(random, g)}
}

// samples are sectors of blocks and of tables, with the smallest, the greatest and other addresses and stamps.
func samples(random *rand.Rand) (l []sample) {
	for i, addr := range addrs {
		for k, stamp := range nums {
			b := blocks(random)
			l = append(l, sample{addr: addr, stamp: stamp, payload: b[(i+k)%len(b)]})
			g := someGeometries()[(i+k)%4]
			x := tables(random, g)
			l = append(l, sample{addr: addr, stamp: stamp, payload: tableBytes(x[k%len(x)]), isTable: true, g: g})
		}
	}
	return l
}

// fewSamples are some of them.
func fewSamples(random *rand.Rand) (l []sample) {
	for i, s := range samples(random) {
		if i%26 < 2 {
			l = append(l, s)
		}
	}
	return l
}

// readingErrors are all that a reading may have, and numbers that are none.
func readingErrors() (l []api.Errno) {
	for e := api.ErrArg; e <= api.ErrCrash; e++ {
		l = append(l, e)
	}
	return append(l, -1, -256, 24, 256, 1<<32, math.MinInt, math.MaxInt)
}

// cut are readings of b with bytes too few or too many, and of none.
func cut(b []byte) (l []api.Got) {
	l = append(l, api.Got{}, api.Got{Bytes: []byte{}}, api.Got{Bytes: make([]byte, len(b))}, api.Got{Bytes: make([]byte, 1<<20)})
	for n := range b {
		l = append(l, api.Got{Bytes: bytes.Clone(b[:n])}, api.Got{Bytes: bytes.Clone(b[n+1:])})
		l = append(l, api.Got{Bytes: slices.Concat(b[:n], b[n+1:])}, api.Got{Bytes: slices.Concat(b[:n], b[n:n+1], b[n:])})
	}
	for _, x := range []byte{0, 1, 255} {
		l = append(l, api.Got{Bytes: slices.Concat(b, []byte{x})}, api.Got{Bytes: slices.Concat([]byte{x}, b)})
	}
	return append(l, api.Got{Bytes: slices.Concat(b, b)}, api.Got{Bytes: slices.Concat(b, make([]byte, 200))})
}

// flipped are readings of b with bits inverted, from each of its bits on: each one alone, runs of 2 to 32 that lie side by side, and some of 32.
func flipped(random *rand.Rand, b []byte) (l []api.Got) {
	for bit := range 8 * len(b) {
		for length := range 32 {
			l = append(l, api.Got{Bytes: seal.Flip(b, bit, 1<<(length+1)-1)})
		}
		for range 8 {
			l = append(l, api.Got{Bytes: seal.Flip(b, bit, int(random.Uint32()))})
		}
	}
	return l
}

// otherStructures are readings that end with a right checksum, and have all that a sector has, but are the encoding of none that s is.
func otherStructures(s sample) (l []api.Got) {
	good := s.bytes()
	good = good[:len(good)-4]
	size := len(s.payload)
	put := func(b ...[]byte) { l = append(l, api.Got{Bytes: closed(slices.Concat(b...))}) }
	for c := range 256 {
		if c != size {
			put([]byte{byte(c)}, good[1:])
		}
	}
	put(good[1:])
	put(good[:1+size], good[3+size:], good[1+size:3+size], []byte{0})
	put([]byte{0}, good)
	put(good, []byte{0})
	put(good, good[1+size:])
	put(good[:1+size], good[3+size:])
	put(good[:1+size], good[1+size:3+size])
	put(good[:1], good[2:])
	put(good, good)
	put()
	return l
}

// wrongSums are readings of s that end with the checksum of other bytes, or with the right one in another order.
func wrongSums(s sample) (l []api.Got) {
	b := s.bytes()
	body := b[:len(b)-4]
	put := func(n int) {
		for _, end := range [][]byte{binary.LittleEndian.AppendUint32(nil, uint32(n)), binary.BigEndian.AppendUint32(nil, uint32(n))} {
			if x := slices.Concat(body, end); !bytes.Equal(x, b) {
				l = append(l, api.Got{Bytes: x})
			}
		}
	}
	right := crc(body)
	for _, n := range []int{right, right + 1, right - 1, ^right, 0, api.MaxNum, crc(s.payload), crc(body[1:]), crc(b), crc(nil), int(crc32.ChecksumIEEE(body))} {
		put(n)
	}
	return l
}

// spoilt are readings of which all but one thing is right for s: none of them is to be accepted.
func spoilt(random *rand.Rand, s sample) (l []api.Got) {
	good := s.bytes()
	for _, e := range readingErrors() {
		l = append(l, api.Got{Err: e, Bytes: good}, api.Got{Err: e}, api.Got{Err: e, Bytes: []byte{}})
	}
	l = slices.Concat(l, cut(good), flipped(random, good), otherStructures(s), wrongSums(s))
	for _, other := range others(random, s.addr, 65535) {
		l = append(l, api.Got{Bytes: sealed(other, s.stamp, s.payload)})
	}
	for _, other := range others(random, s.stamp, api.MaxNum) {
		l = append(l, api.Got{Bytes: sealed(s.addr, other, s.payload)})
	}
	for _, payload := range otherPayloads(random, s) {
		l = append(l, api.Got{Bytes: sealed(s.addr, s.stamp, payload)})
	}
	return l
}

// otherPayloads are such as are not to be accepted in place of that of s.
func otherPayloads(random *rand.Rand, s sample) (l [][]byte) {
	l = append(l, nil, s.payload[:len(s.payload)-1], s.payload[1:], slices.Concat(s.payload, []byte{0}), slices.Concat([]byte{0}, s.payload), make([]byte, api.MaxPayload))
	if s.isTable {
		return append(l, wrongTables(s)...)
	}
	for i := range s.payload {
		for _, x := range []byte{1, 128, 255, byte(1 + random.Intn(255))} {
			b := bytes.Clone(s.payload)
			b[i] ^= x
			l = append(l, b)
		}
	}
	return l
}

// wrongTables are encodings of no valid table of the geometry of s: of each entry another Lost byte, an entry too few and too many, and the same
// byte everywhere.
func wrongTables(s sample) (l [][]byte) {
	for i := range s.g.Data + 1 {
		for _, lost := range []byte{1, 2, 3, 128, 129, 254, 255} {
			if lost > 1 || i == s.g.Data {
				b := bytes.Clone(s.payload)
				b[9*i+8] = lost
				l = append(l, b)
			}
		}
	}
	for _, n := range []int{-1, 1} {
		if n = 9 * (s.g.Data + 1 + n); n <= api.MaxPayload {
			l = append(l, append(bytes.Clone(s.payload), make([]byte, 9)...)[:n])
		}
	}
	return append(l, bytes.Repeat([]byte{255}, len(s.payload)), bytes.Repeat([]byte{1}, len(s.payload)))
}

// twins are other blocks that have the checksum of b: they differ by multiples of the polynomial, which has 33 bits.
func twins(t *testing.T, b []byte) (l [][]byte) {
	t.Helper()
	const polynomial = 1 | 0x82f63b78<<1
	for shift := range 32 {
		twin := binary.LittleEndian.AppendUint64(nil, binary.LittleEndian.Uint64(b)^polynomial<<shift)
		if crc(twin) != crc(b) || bytes.Equal(twin, b) {
			t.Fatalf("the test says of % x that it has the checksum of % x", twin, b)
		}
		l = append(l, twin)
	}
	return l
}

// P12.1: sectors of blocks by hand. The checksums were computed bit by bit beside the project.
func TestBlockByHand(t *testing.T) {
	for _, test := range []struct {
		addr int
		in   api.Entry
		b    []byte
		x    []byte
	}{
		{50, api.Entry{Stamp: 9, Sum: 0x46891f81}, []byte{1, 2, 3, 4, 5, 6, 7, 8}, []byte{8, 1, 2, 3, 4, 5, 6, 7, 8, 50, 0, 9, 0, 0, 0, 0x38, 0x6d, 0x07, 0x8b}},
		{0, api.Entry{Stamp: 0, Sum: 0x8c28b28a}, make([]byte, 8), []byte{8, 0, 0, 0, 0, 0, 0, 0, 0, 0, 0, 0, 0, 0, 0, 0x0b, 0xa7, 0x4d, 0x61}},
		{65535, api.Entry{Stamp: 1<<32 - 1, Sum: 0x48674bc7}, bytes.Repeat([]byte{255}, 8), append(append([]byte{8}, bytes.Repeat([]byte{255}, 14)...), 0x36, 0x94, 0xb0, 0x52)},
		{0x0201, api.Entry{Stamp: 0x06050403, Sum: 0x80efa59e}, []byte("8 bytes."), []byte{8, '8', ' ', 'b', 'y', 't', 'e', 's', '.', 1, 2, 3, 4, 5, 6, 0x39, 0xfc, 0x0e, 0x6a}},
	} {
		x := api.Got{Bytes: test.x}
		blockIs(t, x, test.addr, test.in, test.b)
		if in, e := entry.Make(test.in.Stamp, test.b); e != api.OK || in != test.in {
			t.Errorf("Make(%d, % x) = %+v, %v, want %+v", test.in.Stamp, test.b, in, e, test.in)
		}
		blockIsNot(t, x, test.addr+1, test.in)
		blockIsNot(t, x, test.addr-1, test.in)
		blockIsNot(t, x, test.addr, api.Entry{Stamp: test.in.Stamp + 1, Sum: test.in.Sum})
		blockIsNot(t, x, test.addr, api.Entry{Stamp: test.in.Stamp - 1, Sum: test.in.Sum})
		blockIsNot(t, x, test.addr, api.Entry{Stamp: test.in.Stamp, Sum: test.in.Sum + 1})
		blockIsNot(t, x, test.addr, api.Entry{Stamp: test.in.Stamp, Sum: test.in.Sum - 1})
		blockIsNot(t, api.Got{Err: api.ErrRead, Bytes: test.x}, test.addr, test.in)
		test.in.Lost = true
		blockIs(t, x, test.addr, test.in, test.b)
	}
}

// P12.1: sectors of tables by hand. The checksums were computed bit by bit beside the project.
func TestTableByHand(t *testing.T) {
	for _, test := range []struct {
		g          api.Geometry
		addr, root int
		want       api.Table
		x          []byte
	}{
		{
			least, 29, 6,
			api.Table{Entries: []api.Entry{{Stamp: 0x04030201, Sum: 0x08070605, Lost: true}, {Stamp: 0x0d0c0b0a, Sum: 0x11100f0e}}},
			[]byte{18, 1, 2, 3, 4, 5, 6, 7, 8, 1, 10, 11, 12, 13, 14, 15, 16, 17, 0, 29, 0, 6, 0, 0, 0, 0x51, 0x93, 0xad, 0x8d},
		},
		{
			three, 0x0201, 1<<32 - 1,
			api.Table{Entries: []api.Entry{{Stamp: 1<<32 - 1, Sum: 255}, {Stamp: 256, Sum: 65536, Lost: true}, {Stamp: 0, Sum: 1<<32 - 2}}},
			[]byte{
				27, 255, 255, 255, 255, 255, 0, 0, 0, 0, 0, 1, 0, 0, 0, 0, 1, 0, 1, 0, 0, 0, 0, 254, 255, 255, 255, 0,
				1, 2, 255, 255, 255, 255, 0x6c, 0x11, 0x59, 0x9c,
			},
		},
	} {
		x := api.Got{Bytes: test.x}
		tableIs(t, test.g, x, test.addr, test.root, test.want)
		tableIsNot(t, test.g, x, test.addr+1, test.root)
		tableIsNot(t, test.g, x, test.addr-1, test.root)
		tableIsNot(t, test.g, x, test.addr, test.root+1)
		tableIsNot(t, test.g, x, test.addr, test.root-1)
		tableIsNot(t, test.g, api.Got{Err: api.ErrRead, Bytes: test.x}, test.addr, test.root)
	}
}

// P12.1: the chapter's example: for a sector with another address Block returns false.
func TestExample(t *testing.T) {
	b := []byte{1, 2, 3, 4, 5, 6, 7, 8}
	in := made(t, 9, b)
	blockIs(t, api.Got{Bytes: sealed(50, 9, b)}, 50, in, b)
	blockIsNot(t, api.Got{Bytes: sealed(51, 9, b)}, 50, in)
	blockIsNot(t, api.Got{Bytes: sealed(49, 9, b)}, 50, in)
}

// P12.1: sectors as they were written are accepted, and the second program says the same of them.
func TestAsWritten(t *testing.T) {
	for _, s := range samples(rand.New(rand.NewSource(1))) {
		s.accepts(t, s.reading(), s.addr, s.stamp)
		if !s.isTable {
			isRightBlock(t, s.reading(), s.addr, s.entry())
			if made(t, s.stamp, s.payload) != s.entry() {
				t.Fatalf("the test says of %+v that its entry is %+v", s, s.entry())
			}
		}
	}
}

// P12.1: a reading with an error is not accepted, whatever bytes are beside it.
func TestErrors(t *testing.T) {
	for _, s := range samples(rand.New(rand.NewSource(2))) {
		for _, e := range readingErrors() {
			s.refuses(t, api.Got{Err: e, Bytes: s.bytes()}, s.addr, s.stamp)
			s.refuses(t, api.Got{Err: e, Bytes: []byte{}}, s.addr, s.stamp)
			s.refuses(t, api.Got{Err: e}, s.addr, s.stamp)
		}
		s.accepts(t, api.Got{Err: api.OK, Bytes: s.bytes()}, s.addr, s.stamp)
	}
}

// P12.1: a sector is not accepted with any other address than its own: the next ones, such as share bytes with it, and such as are none.
func TestAddresses(t *testing.T) {
	random := rand.New(rand.NewSource(3))
	for _, s := range samples(random) {
		for _, addr := range append(others(random, s.addr, 65535), s.addr-1, s.addr+1, 65536, s.addr+65536, s.addr-65536, s.stamp, len(s.payload)) {
			if addr != s.addr {
				s.refuses(t, s.reading(), addr, s.stamp)
			}
		}
		for _, addr := range far(s.addr) {
			s.refuses(t, s.reading(), addr, s.stamp)
		}
	}
}

// P12.1: each address that there is: a sector with it is accepted with it and not with the ones below and above, and one sector with no other.
func TestEachAddress(t *testing.T) {
	random := rand.New(rand.NewSource(4))
	one := sample{addr: 513, stamp: 7, payload: []byte("8 bytes.")}
	first := sample{addr: 0, stamp: 7, payload: tableBytes(anyTable(random, small)), isTable: true, g: small}
	for addr := range 65536 {
		for _, s := range []sample{one, first} {
			if addr != s.addr {
				s.refuses(t, s.reading(), addr, s.stamp)
			}
			s.addr = addr
			s.accepts(t, s.reading(), addr, s.stamp)
			s.refuses(t, s.reading(), addr-1, s.stamp)
			s.refuses(t, s.reading(), addr+1, s.stamp)
		}
	}
}

// P12.1: a sector is not accepted with any other stamp than its own: the next ones, such as share bytes with it, and such as are none.
func TestStamps(t *testing.T) {
	random := rand.New(rand.NewSource(5))
	for _, s := range samples(random) {
		for _, stamp := range append(others(random, s.stamp, api.MaxNum), s.stamp-1, s.stamp+1, s.stamp+1<<32, s.stamp-1<<32, s.addr, crc(s.payload)) {
			if stamp != s.stamp {
				s.refuses(t, s.reading(), s.addr, stamp)
			}
		}
		for _, stamp := range far(s.stamp) {
			s.refuses(t, s.reading(), s.addr, stamp)
		}
		for bit := range 64 {
			s.refuses(t, s.reading(), s.addr, s.stamp^1<<bit)
		}
	}
}

// P12.1: the address and the stamp do not take each other's place.
func TestExchanged(t *testing.T) {
	for _, s := range samples(rand.New(rand.NewSource(6))) {
		if s.addr != s.stamp {
			s.refuses(t, s.reading(), s.stamp, s.addr)
			if s.stamp <= 65535 {
				s.refuses(t, api.Got{Bytes: sealed(s.stamp, s.addr, s.payload)}, s.addr, s.stamp)
			}
		}
	}
}

// P12.1: bytes cut short anywhere, bytes more, one of them twice, and none.
func TestCut(t *testing.T) {
	for _, s := range samples(rand.New(rand.NewSource(7))) {
		for _, x := range cut(s.bytes()) {
			s.refuses(t, x, s.addr, s.stamp)
		}
	}
}

// P12.1: bytes that end with the checksum of others, and bytes that end with their own but are the encoding of no such sector.
func TestOtherBytes(t *testing.T) {
	for _, s := range samples(rand.New(rand.NewSource(8))) {
		for _, x := range slices.Concat(otherStructures(s), wrongSums(s)) {
			s.refuses(t, x, s.addr, s.stamp)
		}
	}
}

// P12.2, P12.1: each single bit inverted, 2 to 32 of them side by side, and some of 32.
func TestInvertedBits(t *testing.T) {
	random := rand.New(rand.NewSource(9))
	for _, s := range fewSamples(random) {
		for _, x := range flipped(random, s.bytes()) {
			s.refuses(t, x, s.addr, s.stamp)
		}
		s.accepts(t, s.reading(), s.addr, s.stamp)
	}
}

// P12.2, P12.1: all patterns of 12 inverted bits at each bit of sectors of blocks, and of a table.
func TestAllShortPatterns(t *testing.T) {
	random := rand.New(rand.NewSource(10))
	for _, s := range []sample{
		{addr: 513, stamp: 7, payload: []byte("8 bytes.")},
		{addr: 0, stamp: 0, payload: make([]byte, 8)},
		{addr: 29, stamp: 6, payload: tableBytes(anyTable(random, least)), isTable: true, g: least},
	} {
		b := s.bytes()
		for bit := range 8 * len(b) {
			for pattern := 1; pattern < 1<<12; pattern += 2 {
				s.refuses(t, api.Got{Bytes: seal.Flip(b, bit, pattern)}, s.addr, s.stamp)
			}
		}
	}
}

// P12.2, P12.1: inverted bits are not accepted even if the address, the stamp or the checksum that are asked for are inverted as well.
func TestInvertedBitsOnBothSides(t *testing.T) {
	random := rand.New(rand.NewSource(11))
	for _, s := range fewSamples(random) {
		size := len(s.payload)
		for _, x := range flipped(random, s.bytes()) {
			asked := s
			asked.payload = x.Bytes[1 : 1+size]
			asked.addr = int(binary.LittleEndian.Uint16(x.Bytes[1+size:]))
			asked.stamp = int(binary.LittleEndian.Uint32(x.Bytes[3+size:]))
			asked.refuses(t, x, asked.addr, asked.stamp)
		}
	}
}

// P12.1: Block with any other checksum than that of the block: the next ones, such as share bytes with it, those of other bytes of the sector,
// and such as are none.
func TestBlockOfOtherSums(t *testing.T) {
	random := rand.New(rand.NewSource(12))
	for _, s := range samples(random) {
		if s.isTable {
			continue
		}
		in, b := s.entry(), s.bytes()
		sums := slices.Concat(others(random, in.Sum, api.MaxNum), far(in.Sum), nums)
		sums = append(sums, crc(b), crc(b[:len(b)-4]), crc(b[:9]), crc(nil), int(crc32.ChecksumIEEE(s.payload)), int(^uint32(in.Sum)), s.stamp)
		for bit := range 64 {
			sums = append(sums, in.Sum^1<<bit)
		}
		for _, sum := range sums {
			for _, lost := range []bool{false, true} {
				if other := (api.Entry{Stamp: s.stamp, Sum: sum, Lost: lost}); sum != in.Sum {
					blockIsNot(t, s.reading(), s.addr, other)
				}
			}
		}
	}
}

// P12.1: Block of Payloads of each length, none and one byte too few and too many among them: only that of Block bytes is accepted, though the
// checksum of each is right, and though there are those 8 bytes at its beginning or at its end.
func TestBlockOfEachLength(t *testing.T) {
	random := rand.New(rand.NewSource(13))
	for _, stamp := range nums {
		for n := range api.MaxPayload + 1 {
			payload := make([]byte, n)
			for range 3 {
				s := sample{addr: addrs[random.Intn(len(addrs))], stamp: stamp, payload: bytes.Clone(payload)}
				if n == api.Block {
					s.accepts(t, s.reading(), s.addr, s.stamp)
				} else {
					s.refuses(t, s.reading(), s.addr, s.stamp)
				}
				if n > api.Block {
					for _, part := range [][]byte{payload[:8], payload[n-8:]} {
						blockIsNot(t, s.reading(), s.addr, api.Entry{Stamp: stamp, Sum: crc(part)})
					}
				}
				random.Read(payload)
			}
		}
	}
	// Nothing behind a sector makes up for a Payload that is too long for one.
	long := sample{addr: 1, stamp: 2, payload: make([]byte, 97)}
	long.refuses(t, long.reading(), 1, 2)
}

// P12.1: Block of other blocks: each other value of each byte, and others, is refused, as its checksum is another.
func TestBlockOfOtherBlocks(t *testing.T) {
	random := rand.New(rand.NewSource(14))
	for _, b := range blocks(random) {
		s := sample{addr: 44, stamp: 1 << 31, payload: b}
		for i := range b {
			for c := 1; c < 256; c++ {
				other := bytes.Clone(b)
				other[i] ^= byte(c)
				s.refuses(t, api.Got{Bytes: sealed(44, 1<<31, other)}, 44, 1<<31)
			}
		}
		for _, other := range blocks(random) {
			if !bytes.Equal(b, other) {
				s.refuses(t, api.Got{Bytes: sealed(44, 1<<31, other)}, 44, 1<<31)
			}
		}
		backwards := bytes.Clone(b)
		slices.Reverse(backwards)
		if crc(backwards) != crc(b) {
			s.refuses(t, api.Got{Bytes: sealed(44, 1<<31, backwards)}, 44, 1<<31)
		}
	}
}

// P12.1: another block that has the same checksum is what its sector says, and is returned as it was read: Block asks for nothing more.
func TestBlockOfTheSameSum(t *testing.T) {
	random := rand.New(rand.NewSource(15))
	for _, b := range blocks(random) {
		in := made(t, 5, b)
		for _, twin := range twins(t, b) {
			x := api.Got{Bytes: sealed(50, 5, twin)}
			blockIs(t, x, 50, in, twin)
			isRightBlock(t, x, 50, in)
			isRightBlock(t, x, 50, api.Entry{Stamp: 6, Sum: in.Sum})
			isRightBlock(t, x, 51, in)
		}
	}
}

// P12.1: a table for each valid geometry, those with addresses as in a volume among them; what is returned is what was written.
func TestTableOfEachGeometry(t *testing.T) {
	random := rand.New(rand.NewSource(16))
	for _, g := range geometries() {
		for copy := range 2 {
			zone := random.Intn(g.Zones)
			addr, e := geom.Table(g, zone, copy)
			if e != api.OK {
				t.Fatalf("geom.Table(%+v, %d, %d): %v", g, zone, copy, e)
			}
			root := nums[random.Intn(len(nums))]
			want := anyTable(random, g)
			b, e := table.Bytes(g, want)
			if e != api.OK {
				t.Fatalf("table.Bytes(%+v, %+v): %v", g, want, e)
			}
			x, e := seal.Make(api.Sector{Addr: addr, Stamp: root, Payload: b})
			if e != api.OK {
				t.Fatalf("seal.Make(%d, %d, % x): %v", addr, root, b, e)
			}
			tableIs(t, g, api.Got{Bytes: x}, addr, root, want)
			tableIsNot(t, g, api.Got{Bytes: x}, addr+1-2*copy, root)
			tableIsNot(t, g, api.Got{Err: api.ErrRead, Bytes: x}, addr, root)
		}
	}
}

// P12.1: with a geometry that is not valid, nothing is accepted: each of its numbers below and above its bounds.
func TestTableOfWrongGeometries(t *testing.T) {
	random := rand.New(rand.NewSource(17))
	for _, base := range someGeometries() {
		for _, x := range tables(random, base) {
			s := sample{addr: 30, stamp: 4, payload: tableBytes(x), isTable: true, g: base}
			s.accepts(t, s.reading(), 30, 4)
			for _, s.g = range wrongGeometries() {
				s.refuses(t, s.reading(), 30, 4)
				s.refuses(t, api.Got{Err: api.ErrRead}, -1, -1)
				s.refuses(t, api.Got{}, 30, 4)
			}
		}
	}
	// Such geometries have no tables, whatever number of entries theirs would have.
	for _, g := range wrongGeometries() {
		for n := range 11 {
			tableIsNot(t, g, api.Got{Bytes: sealed(30, 4, make([]byte, 9*n))}, 30, 4)
		}
	}
}

// P12.1: a table of another geometry is accepted exactly if that has as many blocks in a zone.
func TestTableOfOtherGeometries(t *testing.T) {
	random := rand.New(rand.NewSource(18))
	for data := range 4 {
		from := geo(2, data+1, 1, 14, 2)
		want := anyTable(random, from)
		x := api.Got{Bytes: sealed(31, 8, tableBytes(want))}
		for _, g := range geometries() {
			if g.Data == from.Data {
				tableIs(t, g, x, 31, 8, want)
			} else {
				tableIsNot(t, g, x, 31, 8)
			}
		}
	}
}

// P12.1: Table of Payloads that are the encoding of no valid table: too few and too many bytes, none, and Lost bytes that may not be.
func TestTableOfOtherPayloads(t *testing.T) {
	random := rand.New(rand.NewSource(19))
	for _, s := range samples(random) {
		if s.isTable {
			for _, payload := range otherPayloads(random, s) {
				s.refuses(t, api.Got{Bytes: sealed(s.addr, s.stamp, payload)}, s.addr, s.stamp)
			}
		}
	}
	for _, g := range someGeometries() {
		for n := range api.MaxPayload + 1 {
			x := api.Got{Bytes: sealed(29, 1, make([]byte, n))}
			if n == 9*(g.Data+1) {
				tableIs(t, g, x, 29, 1, api.Table{Entries: make([]api.Entry, g.Data+1)})
			} else {
				tableIsNot(t, g, x, 29, 1)
			}
		}
	}
}

// P12.1: Table of Payloads in which one byte is another, each byte and each other value of it: they are the tables that they encode, if any.
func TestTableOfAnotherByte(t *testing.T) {
	random := rand.New(rand.NewSource(20))
	for _, g := range someGeometries() {
		payload := tableBytes(anyTable(random, g))
		for i := range payload {
			for c := range 256 {
				b := bytes.Clone(payload)
				b[i] = byte(c)
				x := api.Got{Bytes: sealed(29, 1, b)}
				isRightTable(t, g, x, 29, 1)
				if i%9 == 8 && c > 1 {
					tableIsNot(t, g, x, 29, 1)
				}
			}
		}
	}
}

// P12.1: Make of blocks, with stamps of 0, MaxNum and between.
func TestMake(t *testing.T) {
	random := rand.New(rand.NewSource(21))
	for _, stamp := range append(nums, random.Intn(1<<32)) {
		for _, b := range append(blocks(random), anyBlock(random)) {
			made(t, stamp, b)
		}
	}
}

// P12.1: Make with stamps that are none, and of bytes that are no block; ErrArg comes before ErrLen.
func TestMakeErrors(t *testing.T) {
	random := rand.New(rand.NewSource(22))
	lengths := [][]byte{nil, {}, make([]byte, 0, 8), make([]byte, 7), make([]byte, 7, 8), make([]byte, 9), make([]byte, 1), make([]byte, 16), make([]byte, 256+8), make([]byte, 1<<20)}
	for _, b := range lengths {
		for _, stamp := range nums {
			makesNot(t, stamp, b, api.ErrLen)
		}
		for _, stamp := range badNumbers() {
			makesNot(t, stamp, b, api.ErrArg)
		}
	}
	for n := range 100 {
		if n != api.Block {
			makesNot(t, 0, make([]byte, n), api.ErrLen)
		}
	}
	for _, b := range blocks(random) {
		for _, stamp := range badNumbers() {
			makesNot(t, stamp, b, api.ErrArg)
		}
	}
}

// P12.1, P12.2: the entry that was made of a block accepts the sector of that block and stamp, and none of those that are spoilt in one thing.
func TestMadeEntry(t *testing.T) {
	random := rand.New(rand.NewSource(23))
	for _, s := range fewSamples(random) {
		if s.isTable {
			continue
		}
		in := made(t, s.stamp, s.payload)
		x, e := seal.Make(api.Sector{Addr: s.addr, Stamp: s.stamp, Payload: s.payload})
		if e != api.OK {
			t.Fatalf("seal.Make(%+v): %v", s, e)
		}
		blockIs(t, api.Got{Bytes: x}, s.addr, in, s.payload)
		for _, x := range spoilt(random, s) {
			blockIsNot(t, x, s.addr, in)
			isRightBlock(t, x, s.addr, in)
		}
	}
}

// P12.1: tables that are spoilt in one thing are not accepted.
func TestSpoiltTables(t *testing.T) {
	random := rand.New(rand.NewSource(24))
	for _, s := range fewSamples(random) {
		if !s.isTable {
			continue
		}
		for _, x := range spoilt(random, s) {
			tableIsNot(t, s.g, x, s.addr, s.stamp)
			isRightTable(t, s.g, x, s.addr, s.stamp)
		}
	}
}

// P12.1, P12.2: many sectors and many entries and tables, each asked with each: only what belongs together is accepted.
func TestEachWithEach(t *testing.T) {
	random := rand.New(rand.NewSource(25))
	var all []sample
	for _, addr := range []int{0, 1, 30} {
		for _, stamp := range []int{0, 1, 30} {
			for _, b := range blocks(random)[:3] {
				all = append(all, sample{addr: addr, stamp: stamp, payload: b})
			}
			for _, g := range []api.Geometry{least, small} {
				all = append(all, sample{addr: addr, stamp: stamp, payload: tableBytes(anyTable(random, g)), isTable: true, g: g})
			}
		}
	}
	for _, s := range all {
		for _, from := range all {
			isBoth := s.addr == from.addr && s.stamp == from.stamp && bytes.Equal(s.payload, from.payload)
			if isBoth {
				s.accepts(t, from.reading(), s.addr, s.stamp)
			} else if !s.isTable || s.addr != from.addr || s.stamp != from.stamp {
				s.refuses(t, from.reading(), s.addr, s.stamp)
			}
			if s.isTable {
				isRightTable(t, s.g, from.reading(), s.addr, s.stamp)
			} else {
				isRightBlock(t, from.reading(), s.addr, s.entry())
			}
		}
	}
}

// P12.1: several things changed at once, or none, against the second program.
func TestRandom(t *testing.T) {
	random := rand.New(rand.NewSource(26))
	pick := func(l []int) int { return l[random.Intn(len(l))] }
	for range 200000 {
		g := someGeometries()[random.Intn(4)]
		payload := blocks(random)[random.Intn(7)]
		if random.Intn(2) == 0 {
			payload = tableBytes(anyTable(random, g))
			payload[random.Intn(len(payload))] = byte(random.Intn(3))
		}
		sum := crc(payload)
		addr, stamp := pick(addrs[:3]), pick(nums[:3])
		x := api.Got{Bytes: sealed(pick(addrs[:3]), pick(nums[:3]), payload)}
		switch random.Intn(8) {
		case 0:
			x.Bytes[random.Intn(len(x.Bytes))] = byte(random.Intn(9))
		case 1:
			x.Bytes = x.Bytes[:random.Intn(len(x.Bytes))]
		case 2:
			x.Err = api.Errno(random.Intn(3))
		case 3:
			sum = pick([]int{sum + 1<<32, sum - 1<<32, sum - 1, 0})
		case 4:
			addr += pick([]int{65536, -65536, 1 << 32})
		case 5:
			stamp += pick([]int{1 << 32, -1 << 32, 1})
		}
		isRightBlock(t, x, addr, api.Entry{Stamp: stamp, Sum: sum})
		isRightTable(t, g, x, addr, stamp)
	}
}

// work ends the test unless e is OK.
func work(t *testing.T, d api.Disk, e api.Errno) api.Disk {
	t.Helper()
	if e != api.OK {
		t.Fatalf("the disk answers %v", e)
	}
	return d
}

// written is d with each of the sectors l written to its address, in this order, and flushed.
func written(t *testing.T, d api.Disk, l ...sample) api.Disk {
	t.Helper()
	for _, s := range l {
		next, e := disk.Write(d, s.addr, s.bytes())
		d = work(t, next, e)
	}
	next, e := disk.Flush(d)
	return work(t, next, e)
}

// newDisk is a disk without bytes, with as many cells as the greatest volume has.
func newDisk(t *testing.T) api.Disk {
	t.Helper()
	cells, e := geom.Cells(greatest)
	if e != api.OK {
		t.Fatalf("geom.Cells: %v", e)
	}
	d, e := disk.New(cells)
	return work(t, d, e)
}

// damaged is d with a fault of this kind.
func damaged(t *testing.T, d api.Disk, kind, at, from, bit, bits int) api.Disk {
	t.Helper()
	next, e := disk.Fault(d, kind, at, from, bit, bits)
	return work(t, next, e)
}

// reading is that of the cell with this address.
func reading(d api.Disk, addr int) (x api.Got) {
	_, x.Bytes, x.Err = disk.Read(d, addr)
	return x
}

// onDisk are pairs of sectors for one cell: what was there first, with the stamp 7, and what was written over it, with another stamp. The
// second ones are blocks and tables, and the first ones have the same Payload, or another.
func onDisk(t *testing.T, random *rand.Rand) (l [][2]sample) {
	t.Helper()
	for _, stamp := range []int{8, 6, 0, 0x107, api.MaxNum} {
		for slot := range 7 {
			addr, e := geom.Slot(greatest, 2, slot)
			work(t, api.Disk{}, e)
			b := anyBlock(random)
			l = append(l, [2]sample{{addr: addr, stamp: 7, payload: b}, {addr: addr, stamp: stamp, payload: b}})
			l = append(l, [2]sample{{addr: addr, stamp: 7, payload: anyBlock(random)}, {addr: addr, stamp: stamp, payload: b}})
		}
		for copy := range 2 {
			addr, e := geom.Table(greatest, 3, copy)
			work(t, api.Disk{}, e)
			b, other := tableBytes(anyTable(random, greatest)), tableBytes(anyTable(random, greatest))
			for _, first := range [][]byte{b, other} {
				older := sample{addr: addr, stamp: 7, payload: first, isTable: true, g: greatest}
				newer := sample{addr: addr, stamp: stamp, payload: b, isTable: true, g: greatest}
				l = append(l, [2]sample{older, newer})
			}
		}
	}
	return l
}

// P12.2: what is stale is not accepted: after a fault, after a write that was lost, and of a cell to which nothing was written before. It is
// what it was before, though.
func TestStaleOnDisk(t *testing.T) {
	for _, pair := range onDisk(t, rand.New(rand.NewSource(27))) {
		older, newer := pair[0], pair[1]
		d := written(t, written(t, newDisk(t), older), newer)
		newer.accepts(t, reading(d, newer.addr), newer.addr, newer.stamp)
		older.refuses(t, reading(d, older.addr), older.addr, older.stamp)
		stale := reading(damaged(t, d, api.StepStale, newer.addr, 0, 0, 0), newer.addr)
		newer.refuses(t, stale, newer.addr, newer.stamp)
		older.accepts(t, stale, older.addr, older.stamp)

		d, e := disk.Write(written(t, newDisk(t), older), newer.addr, newer.bytes())
		newer.accepts(t, reading(work(t, d, e), newer.addr), newer.addr, newer.stamp)
		for keep := range 2 {
			d, e := disk.Crash(d, keep)
			x := reading(work(t, d, e), newer.addr)
			if keep == 0 {
				newer.refuses(t, x, newer.addr, newer.stamp)
				older.accepts(t, x, older.addr, older.stamp)
			} else {
				newer.accepts(t, x, newer.addr, newer.stamp)
			}
		}

		d = damaged(t, written(t, newDisk(t), newer), api.StepStale, newer.addr, 0, 0, 0)
		newer.refuses(t, reading(d, newer.addr), newer.addr, newer.stamp)
		newer.refuses(t, reading(newDisk(t), newer.addr), newer.addr, newer.stamp)
	}
}

// P12.2: what is misplaced is not accepted, from whichever cell it comes, though that has the same Payload and the same stamp.
func TestMisplacedOnDisk(t *testing.T) {
	for _, pair := range onDisk(t, rand.New(rand.NewSource(28)))[:20] {
		s := pair[1]
		var all []sample
		sound := newDisk(t)
		for addr := range sound.Cells {
			other := s
			other.addr = addr
			all = append(all, other)
		}
		sound = written(t, sound, all...)
		s.accepts(t, reading(sound, s.addr), s.addr, s.stamp)
		for from := range all {
			if from == s.addr {
				continue
			}
			d := damaged(t, sound, api.StepMove, s.addr, from, 0, 0)
			s.refuses(t, reading(d, s.addr), s.addr, s.stamp)
			all[from].accepts(t, reading(d, from), from, s.stamp)
			d = damaged(t, sound, api.StepMove, from, s.addr, 0, 0)
			all[from].refuses(t, reading(d, from), from, s.stamp)
			s.accepts(t, reading(d, s.addr), s.addr, s.stamp)
		}
	}
}

// P12.2: what has inverted bits is not accepted, and what can't be read neither.
func TestDamagedOnDisk(t *testing.T) {
	random := rand.New(rand.NewSource(29))
	for _, pair := range onDisk(t, random) {
		s := pair[1]
		sound := written(t, newDisk(t), pair[0], s)
		for range 30 {
			d := damaged(t, sound, api.StepFlip, s.addr, 0, random.Intn(10000), random.Intn(1<<40))
			s.refuses(t, reading(d, s.addr), s.addr, s.stamp)
		}
		for _, kind := range []int{api.StepLatent, api.StepSticky} {
			d := damaged(t, sound, kind, s.addr, 0, 0, 0)
			s.refuses(t, reading(d, s.addr), s.addr, s.stamp)
		}
		d := damaged(t, sound, api.StepLatent, s.addr, 0, 0, 0)
		s.accepts(t, reading(written(t, d, s), s.addr), s.addr, s.stamp)
	}
}

// spare returns a copy of l with x behind its length, three times.
func spare[T any](l []T, x T) []T {
	return append(slices.Clone(l), x, x, x)[:len(l)]
}

// whole is a copy of l with all memory behind its length too.
func whole[T any](l []T) []T {
	return slices.Clone(l[:cap(l)])
}

// fill writes x over all memory of l.
func fill[T any](l []T, x T) {
	for i := range l[:cap(l)] {
		l[:cap(l)][i] = x
	}
}

// isFilled tells whether fill has been there last.
func isFilled[T comparable](l []T, x T) bool {
	return !slices.ContainsFunc(l[:cap(l)], func(y T) bool { return y != x })
}

// wrote is an entry that fill writes.
func wrote(n int) api.Entry {
	return api.Entry{Stamp: n, Sum: n, Lost: true}
}

// question is what the calls are asked with.
type question struct {
	g           api.Geometry
	x           api.Got
	addr, stamp int
	sum         int
	b           []byte
}

// answer is what a call of each function comes to.
type answer struct {
	block   []byte
	entries []api.Entry
	made    api.Entry
	oks     [2]bool
	e       api.Errno
}

// ask makes each call with these.
func (q question) ask() (a answer) {
	a.block, a.oks[0] = entry.Block(q.x, q.addr, api.Entry{Stamp: q.stamp, Sum: q.sum})
	y, ok := entry.Table(q.g, q.x, q.addr, q.stamp)
	a.entries, a.oks[1] = y.Entries, ok
	a.made, a.e = entry.Make(q.stamp, q.b)
	return a
}

// whole is a copy of a with all memory of its lists, that behind their lengths too.
func (a answer) whole() answer {
	a.block, a.entries = whole(a.block), whole(a.entries)
	return a
}

func (a answer) isSame(b answer) bool {
	return bytes.Equal(a.block, b.block) && slices.Equal(a.entries, b.entries) && a.made == b.made && a.oks == b.oks && a.e == b.e
}

// questions are such as succeed and such as fail. Behind each length is n; what has been cut off is behind the length, too.
func questions(n int) (l []question) {
	random := rand.New(rand.NewSource(30))
	for _, s := range fewSamples(random) {
		q := question{g: s.g, addr: s.addr, stamp: s.stamp, sum: crc(s.payload)}
		put := func(x api.Got, b []byte) {
			q.x, q.b = api.Got{Err: x.Err, Bytes: spare(x.Bytes, byte(n))}, spare(b, byte(n))
			l = append(l, q)
		}
		put(s.reading(), s.payload)
		put(api.Got{Bytes: s.bytes()[1:]}, s.payload[1:])
		put(api.Got{Err: api.ErrRead, Bytes: s.bytes()}, nil)
		put(api.Got{Bytes: seal.Flip(s.bytes(), 3, 5)}, nil)
		put(api.Got{}, append(s.payload, 1))
		put(s.reading(), s.payload)
		q.x.Bytes, q.b = q.x.Bytes[:len(q.x.Bytes)-1], q.b[:len(q.b)-1]
		l = append(l, q)
		q.addr, q.stamp = -1, -1
		put(s.reading(), s.payload)
	}
	return l
}

// P12.1 under R2: what is handed in stays as it was, its spare capacity too, also when all memory of the answers is written to, which they do
// not share with each other either.
func TestMemory(t *testing.T) {
	succeeded := [2]int{}
	for _, q := range questions(3) {
		wasX, wasB := whole(q.x.Bytes), whole(q.b)
		twice := []answer{q.ask(), q.ask()}
		for i, a := range twice {
			fill(a.block, byte(100+i))
			fill(a.entries, wrote(100+i))
		}
		for i, a := range twice {
			if !isFilled(a.block, byte(100+i)) || !isFilled(a.entries, wrote(100+i)) {
				t.Fatalf("%+v: two answers share memory", q)
			}
			for k, ok := range a.oks {
				if ok {
					succeeded[k]++
				}
			}
		}
		if !bytes.Equal(whole(q.x.Bytes), wasX) || !bytes.Equal(whole(q.b), wasB) {
			t.Fatalf("% x, % x have become % x, % x", wasX, wasB, whole(q.x.Bytes), whole(q.b))
		}
	}
	if min(succeeded[0], succeeded[1]) == 0 {
		t.Fatalf("%d calls have succeeded", succeeded)
	}
}

// P12.1 under R2: the answers stay as they were when all memory of what was handed in is written to.
func TestMemoryHandedIn(t *testing.T) {
	for _, q := range questions(3) {
		a := q.ask()
		was := a.whole()
		fill(q.x.Bytes, 77)
		fill(q.b, 78)
		if !a.whole().isSame(was) {
			t.Fatalf("%+v has become %+v", was, a)
		}
	}
}

// P12.1 under R3 and R6: what is behind a length does not matter and is not returned, not even behind the length of an answer, and a call that
// is made again answers the same.
func TestAgain(t *testing.T) {
	var times [][]answer
	for _, n := range []int{3, 3, 0, 255} {
		var l []answer
		for _, q := range questions(n) {
			l = append(l, q.ask().whole())
		}
		times = append(times, l)
	}
	for i, l := range times {
		if !slices.EqualFunc(l, times[0], answer.isSame) {
			t.Errorf("the answers of the time %d are other ones", i)
		}
	}
}

// P12.1, P12.2: any reading, any bytes as a Payload behind a right checksum, any numbers, any geometry, any inverted bits.
func FuzzEntry(f *testing.F) {
	f.Add(2, 3, 1, 14, 2, make([]byte, 36), 0, 30, 1, 0x8c28b28a, 5)
	f.Add(1, 1, 0, 14, 1, make([]byte, 8), 6, 29, 0, 0x8c28b28a, 0)
	f.Add(1, 1, 0, 14, 1, sealed(50, 9, []byte("8 bytes.")), 0, 50, 9, 0x80efa59e, 1<<32-1)
	f.Add(4, 4, 2, 30, 3, bytes.Repeat([]byte{1}, 45), 0, 65536, api.MaxNum, api.MaxNum+1, math.MaxInt)
	f.Add(0, 5, 3, 13, 4, []byte{}, -1, math.MinInt, math.MinInt, math.MaxInt, math.MinInt)
	f.Fuzz(func(t *testing.T, zones, data, spares, slots, anchors int, b []byte, err, addr, stamp, sum, bit int) {
		near := geo(1+zones&3, 1+data&3, spares&1+spares>>1&1, 14+slots&15, 1+anchors&1)
		payload := b[:min(len(b), api.MaxPayload)]
		at, root := addr&0xffff, stamp&api.MaxNum
		good := api.Got{Bytes: sealed(at, root, payload)}
		for _, x := range []api.Got{{Err: api.Errno(err), Bytes: b}, {Bytes: b}, good} {
			for _, n := range []int{sum, crc(payload)} {
				isRightBlock(t, x, addr, api.Entry{Stamp: stamp, Sum: n})
				isRightBlock(t, x, at, api.Entry{Stamp: root, Sum: n})
			}
			isRightTable(t, near, x, addr, stamp)
			isRightTable(t, near, x, at, root)
			if g := geo(zones, data, spares, slots, anchors); !slices.Contains(geometries(), g) {
				tableIsNot(t, g, x, at, root)
			}
		}
		wrong := api.Got{Bytes: seal.Flip(good.Bytes, bit, sum)}
		blockIsNot(t, wrong, at, api.Entry{Stamp: root, Sum: crc(payload)})
		tableIsNot(t, near, wrong, at, root)
		switch {
		case stamp != root:
			makesNot(t, stamp, b, api.ErrArg)
		case len(b) != api.Block:
			makesNot(t, stamp, b, api.ErrLen)
		default:
			made(t, stamp, b)
		}
	})
}
