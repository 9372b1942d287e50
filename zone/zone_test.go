package zone_test

import (
	"bytes"
	"encoding/binary"
	"hash/crc32"
	"math"
	"math/bits"
	"math/rand"
	"slices"
	"testing"

	"casemate/api"
	"casemate/disk"
	"casemate/entry"
	"casemate/geom"
	"casemate/seal"
	"casemate/zone"
)

// geo is a geometry.
func geo(zones, data, spares, slots, anchors int) api.Geometry {
	return api.Geometry{Zones: zones, Data: data, Spares: spares, Slots: slots, Anchors: anchors}
}

// someGeometries are one for each number of blocks, the smallest and the greatest valid one among them.
func someGeometries() []api.Geometry {
	return []api.Geometry{geo(1, 1, 0, 14, 1), geo(3, 2, 2, 20, 3), geo(2, 3, 1, 14, 2), geo(4, 4, 2, 30, 3)}
}

// geometries are all valid ones.
func geometries() (l []api.Geometry) {
	for n := range 4 * 4 * 3 * 17 * 3 {
		l = append(l, geo(1+n%4, 1+n/4%4, n/16%3, 14+n/48%17, 1+n/816))
	}
	return l
}

// wrongGeometries are such as are not valid: base with each of its numbers one beyond each bound and far out, and with all of them at once.
func wrongGeometries(base api.Geometry) (l []api.Geometry) {
	change := func(number func(g *api.Geometry) *int, wrong ...int) {
		for _, n := range append(wrong, -1, math.MinInt, math.MaxInt) {
			g := base
			*number(&g) = n
			l = append(l, g)
		}
	}
	change(func(g *api.Geometry) *int { return &g.Zones }, 0, 5)
	change(func(g *api.Geometry) *int { return &g.Data }, 0, 5)
	change(func(g *api.Geometry) *int { return &g.Spares }, 3)
	change(func(g *api.Geometry) *int { return &g.Slots }, 13, 31)
	change(func(g *api.Geometry) *int { return &g.Anchors }, 0, 4)
	return append(l, api.Geometry{}, geo(-1, -1, -1, -1, -1), geo(5, 5, 3, 31, 4))
}

// The document's words, as a second program that is to answer the same. What is not known is nil in it.

// crc is the checksum of b, which the library of Go computes in a way of its own.
func crc(b []byte) int {
	return int(crc32.Checksum(b, crc32.MakeTable(crc32.Castagnoli)))
}

// number is a block as one number, and block is it as bytes again.
func number(b []byte) uint64 { return binary.LittleEndian.Uint64(b) }
func block(n uint64) []byte  { return binary.LittleEndian.AppendUint64(nil, n) }

// ifSum is the block n if it has this checksum.
func ifSum(n uint64, sum int) []byte {
	if crc(block(n)) != sum {
		return nil
	}
	return block(n)
}

// wantBlock is the block i, if it is known.
func wantBlock(x api.Table, had [][]byte, i int) []byte {
	parity := had[len(had)-1]
	switch {
	case x.Entries[i].Lost:
		return nil
	case len(had[i]) != 0:
		return had[i]
	case len(parity) == 0:
		return nil
	}
	n := number(parity)
	for k, b := range had[:len(had)-1] {
		switch {
		case k == i:
		case x.Entries[k].Lost:
			n ^= 0
		case len(b) == 0:
			return nil
		default:
			n ^= number(b)
		}
	}
	return ifSum(n, x.Entries[i].Sum)
}

// wantParity is the parity, if it is known.
func wantParity(x api.Table, had [][]byte) []byte {
	last := len(had) - 1
	if len(had[last]) != 0 {
		return had[last]
	}
	n := uint64(0)
	for k, b := range had[:last] {
		switch {
		case x.Entries[k].Lost:
			n ^= 0
		case len(b) == 0:
			return nil
		default:
			n ^= number(b)
		}
	}
	return ifSum(n, x.Entries[last].Sum)
}

// wantAll are the blocks and the parity, as far as they are known.
func wantAll(x api.Table, had [][]byte) (l [][]byte) {
	for i := range had[:len(had)-1] {
		l = append(l, wantBlock(x, had, i))
	}
	return append(l, wantParity(x, had))
}

// The answers, held against what they are to be.

// indices are those of the blocks of a zone, and Parity.
func indices(g api.Geometry) (l []int) {
	for i := range g.Data {
		l = append(l, i)
	}
	return append(l, api.Parity)
}

// badIndices are neither, such as a conversion could make an index or Parity of among them.
func badIndices(g api.Geometry) (l []int) {
	l = append(l, g.Data, g.Data+1, -2, -3, -4, -5, -g.Data-1, 6, 254, 255, 256, -255, -256, math.MaxInt32, math.MaxUint32, math.MinInt32)
	return append(l, 1<<32, 1<<32-2, -1<<32, -1<<32-1, 1<<63-2, math.MinInt+1, math.MinInt, math.MaxInt)
}

// answers tells an error unless All returns want, and Block the same for each index. What is nil in want is not known.
func answers(t *testing.T, g api.Geometry, x api.Table, had, want [][]byte) {
	t.Helper()
	blocks, known, e := zone.All(g, x, had)
	if e != api.OK || len(blocks) != g.Data+1 || len(known) != g.Data+1 || len(want) != g.Data+1 {
		t.Fatalf("All(%+v, %+v, %x) = %x, %v, %v, want %x", g, x, had, blocks, known, e, want)
	}
	for i, at := range indices(g) {
		wantErr := api.OK
		if want[i] == nil {
			wantErr = api.ErrLost
		}
		if known[i] != (want[i] != nil) || !bytes.Equal(blocks[i], want[i]) {
			t.Fatalf("All(%+v, %+v, %x) = %x, %v, want %x", g, x, had, blocks, known, want)
		}
		if b, e := zone.Block(g, x, had, at); e != wantErr || !bytes.Equal(b, want[i]) {
			t.Fatalf("Block(%+v, %+v, %x, %d) = %x, %v, want %x, %v", g, x, had, at, b, e, want[i], wantErr)
		}
	}
}

// isRight tells an error unless All and Block answer as the second program does, and Block refuses what is no index.
func isRight(t *testing.T, g api.Geometry, x api.Table, had [][]byte) {
	t.Helper()
	answers(t, g, x, had, wantAll(x, had))
	for _, at := range badIndices(g) {
		blockFails(t, g, x, had, at, api.ErrArg)
	}
}

// blockFails tells an error unless Block returns the error want and nothing beside it.
func blockFails(t *testing.T, g api.Geometry, x api.Table, had [][]byte, at int, want api.Errno) {
	t.Helper()
	if b, e := zone.Block(g, x, had, at); e != want || b != nil {
		t.Fatalf("Block(%+v, %+v, %x, %d) = %x, %v, not the error %v alone", g, x, had, at, b, e, want)
	}
}

// refuses tells an error unless All and Block, the latter with whatever index, return the error want and nothing beside it.
func refuses(t *testing.T, g api.Geometry, x api.Table, had [][]byte, want api.Errno) {
	t.Helper()
	if blocks, known, e := zone.All(g, x, had); e != want || blocks != nil || known != nil {
		t.Fatalf("All(%+v, %+v, %x) = %x, %v, %v, not the error %v alone", g, x, had, blocks, known, e, want)
	}
	for at := -3; at < 7; at++ {
		blockFails(t, g, x, had, at, want)
	}
	blockFails(t, g, x, had, math.MinInt, want)
	blockFails(t, g, x, had, math.MaxInt, want)
}

// Zones to ask of.

// sample is a zone as it was written: its table, the bytes of all its blocks, those that are lost too, and its parity.
type sample struct {
	g   api.Geometry
	x   api.Table
	all [][]byte
}

// nums are stamps and checksums, the edges of signed and of shorter numbers among them.
var nums = []int{0, 1, 2, 255, 256, 65535, 65536, 0x04030201, 1<<31 - 1, 1 << 31, api.MaxNum - 1, api.MaxNum}

// written is the zone with these blocks, of which those are lost whose bits in lost are 1.
func written(g api.Geometry, lost int, blocks [][]byte) sample {
	s := sample{g: g}
	parity := uint64(0)
	add := func(b []byte, isLost bool) {
		s.x.Entries = append(s.x.Entries, api.Entry{Stamp: nums[(lost+len(s.all))%len(nums)], Sum: crc(b), Lost: isLost})
		s.all = append(s.all, b)
	}
	for i, b := range blocks[:g.Data] {
		isLost := lost>>i&1 == 1
		add(b, isLost)
		if !isLost {
			parity ^= number(b)
		}
	}
	add(block(parity), false)
	return s
}

// lost are the blocks of s that are lost, each as a bit.
func (s sample) lost() (n int) {
	for i, in := range s.x.Entries {
		if in.Lost {
			n |= 1 << i
		}
	}
	return n
}

// has is what is available of s if that is what was written, but nothing of those whose bits in miss are 1.
func (s sample) has(miss int) (had [][]byte) {
	for i, b := range s.all {
		if miss>>i&1 == 1 {
			b = nil
		}
		had = append(had, b)
	}
	return had
}

// want is what is known then: what was written and is not lost, but for those in miss, unless just one of these is not lost.
func (s sample) want(miss int) (l [][]byte) {
	miss &^= s.lost()
	for i, b := range s.all {
		if s.x.Entries[i].Lost || miss>>i&1 == 1 && bits.OnesCount(uint(miss)) > 1 {
			b = nil
		}
		l = append(l, b)
	}
	return l
}

// with is s with another entry in its table, as change makes it.
func (s sample) with(i int, change func(in *api.Entry)) sample {
	s.x.Entries = slices.Clone(s.x.Entries)
	change(&s.x.Entries[i])
	return s
}

// answers tells an error unless exactly what is to be known is known, with those in miss not available.
func (s sample) answers(t *testing.T, miss int) {
	t.Helper()
	answers(t, s.g, s.x, s.has(miss), s.want(miss))
}

// without is want, but those are not known whose bits in gone are 1.
func without(want [][]byte, gone int) [][]byte {
	want = slices.Clone(want)
	for i := range want {
		if gone>>i&1 == 1 {
			want[i] = nil
		}
	}
	return want
}

// replaced is l with b in place of the element i.
func replaced(l [][]byte, i int, b []byte) [][]byte {
	l = slices.Clone(l)
	l[i] = b
	return l
}

// anyBlock is any of all blocks.
func anyBlock(random *rand.Rand) []byte {
	return block(random.Uint64())
}

// contents are the blocks of zones: of zero bytes, the greatest ones, one alone that is not of zero bytes, all the same, such as differ in one
// bit, such as tell their order, and any.
func contents(random *rand.Rand) (l [][][]byte) {
	zeros := [][]byte{block(0), block(0), block(0), block(0)}
	l = append(l, zeros, [][]byte{block(math.MaxUint64), block(math.MaxUint64), block(math.MaxUint64), block(math.MaxUint64)})
	for i := range zeros {
		l = append(l, replaced(zeros, i, []byte{1, 2, 3, 4, 5, 6, 7, 8}))
	}
	l = append(l, [][]byte{block(7), block(7), block(7), block(7)}, [][]byte{block(1), block(1 << 20), block(1 << 40), block(1 << 63)})
	l = append(l, [][]byte{{1, 2, 3, 4, 5, 6, 7, 8}, {11, 12, 13, 14, 15, 16, 17, 18}, []byte("8 bytes."), {255, 0, 255, 0, 255, 0, 255, 0}})
	for range 3 {
		l = append(l, [][]byte{anyBlock(random), anyBlock(random), anyBlock(random), anyBlock(random)})
	}
	return l
}

// samples are zones of one to four blocks with each set of lost blocks and each of the contents.
func samples(random *rand.Rand) (l []sample) {
	for _, g := range someGeometries() {
		for lost := range 1 << g.Data {
			for _, blocks := range contents(random) {
				l = append(l, written(g, lost, blocks))
			}
		}
	}
	return l
}

// someSamples are such with each set of lost blocks, the blocks any.
func someSamples(random *rand.Rand) (l []sample) {
	for _, g := range someGeometries() {
		for lost := range 1 << g.Data {
			l = append(l, written(g, lost, [][]byte{anyBlock(random), anyBlock(random), anyBlock(random), anyBlock(random)}))
		}
	}
	return l
}

// P13.1: by hand, the checksums worked out by another program.
func TestByHand(t *testing.T) {
	first, second, third := []byte{1, 2, 3, 4, 5, 6, 7, 8}, []byte{16, 32, 48, 64, 80, 96, 112, 128}, []byte{255, 0, 255, 0, 255, 0, 255, 0}
	parity, halfParity := []byte{0xee, 0x22, 0xcc, 0x44, 0xaa, 0x66, 0x88, 0x88}, []byte{0xfe, 2, 0xfc, 4, 0xfa, 6, 0xf8, 8}
	entries := func(parity int, secondLost bool) api.Table {
		return api.Table{Entries: []api.Entry{{Stamp: 4, Sum: 0x46891f81}, {Stamp: 9, Sum: 0x1ee00e76, Lost: secondLost}, {Sum: 0xa96660d2}, {Stamp: 4, Sum: parity}}}
	}
	whole, half := entries(0xf10f7125, false), entries(0x63c7cdd9, true)
	g := geo(1, 3, 0, 14, 1)
	for _, test := range []struct {
		x         api.Table
		had, want [][]byte
	}{
		{whole, [][]byte{first, second, third, parity}, [][]byte{first, second, third, parity}},
		{whole, [][]byte{nil, second, third, parity}, [][]byte{first, second, third, parity}},
		{whole, [][]byte{first, {}, third, parity}, [][]byte{first, second, third, parity}},
		{whole, [][]byte{first, second, nil, parity}, [][]byte{first, second, third, parity}},
		{whole, [][]byte{first, second, third, nil}, [][]byte{first, second, third, parity}},
		{whole, [][]byte{nil, nil, third, parity}, [][]byte{nil, nil, third, parity}},
		{whole, [][]byte{first, second, nil, nil}, [][]byte{first, second, nil, nil}},
		{whole, [][]byte{nil, nil, nil, nil}, [][]byte{nil, nil, nil, nil}},
		{whole, [][]byte{first, nil, third, halfParity}, [][]byte{first, nil, third, halfParity}},
		{half, [][]byte{first, second, third, halfParity}, [][]byte{first, nil, third, halfParity}},
		{half, [][]byte{nil, second, third, halfParity}, [][]byte{first, nil, third, halfParity}},
		{half, [][]byte{nil, nil, third, halfParity}, [][]byte{first, nil, third, halfParity}},
		{half, [][]byte{first, third, third, nil}, [][]byte{first, nil, third, halfParity}},
		{half, [][]byte{first, nil, third, nil}, [][]byte{first, nil, third, halfParity}},
		{half, [][]byte{nil, second, nil, halfParity}, [][]byte{nil, nil, nil, halfParity}},
		{half, [][]byte{nil, second, third, parity}, [][]byte{nil, nil, third, parity}},
	} {
		answers(t, g, test.x, test.had, test.want)
	}
	// The parity of one block is the same bytes, and that of no block is of zero bytes.
	one, text := geo(1, 1, 0, 14, 1), []byte("8 bytes.")
	x := api.Table{Entries: []api.Entry{{Sum: 0x80efa59e}, {Sum: 0x80efa59e}}}
	answers(t, one, x, [][]byte{nil, text}, [][]byte{text, text})
	answers(t, one, x, [][]byte{text, nil}, [][]byte{text, text})
	answers(t, one, x, [][]byte{nil, nil}, [][]byte{nil, nil})
	x = api.Table{Entries: []api.Entry{{Sum: 0x80efa59e, Lost: true}, {Sum: 0x8c28b28a}}}
	answers(t, one, x, [][]byte{text, nil}, [][]byte{nil, make([]byte, 8)})
	answers(t, one, x, [][]byte{nil, nil}, [][]byte{nil, make([]byte, 8)})
	answers(t, one, x, [][]byte{nil, text}, [][]byte{nil, text})
}

// P13.1: the chapter's example: if two blocks are not available, neither of them is known, nor are a block and the parity. All others are.
func TestExample(t *testing.T) {
	for _, g := range someGeometries() {
		for _, blocks := range contents(rand.New(rand.NewSource(1))) {
			s := written(g, 0, blocks)
			for i := range g.Data + 1 {
				for k := range i {
					answers(t, g, s.x, s.has(1<<i|1<<k), without(s.all, 1<<i|1<<k))
				}
			}
		}
	}
}

// P13.1: zones as they were written, with each set of lost blocks and each set of those that are not available, the lost ones among them or
// not, and other bytes available of the lost ones.
func TestAsWritten(t *testing.T) {
	random := rand.New(rand.NewSource(2))
	for _, s := range samples(random) {
		for miss := range 2 << s.g.Data {
			s.answers(t, miss)
			isRight(t, s.g, s.x, s.has(miss))
			had := s.has(miss)
			for i := range s.g.Data {
				if s.x.Entries[i].Lost {
					had[i] = anyBlock(random)
				}
			}
			answers(t, s.g, s.x, had, s.want(miss))
		}
	}
}

// P13.2: if at most one of the blocks and the parity is not available, all that are not lost are known, whichever are lost: with each geometry.
func TestOneNotAvailable(t *testing.T) {
	random := rand.New(rand.NewSource(3))
	for n, g := range geometries() {
		for lost := range 1 << g.Data {
			blocks := contents(random)
			s := written(g, lost, blocks[(n+lost)%len(blocks)])
			answers(t, g, s.x, s.has(0), without(s.all, lost))
			for i := range g.Data + 1 {
				answers(t, g, s.x, s.has(1<<i), without(s.all, lost))
				answers(t, g, s.x, s.has(1<<i|lost), without(s.all, lost))
			}
		}
	}
}

// wrongSums are checksums, but not that of b.
func wrongSums(random *rand.Rand, b []byte) (l []int) {
	right := crc(b)
	near := []int{right - 1, right + 1, right ^ 1, right ^ 1<<31, right ^ 1<<16, ^right & api.MaxNum, int(bits.ReverseBytes32(uint32(right)))}
	near = append(near, int(crc32.ChecksumIEEE(b)), crc(b[:7]), crc(nil), crc(block(0)), crc(append(block(0), b...)), int(random.Uint32()))
	for _, n := range append(near, nums...) {
		if n != right && n >= 0 && n <= api.MaxNum {
			l = append(l, n)
		}
	}
	return l
}

// P13.1: a Sum in the table that is not that of a block, or of the parity, makes it unknown if it is not available, and no difference if it
// is, if it is lost, or to any other.
func TestWrongSum(t *testing.T) {
	random := rand.New(rand.NewSource(4))
	for _, s := range someSamples(random) {
		for i, b := range s.all {
			for _, n := range wrongSums(random, b) {
				wrong := s.with(i, func(in *api.Entry) { in.Sum = n })
				for miss := range 2 << s.g.Data {
					want := s.want(miss)
					if miss>>i&1 == 1 {
						want = without(want, 1<<i)
					}
					answers(t, s.g, wrong.x, s.has(miss), want)
				}
			}
		}
	}
}

// P13.1: all Sums are wrong: what is available is known, and nothing else.
func TestAllSumsWrong(t *testing.T) {
	for _, s := range someSamples(rand.New(rand.NewSource(5))) {
		wrong := s
		for i := range s.all {
			wrong = wrong.with(i, func(in *api.Entry) { in.Sum ^= 1 })
		}
		for miss := range 2 << s.g.Data {
			answers(t, s.g, wrong.x, s.has(miss), without(s.all, miss|s.lost()))
		}
	}
}

// P13.1: the Stamps of a table make no difference.
func TestStamps(t *testing.T) {
	for _, s := range someSamples(rand.New(rand.NewSource(6))) {
		for i := range s.all {
			for _, n := range nums {
				for miss := range 2 << s.g.Data {
					s.with(i, func(in *api.Entry) { in.Stamp = n }).answers(t, miss)
				}
			}
		}
	}
}

// P13.1: bytes available that are other ones than those written are what is known of that block or parity, and then no other one that is not
// available is known, as its checksum is not that of the xor. Of a lost block they make no difference.
func TestOtherBytes(t *testing.T) {
	random := rand.New(rand.NewSource(7))
	for _, s := range someSamples(random) {
		for i, b := range s.all {
			for range 8 {
				// Within 32 consecutive bits, so that the checksum of any xor becomes another one.
				other := seal.Flip(b, random.Intn(32), random.Intn(1<<32))
				for k := range s.all {
					want := replaced(without(s.all, s.lost()), i, other)
					if s.x.Entries[i].Lost {
						want[i] = nil
					}
					answers(t, s.g, s.x, replaced(s.has(0), i, other), want)
					if k == i {
						continue
					}
					if !s.x.Entries[i].Lost {
						want[k] = nil
					}
					answers(t, s.g, s.x, replaced(s.has(1<<k), i, other), want)
				}
			}
		}
	}
}

// P13.1: if the same bits of two are other ones than those written, the xor with which a third one is known is as it was written.
func TestTheSameOtherBits(t *testing.T) {
	random := rand.New(rand.NewSource(8))
	for _, blocks := range contents(random) {
		s := written(geo(1, 3, 0, 14, 1), 0, blocks)
		for miss := range 4 {
			for i := range 4 {
				for k := range i {
					if i == miss || k == miss {
						continue
					}
					n := random.Uint64()
					change := func(l [][]byte) [][]byte {
						return replaced(replaced(l, i, block(n^number(l[i]))), k, block(n^number(l[k])))
					}
					answers(t, s.g, s.x, change(s.has(1<<miss)), change(s.all))
				}
			}
		}
	}
}

// P13.1: a xor that has the checksum is what is known, though other bytes were written.
func TestOtherBytesWithTheSameSum(t *testing.T) {
	// The polynomial of the checksum, the bit that it leaves out first, and the bits of the bytes in the order in which they are taken.
	const polynomial = 1 | 0x82f63b78<<1
	random := rand.New(rand.NewSource(9))
	for _, s := range someSamples(random) {
		for shift := range 32 {
			for i, b := range s.all {
				other := block(number(b) ^ polynomial<<shift)
				if crc(other) != crc(b) {
					t.Fatalf("%x does not have the checksum of %x", other, b)
				}
				for k, c := range s.all {
					if k == i || s.x.Entries[i].Lost || s.x.Entries[k].Lost {
						continue
					}
					want := replaced(without(s.all, s.lost()), i, other)
					want[k] = block(number(c) ^ polynomial<<shift)
					answers(t, s.g, s.x, replaced(s.has(1<<k), i, other), want)
				}
			}
		}
	}
}

// P13.1: had has Data + 1 elements, no fewer and no more, whatever they are. What is behind its length does not count.
func TestNumberOfElements(t *testing.T) {
	for _, s := range someSamples(rand.New(rand.NewSource(10))) {
		refuses(t, s.g, s.x, nil, api.ErrLen)
		refuses(t, s.g, s.x, [][]byte{}, api.ErrLen)
		for n := range 12 {
			if n == s.g.Data+1 {
				continue
			}
			refuses(t, s.g, s.x, make([][]byte, n), api.ErrLen)
			refuses(t, s.g, s.x, slices.Repeat([][]byte{block(0)}, n), api.ErrLen)
			refuses(t, s.g, s.x, append(s.has(0), s.has(0)...)[:min(n, 2*s.g.Data+2)], api.ErrLen)
			refuses(t, s.g, s.x, slices.Repeat([][]byte{{1}}, n), api.ErrLen)
		}
		refuses(t, s.g, s.x, s.has(0)[1:], api.ErrLen)
		refuses(t, s.g, s.x, append([][]byte{nil}, s.has(0)...), api.ErrLen)
		refuses(t, s.g, s.x, make([][]byte, 1<<16), api.ErrLen)
	}
}

// P13.1: each element has Block bytes or none, that of a lost block too, and whether the others are available or not.
func TestLengthsOfElements(t *testing.T) {
	for _, s := range someSamples(rand.New(rand.NewSource(11))) {
		for i, b := range s.all {
			for _, miss := range []int{0, 1 << i, 2<<s.g.Data - 1} {
				for n := 1; n <= 20; n++ {
					if n != api.Block {
						wrong := append(slices.Concat(b, b, b)[:n:n], b...)[:n]
						refuses(t, s.g, s.x, replaced(s.has(miss), i, wrong), api.ErrLen)
					}
				}
				for _, n := range []int{96, 97, 255, 256, 1<<16 + 8} {
					refuses(t, s.g, s.x, replaced(s.has(miss), i, make([]byte, n)), api.ErrLen)
				}
				for _, none := range [][]byte{nil, {}, make([]byte, 0, 8), slices.Concat(b, b)[:0], b[8:]} {
					answers(t, s.g, s.x, replaced(s.has(miss), i, none), s.want(miss|1<<i))
				}
				answers(t, s.g, s.x, replaced(s.has(miss), i, append(slices.Clone(b), 1, 2, 3)[:8]), s.want(miss&^(1<<i)))
			}
		}
	}
}

// wrongTables are tables of a zone like s that are not valid: too few Entries, too many, none, numbers out of their bounds in each of them, and
// a parity that is Lost.
func wrongTables(s sample) (l []api.Table) {
	l = append(l, api.Table{}, api.Table{Entries: []api.Entry{}}, api.Table{Entries: s.x.Entries[:s.g.Data]}, api.Table{Entries: s.x.Entries[1:]})
	l = append(l, api.Table{Entries: slices.Concat(s.x.Entries, s.x.Entries[:1])}, api.Table{Entries: slices.Concat(s.x.Entries, s.x.Entries)})
	for i := range s.all {
		for _, n := range []int{-1, -2, math.MinInt32, math.MinInt, api.MaxNum + 1, 1 << 40, math.MaxInt} {
			l = append(l, s.with(i, func(in *api.Entry) { in.Stamp = n }).x, s.with(i, func(in *api.Entry) { in.Sum = n }).x)
		}
		// Such as have the right checksum in their low bits.
		for _, wrap := range []int{1 << 32, -1 << 32, math.MinInt} {
			l = append(l, s.with(i, func(in *api.Entry) { in.Sum += wrap }).x)
		}
	}
	return append(l, s.with(s.g.Data, func(in *api.Entry) { in.Lost = true }).x)
}

// wrongHad are lists that can't be what is available of s.
func wrongHad(s sample) [][][]byte {
	return [][][]byte{
		nil, {}, {nil}, {{1}}, s.has(0)[1:], s.has(0)[:s.g.Data], append(s.has(0), nil), append(s.has(0), block(7)), append(s.has(0), []byte{1}),
		replaced(s.has(0), 0, make([]byte, 7)), replaced(s.has(0), s.g.Data, make([]byte, 9)), replaced(s.has(0)[1:], 0, make([]byte, 7)),
	}
}

// P13.1, R4: a table that is not valid is ErrArg, whatever is available and whatever the index is.
func TestWrongTables(t *testing.T) {
	for _, s := range someSamples(rand.New(rand.NewSource(12))) {
		for _, x := range wrongTables(s) {
			for _, had := range append(wrongHad(s), s.has(0), s.has(1), s.has(2<<s.g.Data-1)) {
				refuses(t, s.g, x, had, api.ErrArg)
			}
		}
	}
}

// P13.1: a table of another geometry is ErrArg if its zones have another number of blocks; all else in a geometry makes no difference.
func TestAnotherGeometry(t *testing.T) {
	all := geometries()
	for _, s := range someSamples(rand.New(rand.NewSource(13))) {
		for n, g := range all {
			if g.Data == s.g.Data {
				s.g = g
				s.answers(t, n%(2<<g.Data))
				continue
			}
			refuses(t, g, s.x, s.has(0), api.ErrArg)
			refuses(t, g, s.x, make([][]byte, g.Data+1), api.ErrArg)
		}
	}
}

// P13.1, R4: a geometry that is not valid is ErrArg, each number one beyond its bounds and far out, whatever the table, what is available and
// the index are.
func TestWrongGeometries(t *testing.T) {
	for _, s := range someSamples(rand.New(rand.NewSource(14))) {
		for _, g := range wrongGeometries(s.g) {
			for _, had := range append(wrongHad(s), s.has(0), s.has(1)) {
				refuses(t, g, s.x, had, api.ErrArg)
			}
			// As many entries and elements as Data says.
			if g.Data >= 0 && g.Data <= 5 {
				x := api.Table{Entries: make([]api.Entry, g.Data+1)}
				refuses(t, g, x, slices.Repeat([][]byte{block(0)}, g.Data+1), api.ErrArg)
			}
			refuses(t, g, api.Table{}, nil, api.ErrArg)
		}
	}
}

// P13.1: the index is that of a block of the zone or Parity, else the error is ErrArg, whether anything is known or not. Data is none, though
// the parity is what comes after the blocks.
func TestIndices(t *testing.T) {
	for _, s := range someSamples(rand.New(rand.NewSource(15))) {
		for miss := range 2 << s.g.Data {
			for _, at := range badIndices(s.g) {
				blockFails(t, s.g, s.x, s.has(miss), at, api.ErrArg)
			}
			for at := -300; at < 300; at++ {
				if slices.Contains(indices(s.g), at) {
					continue
				}
				blockFails(t, s.g, s.x, s.has(miss), at, api.ErrArg)
			}
		}
		b, e := zone.Block(s.g, s.x, s.has(0), api.Parity)
		if e != api.OK || !bytes.Equal(b, s.all[s.g.Data]) {
			t.Fatalf("Block of Parity = %x, %v, want %x", b, e, s.all[s.g.Data])
		}
	}
}

// P13.1, R4: of several errors the first one in the chapter's order is returned: that of the geometry and the table, that of what is
// available, that of the index, and ErrLost.
func TestOrderOfErrors(t *testing.T) {
	for _, s := range someSamples(rand.New(rand.NewSource(16))) {
		lists := append(wrongHad(s), s.has(2<<s.g.Data-1))
		for i, had := range lists {
			want := api.ErrLen
			if i == len(lists)-1 {
				want = api.ErrArg
			}
			for _, at := range badIndices(s.g) {
				blockFails(t, s.g, s.x, had, at, want)
				blockFails(t, s.g, wrongTables(s)[0], had, at, api.ErrArg)
				blockFails(t, wrongGeometries(s.g)[0], s.x, had, at, api.ErrArg)
				blockFails(t, wrongGeometries(s.g)[0], wrongTables(s)[0], had, at, api.ErrArg)
			}
			if want == api.ErrLen {
				refuses(t, s.g, s.x, had, want)
			}
		}
		// Nothing is available: no block is known, whether it is lost or not.
		for at := range s.g.Data {
			blockFails(t, s.g, s.x, s.has(2<<s.g.Data-1), at, api.ErrLost)
		}
	}
}

// anyHad is what is available of s, of each block or the parity what was written, or other bytes, or none, and now and then bytes of any length
// or any number of elements.
func anyHad(random *rand.Rand, s sample) (had [][]byte) {
	had = s.has(random.Intn(2<<s.g.Data) & random.Intn(2<<s.g.Data))
	if random.Intn(8) == 0 {
		had[random.Intn(len(had))] = anyBlock(random)
	}
	if random.Intn(8) == 0 {
		had[random.Intn(len(had))] = make([]byte, random.Intn(10))
	}
	if random.Intn(20) == 0 {
		had = append(had, had...)[:random.Intn(2*len(had)+1)]
	}
	return had
}

// isHad tells whether had can be what is available of a zone of g.
func isHad(g api.Geometry, had [][]byte) bool {
	return len(had) == g.Data+1 && !slices.ContainsFunc(had, func(b []byte) bool { return len(b) != 0 && len(b) != 8 })
}

// P13.1: zones of any kind, of which anything is available, against the second program.
func TestRandom(t *testing.T) {
	random := rand.New(rand.NewSource(17))
	all := geometries()
	for range 100000 {
		g := all[random.Intn(len(all))]
		blocks := contents(random)
		s := written(g, random.Intn(1<<g.Data), blocks[random.Intn(len(blocks))])
		if random.Intn(4) == 0 {
			i := random.Intn(g.Data + 1)
			s = s.with(i, func(in *api.Entry) { in.Sum, in.Lost = nums[random.Intn(len(nums))], i < g.Data && random.Intn(2) == 0 })
		}
		if had := anyHad(random, s); isHad(g, had) {
			isRight(t, g, s.x, had)
		} else {
			refuses(t, g, s.x, had, api.ErrLen)
		}
	}
}

// work is d, if there is no error.
func work(t *testing.T, d api.Disk, e api.Errno) api.Disk {
	t.Helper()
	if e != api.OK {
		t.Fatalf("the disk answers %v", e)
	}
	return d
}

// addresses are those of the first Data + 1 slots of a zone.
func (s sample) addresses(t *testing.T, z int) (l []int) {
	t.Helper()
	for i := range s.all {
		a, e := geom.Slot(s.g, z, i)
		work(t, api.Disk{}, e)
		l = append(l, a)
	}
	return l
}

// onDisk is a disk on which the blocks and the parity of s are in the zone z, over older ones, and its first block in the first cell of all.
func (s sample) onDisk(t *testing.T, z int) api.Disk {
	t.Helper()
	cells, e := geom.Cells(s.g)
	work(t, api.Disk{}, e)
	d, e := disk.New(cells)
	work(t, d, e)
	write := func(a, stamp int, payload []byte) {
		b, e := seal.Make(api.Sector{Addr: a, Stamp: stamp, Payload: payload})
		work(t, d, e)
		d, e = disk.Write(d, a, b)
		work(t, d, e)
	}
	for i, a := range s.addresses(t, z) {
		write(a, s.x.Entries[i].Stamp^1, s.all[i])
		write(a, s.x.Entries[i].Stamp, s.all[i])
	}
	write(0, s.x.Entries[0].Stamp, s.all[0])
	d, e = disk.Flush(d)
	return work(t, d, e)
}

// readFrom is what is available of s on d: what is read and verified.
func (s sample) readFrom(t *testing.T, d api.Disk, z int) (had [][]byte) {
	t.Helper()
	for i, a := range s.addresses(t, z) {
		var x api.Got
		_, x.Bytes, x.Err = disk.Read(d, a)
		b, _ := entry.Block(x, a, s.x.Entries[i])
		had = append(had, b)
	}
	return had
}

// P13.2: with a fault of whatever kind in one cell of a zone, all that was written and is not lost is known; with faults in two, these are not.
func TestFaultsOnDisk(t *testing.T) {
	random := rand.New(rand.NewSource(18))
	for n, s := range someSamples(random) {
		z := n % s.g.Zones
		sound, at := s.onDisk(t, z), s.addresses(t, z)
		answers(t, s.g, s.x, s.readFrom(t, sound, z), s.want(0))
		for _, kind := range []int{api.StepLatent, api.StepSticky, api.StepFlip, api.StepStale, api.StepMove} {
			spoil := func(d api.Disk, i int) api.Disk {
				d, e := disk.Fault(d, kind, at[i], 0, random.Intn(1<<20), random.Intn(1<<32))
				return work(t, d, e)
			}
			for i := range at {
				d := spoil(sound, i)
				answers(t, s.g, s.x, s.readFrom(t, d, z), without(s.all, s.lost()))
				for k := range at {
					if k != i {
						answers(t, s.g, s.x, s.readFrom(t, spoil(d, k), z), s.want(1<<i|1<<k))
					}
				}
			}
		}
	}
}

// spare returns a copy of l with x behind its length, three times.
func spare[T any](l []T, x T) []T {
	return append(slices.Clone(l), x, x, x)[:len(l)]
}

// whole is a copy of l with all memory behind its length too.
func whole[T any](l []T) []T {
	return slices.Clone(l[:cap(l)])
}

// fill writes x over all memory of l.
func fill[T any](l []T, x T) {
	for i := range l[:cap(l)] {
		l[:cap(l)][i] = x
	}
}

// isFilled tells whether fill has been there last.
func isFilled[T comparable](l []T, x T) bool {
	return !slices.ContainsFunc(l[:cap(l)], func(y T) bool { return y != x })
}

// wholeLists is a copy of l, what is behind its length and behind those of its elements too.
func wholeLists(l [][]byte) (copies [][]byte) {
	for _, b := range l[:cap(l)] {
		copies = append(copies, whole(b))
	}
	return copies
}

func areSame(l, m [][]byte) bool {
	return slices.EqualFunc(l, m, bytes.Equal)
}

// question is what the calls are asked with.
type question struct {
	g   api.Geometry
	x   api.Table
	had [][]byte
}

// answer is what All comes to, and Block for each index of a block, Parity and an index that is none.
type answer struct {
	all    [][]byte
	known  []bool
	blocks [][]byte
	errors []api.Errno
}

// ask makes each call with these.
func (q question) ask() (a answer) {
	var e api.Errno
	a.all, a.known, e = zone.All(q.g, q.x, q.had)
	a.errors = append(a.errors, e)
	for at := api.Parity; at <= q.g.Data; at++ {
		b, e := zone.Block(q.g, q.x, q.had, at)
		a.blocks, a.errors = append(a.blocks, b), append(a.errors, e)
	}
	return a
}

// lists are all lists of bytes in a.
func (a answer) lists() [][]byte {
	return slices.Concat(a.all, a.blocks)
}

// whole is a copy of a with all memory of its lists, that behind their lengths too.
func (a answer) whole() answer {
	return answer{all: wholeLists(a.all), known: whole(a.known), blocks: wholeLists(slices.Clip(a.blocks)), errors: a.errors}
}

func (a answer) isSame(b answer) bool {
	return areSame(a.all, b.all) && slices.Equal(a.known, b.known) && areSame(a.blocks, b.blocks) && slices.Equal(a.errors, b.errors)
}

// roomy is the question with n behind each length.
func roomy(g api.Geometry, x api.Table, had [][]byte, n byte) question {
	q := question{g: g, x: api.Table{Entries: spare(x.Entries, api.Entry{Stamp: int(n), Sum: int(n), Lost: true})}}
	for _, b := range had {
		q.had = append(q.had, spare(b, n))
	}
	q.had = spare(q.had, bytes.Repeat([]byte{n}, 8))
	return q
}

// questions are such as succeed and such as fail. Behind each length is n; what has been cut off is behind the length, too.
func questions(n byte) (l []question) {
	for k, s := range someSamples(rand.New(rand.NewSource(19))) {
		for miss := range 2 << s.g.Data {
			q := roomy(s.g, s.x, s.has(miss), n)
			cut := roomy(s.g, s.x, s.has(0), n)
			for i := range cut.had {
				if miss>>i&1 == 1 {
					cut.had[i] = cut.had[i][:0]
				}
			}
			l = append(l, q, cut)
		}
		cut := roomy(s.g, s.x, s.has(0), n)
		cut.had = cut.had[:s.g.Data]
		l = append(l, cut, roomy(s.g, s.x, wrongHad(s)[k%12], n), roomy(s.g, wrongTables(s)[k%12], s.has(0), n))
		l = append(l, roomy(wrongGeometries(s.g)[0], s.x, s.has(0), n))
	}
	return l
}

// P13.1 under R2: what is handed in stays as it was, its spare capacity too, also when all memory of the answers is written to, which they do
// not share with each other either, nor do the lists of one answer.
func TestMemory(t *testing.T) {
	for _, q := range questions(3) {
		wasEntries, wasHad := whole(q.x.Entries), wholeLists(q.had)
		twice := []answer{q.ask(), q.ask()}
		lists := append(twice[0].lists(), twice[1].lists()...)
		for i, b := range lists {
			fill(b, byte(100+i))
		}
		for i, b := range lists {
			if !isFilled(b, byte(100+i)) {
				t.Fatalf("%+v: two lists that were returned share memory", q)
			}
		}
		for i, a := range twice {
			fill(a.all, []byte{byte(i)})
			fill(a.known, i == 0)
		}
		for i, a := range twice {
			for _, b := range a.all[:cap(a.all)] {
				if !bytes.Equal(b, []byte{byte(i)}) {
					t.Fatalf("%+v: two answers share their lists", q)
				}
			}
			if !isFilled(a.known, i == 0) {
				t.Fatalf("%+v: two answers share what is known", q)
			}
		}
		if !slices.Equal(whole(q.x.Entries), wasEntries) || !areSame(wholeLists(q.had), wasHad) {
			t.Fatalf("%+v, %x have become %+v, %x", wasEntries, wasHad, whole(q.x.Entries), wholeLists(q.had))
		}
	}
}

// P13.1 under R2: the answers stay as they were when all memory of what was handed in is written to.
func TestMemoryHandedIn(t *testing.T) {
	for _, q := range questions(3) {
		a := q.ask()
		was := a.whole()
		for _, b := range q.had[:cap(q.had)] {
			fill(b, 77)
		}
		fill(q.had, []byte{78})
		fill(q.x.Entries, api.Entry{Stamp: 79, Sum: 79, Lost: true})
		if !a.whole().isSame(was) {
			t.Fatalf("%+v has become %+v", was, a)
		}
	}
}

// P13.1 under R2: elements that are the same memory, or that are parts of one list, are returned in memory of their own.
func TestElementsThatShareMemory(t *testing.T) {
	for _, g := range someGeometries() {
		same := block(7)
		row := bytes.Repeat(same, g.Data+1)
		x := api.Table{Entries: slices.Repeat([]api.Entry{{Sum: crc(same)}}, g.Data+1)}
		for i := range g.Data + 2 {
			one, parts := slices.Repeat([][]byte{same}, g.Data+1), slices.Collect(slices.Chunk(row, 8))
			if i <= g.Data {
				one[i], parts[i] = one[i][:0], row[8*i:8*i]
			}
			for _, had := range [][][]byte{one, parts} {
				answers(t, g, x, had, wantAll(x, had))
				blocks, _, _ := zone.All(g, x, had)
				for k, b := range blocks {
					fill(b, byte(100+k))
				}
				for k, b := range blocks {
					if !isFilled(b, byte(100+k)) {
						t.Fatalf("%x: two lists that were returned share memory", had)
					}
				}
				if !bytes.Equal(same, block(7)) || !bytes.Equal(row, bytes.Repeat(same, g.Data+1)) {
					t.Fatalf("what was handed in has become %x, %x", same, row)
				}
			}
		}
	}
}

// P13.1 under R3 and R6: what is behind a length does not matter and is not returned, not even behind the length of an answer, and a call that
// is made again answers the same.
func TestAgain(t *testing.T) {
	var times [][]answer
	for _, n := range []byte{3, 3, 0, 255} {
		var l []answer
		for _, q := range questions(n) {
			l = append(l, q.ask().whole())
		}
		times = append(times, l)
	}
	for i, l := range times {
		if !slices.EqualFunc(l, times[0], answer.isSame) {
			t.Errorf("the answers of the time %d are other ones", i)
		}
	}
}

// P13.1, P13.2: any geometry, any blocks, any of them lost, any of them not available, any bytes in place of one of them, any index and any
// Sum.
func FuzzZone(f *testing.F) {
	f.Add(2, 3, 1, 14, 2, make([]byte, 24), 0, 1, 0, []byte{}, 0, 0x8c28b28a)
	f.Add(1, 1, 0, 14, 1, []byte("8 bytes."), 0, 2, 1, []byte("8 bytes."), -1, 0x80efa59e)
	f.Add(4, 4, 2, 30, 3, bytes.Repeat([]byte{1}, 32), 5, 10, 4, []byte("7 bytes"), 4, api.MaxNum+1)
	f.Add(0, 5, 3, 13, 4, []byte{}, 15, 31, -1, []byte{9}, math.MinInt, math.MaxInt)
	f.Fuzz(func(t *testing.T, zones, data, spares, slots, anchors int, b []byte, lost, miss, i int, other []byte, at, sum int) {
		g := geo(1+zones&3, 1+data&3, spares&1+spares>>1&1, 14+slots&15, 1+anchors&1)
		blocks := slices.Collect(slices.Chunk(append(bytes.Clone(b), make([]byte, 32)...)[:32], 8))
		s := written(g, lost&(1<<g.Data-1), blocks)
		i, miss = i&0xff%(g.Data+1), miss&(2<<g.Data-1)
		s.answers(t, miss)
		s.answers(t, 1<<i|s.lost())
		had := replaced(s.has(miss), i, other)
		x := s.with(i, func(in *api.Entry) { in.Sum = sum }).x
		for _, x := range []api.Table{s.x, x} {
			switch {
			case slices.ContainsFunc(x.Entries, func(in api.Entry) bool { return in.Sum < 0 || in.Sum > api.MaxNum }):
				refuses(t, g, x, had, api.ErrArg)
			case !isHad(g, had):
				refuses(t, g, x, had, api.ErrLen)
			default:
				isRight(t, g, x, had)
				if !slices.Contains(indices(g), at) {
					blockFails(t, g, x, had, at, api.ErrArg)
				}
			}
			if wrong := geo(zones, data, spares, slots, anchors); !slices.Contains(geometries(), wrong) {
				refuses(t, wrong, x, had, api.ErrArg)
			}
		}
	})
}
