package stripe_test

import (
	"bytes"
	"encoding/binary"
	"hash/crc32"
	"math"
	"math/bits"
	"math/rand"
	"slices"
	"testing"

	"casemate/api"
	"casemate/disk"
	"casemate/entry"
	"casemate/geom"
	"casemate/seal"
	"casemate/stripe"
	"casemate/table"
	"casemate/zone"
)

// geo is a geometry.
func geo(zones, data, spares, slots, anchors int) api.Geometry {
	return api.Geometry{Zones: zones, Data: data, Spares: spares, Slots: slots, Anchors: anchors}
}

// someGeometries are one for each number of blocks, the smallest and the greatest valid one among them.
func someGeometries() []api.Geometry {
	return []api.Geometry{geo(1, 1, 0, 14, 1), geo(3, 2, 2, 20, 3), geo(2, 3, 1, 14, 2), geo(4, 4, 2, 30, 3)}
}

// geometries are all valid ones.
func geometries() (l []api.Geometry) {
	for n := range 4 * 4 * 3 * 17 * 3 {
		l = append(l, geo(1+n%4, 1+n/4%4, n/16%3, 14+n/48%17, 1+n/816))
	}
	return l
}

// wrongGeometries are such as are not valid: base with each of its numbers one beyond each bound and far out, and with all of them at once.
func wrongGeometries(base api.Geometry) (l []api.Geometry) {
	change := func(number func(g *api.Geometry) *int, wrong ...int) {
		for _, n := range append(wrong, -1, math.MinInt, math.MaxInt) {
			g := base
			*number(&g) = n
			l = append(l, g)
		}
	}
	change(func(g *api.Geometry) *int { return &g.Zones }, 0, 5)
	change(func(g *api.Geometry) *int { return &g.Data }, 0, 5)
	change(func(g *api.Geometry) *int { return &g.Spares }, 3)
	change(func(g *api.Geometry) *int { return &g.Slots }, 13, 31)
	change(func(g *api.Geometry) *int { return &g.Anchors }, 0, 4)
	return append(l, api.Geometry{}, geo(-1, -1, -1, -1, -1), geo(5, 5, 3, 31, 4))
}

// The document's words, as a second program that is to answer the same. What is not known is nil in it.

// crc is the checksum of b, which the library of Go computes in a way of its own.
func crc(b []byte) int {
	return int(crc32.Checksum(b, crc32.MakeTable(crc32.Castagnoli)))
}

// number is a block as one number, and block is it as bytes again.
func number(b []byte) uint64 { return binary.LittleEndian.Uint64(b) }
func block(n uint64) []byte  { return binary.LittleEndian.AppendUint64(nil, n) }

// wantKnown is the block i, if it is known before the writing.
func wantKnown(x api.Table, had [][]byte, i int) []byte {
	switch {
	case x.Entries[i].Lost:
		return nil
	case len(had[i]) != 0:
		return had[i]
	}
	n := uint64(0)
	for k, b := range had {
		switch {
		case k == i || x.Entries[k].Lost:
		case len(b) == 0:
			return nil
		default:
			n ^= number(b)
		}
	}
	if crc(block(n)) != x.Entries[i].Sum {
		return nil
	}
	return block(n)
}

// wantAll are the blocks after the writing, each that is written, or else that was known, and then the parity.
func wantAll(x api.Table, had [][]byte, ats []int, blocks [][]byte) (all [][]byte) {
	parity := uint64(0)
	for i := range had[:len(had)-1] {
		b := wantKnown(x, had, i)
		if k := slices.Index(ats, i); k >= 0 {
			b = blocks[k]
		}
		if b != nil {
			parity ^= number(b)
		}
		all = append(all, b)
	}
	return append(all, block(parity))
}

// wantEntries are the entries of the table after the writing, if all are the blocks then.
func wantEntries(x api.Table, all [][]byte, ats []int, stamp int) (l []api.Entry) {
	for i, b := range all {
		switch {
		case slices.Contains(ats, i) || i == len(all)-1:
			l = append(l, api.Entry{Stamp: stamp, Sum: crc(b)})
		case b == nil:
			l = append(l, api.Entry{Stamp: x.Entries[i].Stamp, Sum: x.Entries[i].Sum, Lost: true})
		default:
			l = append(l, x.Entries[i])
		}
	}
	return l
}

// Calls, held against what they are to answer.

// writes is what Write returns, and tells an error unless that is want, and the parity the last of all.
func writes(t *testing.T, g api.Geometry, x api.Table, had [][]byte, ats []int, blocks [][]byte, stamp int, want []api.Entry, parity []byte) {
	t.Helper()
	next, p, e := stripe.Write(g, x, had, ats, blocks, stamp)
	if e != api.OK || !slices.Equal(next.Entries, want) || !bytes.Equal(p, parity) {
		t.Fatalf("Write(%+v, %+v, %x, %d, %x, %d) = %+v, %x, %v, want %+v, %x", g, x, had, ats, blocks, stamp, next, p, e, want, parity)
	}
}

// isRight tells an error unless Write answers as the second program does.
func isRight(t *testing.T, g api.Geometry, x api.Table, had [][]byte, ats []int, blocks [][]byte, stamp int) {
	t.Helper()
	all := wantAll(x, had, ats, blocks)
	writes(t, g, x, had, ats, blocks, stamp, wantEntries(x, all, ats, stamp), all[g.Data])
}

// work returns what Write does, which is to succeed.
func work(t *testing.T, g api.Geometry, x api.Table, had [][]byte, ats []int, blocks [][]byte, stamp int) (api.Table, []byte) {
	t.Helper()
	next, parity, e := stripe.Write(g, x, had, ats, blocks, stamp)
	if e != api.OK {
		t.Fatalf("Write(%+v, %+v, %x, %d, %x, %d) is the error %v", g, x, had, ats, blocks, stamp, e)
	}
	return next, parity
}

// writeFails tells an error unless Write returns the error want and nothing beside it.
func writeFails(t *testing.T, g api.Geometry, x api.Table, had [][]byte, ats []int, blocks [][]byte, stamp int, want api.Errno) {
	t.Helper()
	next, parity, e := stripe.Write(g, x, had, ats, blocks, stamp)
	if e != want || next.Entries != nil || parity != nil {
		t.Fatalf("Write(%+v, %+v, %x, %d, %x, %d) = %+v, %x, %v, not the error %v alone", g, x, had, ats, blocks, stamp, next, parity, e, want)
	}
}

// isSameImage tells whether two images are the same.
func isSameImage(a, b api.Image) bool {
	return a.Zone == b.Zone && a.What == b.What && bytes.Equal(a.Bytes, b.Bytes)
}

// wantImages are the images of the blocks, of the parity and of the table, the encoding of which is written here number by number.
func wantImages(z int, x api.Table, parity []byte, ats []int, blocks [][]byte) (l []api.Image) {
	for i, at := range ats {
		l = append(l, api.Image{Zone: z, What: at, Bytes: blocks[i]})
	}
	var b []byte
	for _, in := range x.Entries {
		lost := byte(0)
		if in.Lost {
			lost = 1
		}
		b = binary.LittleEndian.AppendUint32(b, uint32(in.Stamp))
		b = append(binary.LittleEndian.AppendUint32(b, uint32(in.Sum)), lost)
	}
	return append(l, api.Image{Zone: z, What: -1, Bytes: parity}, api.Image{Zone: z, What: 255, Bytes: b})
}

// showImages tells an error unless Images returns those that it is to, with the table that package table reads in the last one.
func showImages(t *testing.T, g api.Geometry, z int, x api.Table, parity []byte, ats []int, blocks [][]byte) {
	t.Helper()
	l, e := stripe.Images(g, z, x, parity, ats, blocks)
	if want := wantImages(z, x, parity, ats, blocks); e != api.OK || !slices.EqualFunc(l, want, isSameImage) {
		t.Fatalf("Images(%+v, %d, %+v, %x, %d, %x) = %+v, %v, want %+v", g, z, x, parity, ats, blocks, l, e, want)
	}
	if read, e := table.Read(g, l[len(l)-1].Bytes); e != api.OK || !slices.Equal(read.Entries, x.Entries) {
		t.Fatalf("the image of the table %+v reads as %+v, %v", x, read, e)
	}
}

// imagesFail tells an error unless Images returns the error want and nothing beside it.
func imagesFail(t *testing.T, g api.Geometry, z int, x api.Table, parity []byte, ats []int, blocks [][]byte, want api.Errno) {
	t.Helper()
	if l, e := stripe.Images(g, z, x, parity, ats, blocks); e != want || l != nil {
		t.Fatalf("Images(%+v, %d, %+v, %x, %d, %x) = %+v, %v, not the error %v alone", g, z, x, parity, ats, blocks, l, e, want)
	}
}

// Zones to write to.

// sample is a zone as it was written: its table, the bytes of all its blocks, those that are lost too, and its parity.
type sample struct {
	g   api.Geometry
	x   api.Table
	all [][]byte
}

// nums are stamps and checksums, the edges of signed and of shorter numbers among them.
var nums = []int{0, 1, 2, 255, 256, 65535, 65536, 0x04030201, 1<<31 - 1, 1 << 31, api.MaxNum - 1, api.MaxNum}

// wrongNums are neither, such as a conversion could make one of among them.
var wrongNums = []int{-1, -2, math.MinInt32, math.MinInt, api.MaxNum + 1, api.MaxNum + 2, 1 << 40, math.MaxInt}

// written is the zone with these blocks, of which those are lost whose bits in lost are 1.
func written(g api.Geometry, lost int, blocks [][]byte) sample {
	s := sample{g: g}
	parity := uint64(0)
	add := func(b []byte, isLost bool) {
		s.x.Entries = append(s.x.Entries, api.Entry{Stamp: nums[(lost+len(s.all))%len(nums)], Sum: crc(b), Lost: isLost})
		s.all = append(s.all, b)
	}
	for i, b := range blocks[:g.Data] {
		isLost := lost>>i&1 == 1
		add(b, isLost)
		if !isLost {
			parity ^= number(b)
		}
	}
	add(block(parity), false)
	return s
}

// lost are the blocks of s that are lost, each as a bit.
func (s sample) lost() (n int) {
	for i, in := range s.x.Entries {
		if in.Lost {
			n |= 1 << i
		}
	}
	return n
}

// has is what is available of s if that is what was written, but nothing of those whose bits in miss are 1.
func (s sample) has(miss int) (had [][]byte) {
	return without(s.all, miss)
}

// unknown are the blocks of s that are not known then, each as a bit: those that are lost, and those in miss, unless just one of these and the
// parity is not lost.
func (s sample) unknown(miss int) int {
	miss &^= s.lost()
	if bits.OnesCount(uint(miss)) <= 1 {
		miss = 0
	}
	return s.lost() | miss&(1<<s.g.Data-1)
}

// with is s with another entry in its table, as change makes it.
func (s sample) with(i int, change func(in *api.Entry)) sample {
	s.x.Entries = slices.Clone(s.x.Entries)
	change(&s.x.Entries[i])
	return s
}

// without is l, but nothing of those whose bits in gone are 1.
func without(l [][]byte, gone int) [][]byte {
	l = slices.Clone(l)
	for i := range l {
		if gone>>i&1 == 1 {
			l[i] = nil
		}
	}
	return l
}

// replaced is l with b in place of the element i.
func replaced(l [][]byte, i int, b []byte) [][]byte {
	l = slices.Clone(l)
	l[i] = b
	return l
}

// allReplaced is l with the blocks in place of the elements ats.
func allReplaced(l [][]byte, ats []int, blocks [][]byte) [][]byte {
	for i, at := range ats {
		l = replaced(l, at, blocks[i])
	}
	return l
}

// anyBlock is any of all blocks, and anyBlocks are four.
func anyBlock(random *rand.Rand) []byte { return block(random.Uint64()) }
func anyBlocks(random *rand.Rand) [][]byte {
	return [][]byte{anyBlock(random), anyBlock(random), anyBlock(random), anyBlock(random)}
}

// contents are the blocks of zones: of zero bytes, the greatest ones, all the same, such as differ in one bit, such as tell their order, and
// any.
func contents(random *rand.Rand) (l [][][]byte) {
	l = append(l, slices.Repeat([][]byte{block(0)}, 4), slices.Repeat([][]byte{block(math.MaxUint64)}, 4), slices.Repeat([][]byte{block(7)}, 4))
	l = append(l, [][]byte{block(1), block(1 << 20), block(1 << 40), block(1 << 63)}, anyBlocks(random))
	return append(l, [][]byte{{1, 2, 3, 4, 5, 6, 7, 8}, {11, 12, 13, 14, 15, 16, 17, 18}, []byte("8 bytes."), {255, 0, 255, 0, 255, 0, 255, 0}})
}

// samples are zones of one to four blocks with each set of lost blocks and each of the contents.
func samples(random *rand.Rand) (l []sample) {
	for _, g := range someGeometries() {
		for lost := range 1 << g.Data {
			for _, blocks := range contents(random) {
				l = append(l, written(g, lost, blocks))
			}
		}
	}
	return l
}

// someSamples are such with each set of lost blocks, the blocks any.
func someSamples(random *rand.Rand) (l []sample) {
	for _, g := range someGeometries() {
		for lost := range 1 << g.Data {
			l = append(l, written(g, lost, anyBlocks(random)))
		}
	}
	return l
}

// indices are those whose bits in set are 1.
func indices(set int) (l []int) {
	for ; set != 0; set &= set - 1 {
		l = append(l, bits.TrailingZeros(uint(set)))
	}
	return l
}

// writings are all sets of indices of a zone that can be written.
func writings(g api.Geometry) (l [][]int) {
	for set := 1; set < 1<<g.Data; set++ {
		l = append(l, indices(set))
	}
	return l
}

// P14.1: by hand, the checksums worked out by another program.
func TestByHand(t *testing.T) {
	first, second, third := []byte{1, 2, 3, 4, 5, 6, 7, 8}, []byte{16, 32, 48, 64, 80, 96, 112, 128}, []byte{255, 0, 255, 0, 255, 0, 255, 0}
	parity, text, nines := []byte{0xee, 0x22, 0xcc, 0x44, 0xaa, 0x66, 0x88, 0x88}, []byte("8 bytes."), bytes.Repeat([]byte{9}, 8)
	was := []api.Entry{{Stamp: 4, Sum: 0x46891f81}, {Stamp: 9, Sum: 0x1ee00e76}, {Sum: 0xa96660d2}, {Stamp: 9, Sum: 0xf10f7125}}
	textIn, ninesIn := api.Entry{Stamp: 12, Sum: 0x80efa59e}, api.Entry{Stamp: 12, Sum: 0x9354e831}
	lost := func(in api.Entry) api.Entry { in.Lost = true; return in }
	parityIn := func(sum int) api.Entry { return api.Entry{Stamp: 12, Sum: sum} }
	whole, half := api.Table{Entries: was}, api.Table{Entries: []api.Entry{was[0], lost(was[1]), was[2], {Sum: 0x63c7cdd9}}}
	halfParity := []byte{0xfe, 2, 0xfc, 4, 0xfa, 6, 0xf8, 8}
	firstTextThird := []byte{0xc6, 0x22, 0x9e, 0x7d, 0x8e, 0x63, 0x8b, 0x26}
	for _, test := range []struct {
		name   string
		x      api.Table
		had    [][]byte
		ats    []int
		blocks [][]byte
		want   []api.Entry
		parity []byte
	}{
		{"one of three", whole, [][]byte{first, second, third, parity}, []int{1}, [][]byte{text},
			[]api.Entry{was[0], textIn, was[2], parityIn(0x6f00dacd)}, firstTextThird},
		{"one that was not available", whole, [][]byte{first, nil, third, parity}, []int{1}, [][]byte{text},
			[]api.Entry{was[0], textIn, was[2], parityIn(0x6f00dacd)}, firstTextThird},
		{"one that was not known", whole, [][]byte{first, nil, third, nil}, []int{1}, [][]byte{text},
			[]api.Entry{was[0], textIn, was[2], parityIn(0x6f00dacd)}, firstTextThird},
		{"another one was known by the parity", whole, [][]byte{nil, second, third, parity}, []int{1}, [][]byte{text},
			[]api.Entry{was[0], textIn, was[2], parityIn(0x6f00dacd)}, firstTextThird},
		{"another one was not known", whole, [][]byte{nil, second, third, nil}, []int{1}, [][]byte{text},
			[]api.Entry{lost(was[0]), textIn, was[2], parityIn(0xa5a177c6)}, []byte{0xc7, 0x20, 0x9d, 0x79, 0x8b, 0x65, 0x8c, 0x2e}},
		{"nothing was known", whole, [][]byte{nil, nil, nil, nil}, []int{1}, [][]byte{text},
			[]api.Entry{lost(was[0]), textIn, lost(was[2]), parityIn(0x80efa59e)}, text},
		{"two of three", whole, [][]byte{first, second, third, nil}, []int{0, 1}, [][]byte{nines, text},
			[]api.Entry{ninesIn, textIn, was[2], parityIn(0xbadd2d7d)}, []byte{0xce, 0x29, 0x94, 0x70, 0x82, 0x6c, 0x85, 0x27}},
		{"all", whole, [][]byte{first, second, third, parity}, []int{0, 1, 2}, [][]byte{first, text, nines},
			[]api.Entry{{Stamp: 12, Sum: 0x46891f81}, textIn, ninesIn, parityIn(0x5532522e)}, []byte{0x30, 0x2b, 0x68, 0x74, 0x78, 0x6a, 0x7d, 0x2f}},
		{"the same bytes", whole, [][]byte{first, second, third, parity}, []int{2}, [][]byte{third},
			[]api.Entry{was[0], was[1], {Stamp: 12, Sum: 0xa96660d2}, parityIn(0xf10f7125)}, parity},
		{"one that was lost", half, [][]byte{first, nil, third, halfParity}, []int{1}, [][]byte{text},
			[]api.Entry{was[0], textIn, was[2], parityIn(0x6f00dacd)}, firstTextThird},
		{"one beside one that was lost", half, [][]byte{first, nil, third, halfParity}, []int{2}, [][]byte{third},
			[]api.Entry{was[0], lost(was[1]), {Stamp: 12, Sum: 0xa96660d2}, parityIn(0x63c7cdd9)}, halfParity},
		{"beside a lost one with bytes", half, [][]byte{first, second, third, halfParity}, []int{2}, [][]byte{text},
			[]api.Entry{was[0], lost(was[1]), textIn, parityIn(0x4a4e0895)}, []byte{0x39, 0x22, 0x61, 0x7d, 0x71, 0x63, 0x74, 0x26}},
		{"lost, and another not known", half, [][]byte{first, nil, nil, nil}, []int{1}, [][]byte{text},
			[]api.Entry{was[0], textIn, lost(was[2]), parityIn(0x4a4e0895)}, []byte{0x39, 0x22, 0x61, 0x7d, 0x71, 0x63, 0x74, 0x26}},
	} {
		t.Run(test.name, func(t *testing.T) {
			writes(t, geo(1, 3, 0, 14, 1), test.x, test.had, test.ats, test.blocks, 12, test.want, test.parity)
		})
	}
	// The parity of one block is the same bytes.
	one := api.Table{Entries: []api.Entry{{Sum: 0x8c28b28a}, {Sum: 0x8c28b28a}}}
	writes(t, geo(1, 1, 0, 14, 1), one, make([][]byte, 2), []int{0}, [][]byte{text}, 0, []api.Entry{{Sum: 0x80efa59e}, {Sum: 0x80efa59e}}, text)
}

// P14.1: the images by hand.
func TestImagesByHand(t *testing.T) {
	x := api.Table{Entries: []api.Entry{{Stamp: 513, Sum: 0x46891f81}, {Stamp: 9, Sum: 0x1ee00e76, Lost: true}, {Stamp: api.MaxNum, Sum: 0xa96660d2}, {Sum: 1}}}
	first, text, nines := []byte{1, 2, 3, 4, 5, 6, 7, 8}, []byte("8 bytes."), bytes.Repeat([]byte{9}, 8)
	l, e := stripe.Images(geo(4, 3, 0, 14, 1), 3, x, nines, []int{0, 2}, [][]byte{first, text})
	want := []api.Image{
		{Zone: 3, What: 0, Bytes: []byte{1, 2, 3, 4, 5, 6, 7, 8}},
		{Zone: 3, What: 2, Bytes: []byte{'8', ' ', 'b', 'y', 't', 'e', 's', '.'}},
		{Zone: 3, What: -1, Bytes: []byte{9, 9, 9, 9, 9, 9, 9, 9}},
		{Zone: 3, What: 255, Bytes: []byte{
			1, 2, 0, 0, 0x81, 0x1f, 0x89, 0x46, 0, 9, 0, 0, 0, 0x76, 0x0e, 0xe0, 0x1e, 1, 255, 255, 255, 255, 0xd2, 0x60, 0x66, 0xa9, 0, 0, 0, 0, 0, 1, 0, 0, 0, 0,
		}},
	}
	if e != api.OK || !slices.EqualFunc(l, want, isSameImage) {
		t.Fatalf("Images = %+v, %v, want %+v", l, e, want)
	}
}

// P14.1: the chapter's example: writing one block gives three images: of that block, of the parity, and of the table.
func TestExample(t *testing.T) {
	random := rand.New(rand.NewSource(1))
	for _, s := range someSamples(random) {
		for at := range s.g.Data {
			blocks := [][]byte{anyBlock(random)}
			next, parity := work(t, s.g, s.x, s.has(0), []int{at}, blocks, 7)
			l, e := stripe.Images(s.g, s.g.Zones-1, next, parity, []int{at}, blocks)
			if e != api.OK || len(l) != 3 || l[0].What != at || l[1].What != api.Parity || l[2].What != 255 {
				t.Fatalf("writing the block %d gives the images %+v, %v", at, l, e)
			}
		}
	}
}

// P14.1: zones as they were written, with each set of lost blocks, each set of those that are not available, the parity among them or not, and
// each set of those that are written: the blocks and the parity that are to be then, entry by entry.
func TestEachSet(t *testing.T) {
	random := rand.New(rand.NewSource(2))
	for n, s := range samples(random) {
		for miss := range 2 << s.g.Data {
			for _, ats := range writings(s.g) {
				stamp := nums[(n+miss+len(ats))%len(nums)]
				blocks := anyBlocks(random)[:len(ats)]
				now := allReplaced(without(s.all, s.unknown(miss)), ats, blocks)
				parity := uint64(0)
				for _, b := range now[:s.g.Data] {
					if b != nil {
						parity ^= number(b)
					}
				}
				now[s.g.Data] = block(parity)
				want := slices.Clone(s.x.Entries)
				for i, b := range now {
					want[i].Lost = b == nil
				}
				for _, at := range append(slices.Clone(ats), s.g.Data) {
					want[at] = api.Entry{Stamp: stamp, Sum: crc(now[at])}
				}
				writes(t, s.g, s.x, s.has(miss), ats, blocks, stamp, want, now[s.g.Data])
				isRight(t, s.g, s.x, s.has(miss), ats, blocks, stamp)
			}
		}
	}
}

// P14.1: what is available of a lost block makes no difference, whether it is written or not.
func TestLostButAvailable(t *testing.T) {
	random := rand.New(rand.NewSource(3))
	for _, s := range someSamples(random) {
		for miss := range 2 << s.g.Data {
			had := s.has(miss | s.lost())
			for _, i := range indices(s.lost()) {
				had[i] = anyBlock(random)
			}
			for _, ats := range writings(s.g) {
				blocks := anyBlocks(random)[:len(ats)]
				next, parity := work(t, s.g, s.x, s.has(miss|s.lost()), ats, blocks, 7)
				writes(t, s.g, s.x, had, ats, blocks, 7, next.Entries, parity)
				isRight(t, s.g, s.x, had, ats, blocks, 7)
			}
		}
	}
}

// P14.1: of a zone of which nothing is known, or all blocks are lost, those that are written are not lost, all others are, with their Stamp and
// Sum as they were, and the parity is the xor of those that are written.
func TestNothingKnown(t *testing.T) {
	random := rand.New(rand.NewSource(4))
	for _, s := range someSamples(random) {
		for _, ats := range writings(s.g) {
			blocks := anyBlocks(random)[:len(ats)]
			next, parity := work(t, s.g, s.x, make([][]byte, s.g.Data+1), ats, blocks, 7)
			want := uint64(0)
			for _, b := range blocks {
				want ^= number(b)
			}
			if !bytes.Equal(parity, block(want)) {
				t.Fatalf("the parity of %x is %x", blocks, parity)
			}
			for i, in := range next.Entries[:s.g.Data] {
				was := s.x.Entries[i]
				if !slices.Contains(ats, i) && (!in.Lost || in.Stamp != was.Stamp || in.Sum != was.Sum) {
					t.Fatalf("the entry %+v of a block that is neither known nor written has become %+v", was, in)
				}
				if slices.Contains(ats, i) && in.Lost {
					t.Fatalf("the entry of a block that is written is %+v", in)
				}
			}
		}
	}
}

// P14.1: the stamp is that of the entries of the blocks that are written and of the parity, whatever their Stamps were, greater ones too. No
// other entry of a block that is known becomes another one.
func TestStamps(t *testing.T) {
	random := rand.New(rand.NewSource(5))
	for _, s := range someSamples(random) {
		for _, stamp := range append(nums, int(random.Uint32())) {
			for _, ats := range writings(s.g) {
				next, _ := work(t, s.g, s.x, s.has(0), ats, anyBlocks(random)[:len(ats)], stamp)
				for i, in := range next.Entries {
					isNew := i == s.g.Data || slices.Contains(ats, i)
					if isNew && in.Stamp != stamp || !isNew && in != s.x.Entries[i] {
						t.Fatalf("with the stamp %d the entry %d has become %+v", stamp, i, in)
					}
				}
			}
		}
	}
}

// P14.1: a Sum in the table that is not that of a block makes it Lost if it is not available, and no difference if it is available or written.
// That of the parity makes no difference at all.
func TestWrongSums(t *testing.T) {
	random := rand.New(rand.NewSource(6))
	for _, s := range someSamples(random) {
		for i := range s.all {
			for _, sum := range append(nums, crc(s.all[i])^1, crc(block(0)), int(random.Uint32())) {
				wrong := s.with(i, func(in *api.Entry) { in.Sum = sum })
				for miss := range 2 << s.g.Data {
					for _, ats := range writings(s.g) {
						isRight(t, s.g, wrong.x, s.has(miss), ats, anyBlocks(random)[:len(ats)], 7)
					}
				}
			}
		}
	}
}

// P14.1: what is available of a block that is known is what the parity is made of, also if it is not what its entry tells of: that stays as it is.
func TestOtherBytes(t *testing.T) {
	random := rand.New(rand.NewSource(7))
	for _, s := range someSamples(random) {
		for i := range s.all {
			for miss := range 2 << s.g.Data {
				had := replaced(s.has(miss), i, seal.Flip(s.all[i], random.Intn(64), random.Intn(1<<32)))
				for _, ats := range writings(s.g) {
					isRight(t, s.g, s.x, had, ats, anyBlocks(random)[:len(ats)], 7)
				}
			}
		}
	}
}

// P14.1: all valid geometries: only the number of blocks makes a difference.
func TestGeometries(t *testing.T) {
	random := rand.New(rand.NewSource(8))
	for n, g := range geometries() {
		s := written(g, n%(1<<g.Data), anyBlocks(random))
		for _, ats := range writings(g) {
			blocks := anyBlocks(random)[:len(ats)]
			isRight(t, g, s.x, s.has(n/7%(2<<g.Data)), ats, blocks, n)
			for z := range g.Zones {
				showImages(t, g, z, s.x, s.all[g.Data], ats, blocks)
			}
		}
	}
}

// orders are all orders of l.
func orders(l []int) (all [][]int) {
	if len(l) == 0 {
		return [][]int{nil}
	}
	for i := range l {
		for _, rest := range orders(slices.Concat(l[:i], l[i+1:])) {
			all = append(all, append([]int{l[i]}, rest...))
		}
	}
	return all
}

// P14.1, P14.2: blocks that are written one by one, in whatever order, leave the same table and the same parity as those that are written at
// once. What is available in between is what was, and what has been written.
func TestOneByOne(t *testing.T) {
	random := rand.New(rand.NewSource(9))
	for _, s := range someSamples(random) {
		for miss := range 2 << s.g.Data {
			for _, ats := range writings(s.g) {
				blocks := anyBlocks(random)[:len(ats)]
				next, parity := work(t, s.g, s.x, s.has(miss), ats, blocks, 7)
				for _, order := range orders(ats) {
					x, had := s.x, s.has(miss)
					for _, at := range order {
						b := blocks[slices.Index(ats, at)]
						x, had[s.g.Data] = work(t, s.g, x, had, []int{at}, [][]byte{b}, 7)
						had[at] = b
					}
					if !slices.Equal(x.Entries, next.Entries) || !bytes.Equal(had[s.g.Data], parity) {
						t.Fatalf("%d one by one: %+v, %x, at once: %+v, %x", order, x, had[s.g.Data], next, parity)
					}
				}
			}
		}
	}
}

// isKnown tells an error unless package zone knows exactly the blocks and the parity in want, which are not nil, from what is available.
func isKnown(t *testing.T, g api.Geometry, x api.Table, had, want [][]byte) {
	t.Helper()
	blocks, known, e := zone.All(g, x, had)
	if e != api.OK || !slices.EqualFunc(blocks, want, bytes.Equal) {
		t.Fatalf("with %+v and %x available, %x are known, %v, want %x", x, had, blocks, e, want)
	}
	for i, b := range want {
		if known[i] != (b != nil) {
			t.Fatalf("with %+v and %x available, %v are known, want %x", x, had, known, want)
		}
	}
}

// P14.2: with the new table and what was written, what was known and was not written is known, and what was written, with all of it available
// and with each one of it not available.
func TestRemainsKnown(t *testing.T) {
	random := rand.New(rand.NewSource(10))
	for _, s := range samples(random) {
		for miss := range 2 << s.g.Data {
			for _, ats := range writings(s.g) {
				blocks := anyBlocks(random)[:len(ats)]
				next, parity := work(t, s.g, s.x, s.has(miss), ats, blocks, 7)
				want := replaced(allReplaced(without(s.all, s.unknown(miss)), ats, blocks), s.g.Data, parity)
				isKnown(t, s.g, next, want, want)
				for i := range want {
					isKnown(t, s.g, next, replaced(want, i, nil), want)
				}
			}
		}
	}
}

// P14.2: what was known by the parity alone remains known by the new one, though nothing is available but what was before and what was written.
// Any one may then be not available, as long as it is the only one.
func TestRemainsKnownByTheParity(t *testing.T) {
	random := rand.New(rand.NewSource(11))
	for _, s := range samples(random) {
		for miss := range 2 << s.g.Data {
			for _, ats := range writings(s.g) {
				blocks := anyBlocks(random)[:len(ats)]
				next, parity := work(t, s.g, s.x, s.has(miss), ats, blocks, 7)
				had := replaced(allReplaced(s.has(miss), ats, blocks), s.g.Data, parity)
				want := replaced(allReplaced(without(s.all, s.unknown(miss)), ats, blocks), s.g.Data, parity)
				isKnown(t, s.g, next, had, want)
				for i := range had {
					// Not available, but known, is at most one, and that may be the one.
					isOther := func(k int) bool { return k != i && had[k] == nil && want[k] != nil }
					if !slices.ContainsFunc(indices(1<<s.g.Data-1), isOther) {
						isKnown(t, s.g, next, replaced(had, i, nil), want)
					}
				}
			}
		}
	}
}

// P14.2: rows of writings, now and then one block or the parity not available, and never more: nothing is ever lost, and all is what was
// written last.
func TestRowsOfWritings(t *testing.T) {
	random := rand.New(rand.NewSource(12))
	for _, g := range someGeometries() {
		all := slices.Repeat([][]byte{block(0)}, g.Data+1)
		x, e := table.First(g)
		if e != api.OK {
			t.Fatal(e)
		}
		for stamp := range 3000 {
			ats := indices(1 + random.Intn(1<<g.Data-1))
			blocks := anyBlocks(random)[:len(ats)]
			next, parity := work(t, g, x, without(all, 1<<random.Intn(2*g.Data+2)), ats, blocks, stamp)
			x, all = next, replaced(allReplaced(all, ats, blocks), g.Data, parity)
			if l, e := table.Lost(g, x); e != api.OK || len(l) > 0 {
				t.Fatalf("the blocks %d are lost, %v", l, e)
			}
			isKnown(t, g, x, without(all, 1<<random.Intn(2*g.Data+2)), all)
		}
	}
}

// badAts are not indices of a zone in ascending order.
func badAts(g api.Geometry) (l [][]int) {
	last := g.Data - 1
	l = append(l, nil, []int{}, []int{0}[:0], []int{0, 0}, []int{last, last}, []int{1, 0}, []int{last, 0}, []int{last, last - 1}, []int{0, last, last}, []int{0, 0, last})
	for _, n := range []int{-1, -2, -3, -4, -5, g.Data, g.Data + 1, 5, 254, 255, 256, 1 << 31, 1 << 32, 1<<32 + 1, -1 << 32, math.MinInt + 1, math.MinInt, math.MaxInt} {
		l = append(l, []int{n}, []int{n, 0}, []int{0, n}, []int{n, last}, []int{last, n}, []int{n, n})
	}
	all := indices(1<<g.Data - 1)
	backwards := append(slices.Clone(all), 0, 0)
	slices.Reverse(backwards)
	l = append(l, append(slices.Clone(all), g.Data), append([]int{-1}, all...), append(slices.Clone(all), last), append([]int{0}, all...), backwards)
	for _, order := range orders(all) {
		if !slices.IsSorted(order) {
			l = append(l, order)
		}
	}
	return append(l, make([]int, 1<<16), indices(1<<62-1))
}

// P14.1: ats that are none, not in ascending order, with an index twice, or with one that is not of a block of a zone, are ErrArg, whatever else
// there is in them, and with however many blocks. Parity is not the index of a block.
func TestWrongAts(t *testing.T) {
	for _, s := range someSamples(rand.New(rand.NewSource(13))) {
		for _, ats := range badAts(s.g) {
			for _, miss := range []int{0, 1, 2<<s.g.Data - 1} {
				writeFails(t, s.g, s.x, s.has(miss), ats, slices.Repeat([][]byte{block(7)}, len(ats)), 7, api.ErrArg)
				writeFails(t, s.g, s.x, s.has(miss), ats, s.all[:1], 7, api.ErrArg)
			}
			imagesFail(t, s.g, 0, s.x, block(7), ats, slices.Repeat([][]byte{block(7)}, len(ats)), api.ErrArg)
			imagesFail(t, s.g, 0, s.x, block(7), ats, s.all[:1], api.ErrArg)
		}
	}
}

// P14.1: stamps beyond their bounds are ErrArg; those at them are not, and are in the entries.
func TestWrongStamps(t *testing.T) {
	for _, s := range someSamples(rand.New(rand.NewSource(14))) {
		for _, ats := range writings(s.g) {
			for _, stamp := range append(wrongNums, -1<<32, 1<<32+7, 7-1<<32) {
				writeFails(t, s.g, s.x, s.has(0), ats, s.all[:len(ats)], stamp, api.ErrArg)
				writeFails(t, s.g, s.x, s.has(2<<s.g.Data-1), ats, nil, stamp, api.ErrArg)
			}
			for _, stamp := range []int{0, 1, api.MaxNum - 1, api.MaxNum} {
				isRight(t, s.g, s.x, s.has(0), ats, s.all[:len(ats)], stamp)
			}
		}
	}
}

// lengths are numbers of bytes that a block does not have.
var lengths = []int{0, 1, 2, 3, 4, 5, 6, 7, 9, 10, 15, 16, 17, 24, 96, 97, 255, 256, 264, 1<<16 + 8}

// badBlocks are lists that are not n blocks: of another number, and with one of another length in each place.
func badBlocks(n int) (l [][][]byte) {
	right := slices.Repeat([][]byte{block(7)}, n+1)
	l = append(l, nil, [][]byte{}, right[:0], right[:n-1], right, slices.Concat(right, right), make([][]byte, n), make([][]byte, n-1), make([][]byte, 1<<16))
	for i := range n {
		l = append(l, replaced(right[:n], i, nil), append(slices.Clone(right[:i]), slices.Insert(slices.Clone(right[i:n]), 0, []byte{})...))
		for _, length := range lengths {
			l = append(l, replaced(right[:n], i, make([]byte, length)))
		}
	}
	return l
}

// P14.1: as many blocks as ats, each of Block bytes, else it is ErrLen. What is behind a length does not count.
func TestWrongBlocks(t *testing.T) {
	for _, s := range someSamples(rand.New(rand.NewSource(15))) {
		for _, ats := range writings(s.g) {
			for _, blocks := range badBlocks(len(ats)) {
				writeFails(t, s.g, s.x, s.has(0), ats, blocks, 7, api.ErrLen)
				writeFails(t, s.g, s.x, s.has(3), ats, blocks, 7, api.ErrLen)
				imagesFail(t, s.g, 0, s.x, block(7), ats, blocks, api.ErrLen)
			}
		}
	}
}

// wrongTables are tables of a zone like s that are not valid: too few Entries, too many, none, numbers out of their bounds in each of them, and
// a parity that is Lost.
func wrongTables(s sample) (l []api.Table) {
	l = append(l, api.Table{}, api.Table{Entries: []api.Entry{}}, api.Table{Entries: s.x.Entries[:s.g.Data]}, api.Table{Entries: s.x.Entries[1:]})
	l = append(l, api.Table{Entries: slices.Concat(s.x.Entries, s.x.Entries[:1])}, api.Table{Entries: slices.Concat(s.x.Entries, s.x.Entries)})
	for i := range s.all {
		for _, n := range wrongNums {
			l = append(l, s.with(i, func(in *api.Entry) { in.Stamp = n }).x, s.with(i, func(in *api.Entry) { in.Sum = n }).x)
		}
	}
	return append(l, s.with(s.g.Data, func(in *api.Entry) { in.Lost = true }).x)
}

// wrongHad are lists that can't be what is available of s.
func wrongHad(s sample) [][][]byte {
	return [][][]byte{
		nil, {}, {nil}, {{1}}, s.has(0)[1:], s.has(0)[:s.g.Data], append(s.has(0), nil), append(s.has(0), block(7)), append(s.has(0), []byte{1}),
		replaced(s.has(0), 0, make([]byte, 7)), replaced(s.has(0), s.g.Data, make([]byte, 9)), replaced(s.has(0)[1:], 0, make([]byte, 7)),
		make([][]byte, 1<<16), slices.Repeat([][]byte{{1}}, s.g.Data+1),
	}
}

// P14.1, R4: a table that is not valid, also in an entry that is to be written, is ErrArg, ahead of all else.
func TestWrongTables(t *testing.T) {
	for _, s := range someSamples(rand.New(rand.NewSource(16))) {
		lists := wrongHad(s)
		for _, x := range wrongTables(s) {
			for _, ats := range append(writings(s.g), nil) {
				blocks := s.all[:len(ats)]
				writeFails(t, s.g, x, s.has(0), ats, blocks, 7, api.ErrArg)
				imagesFail(t, s.g, 0, x, block(7), ats, blocks, api.ErrArg)
				imagesFail(t, s.g, 0, x, nil, ats, nil, api.ErrArg)
				for _, had := range lists {
					writeFails(t, s.g, x, had, ats, nil, 7, api.ErrArg)
				}
			}
		}
	}
}

// P14.1: what is available as the chapter of zone refuses it is ErrLen, ahead of ats and the stamp, also if what is wrong is to be written.
func TestWrongHad(t *testing.T) {
	for _, s := range someSamples(rand.New(rand.NewSource(17))) {
		lists := wrongHad(s)
		for i := range s.all {
			for _, n := range lengths[1:] {
				lists = append(lists, replaced(s.has(0), i, make([]byte, n)), replaced(s.has(2<<s.g.Data-1), i, make([]byte, n)))
			}
		}
		for _, had := range lists {
			for _, ats := range append(writings(s.g), nil, []int{-1}) {
				writeFails(t, s.g, s.x, had, ats, s.all[:len(ats)], 7, api.ErrLen)
				writeFails(t, s.g, s.x, had, ats, s.all[:len(ats)], -1, api.ErrLen)
			}
		}
	}
}

// P14.1, R4: a geometry that is not valid is ErrArg, each number one beyond its bounds and far out, ahead of all else.
func TestWrongGeometries(t *testing.T) {
	for _, s := range someSamples(rand.New(rand.NewSource(18))) {
		for _, g := range wrongGeometries(s.g) {
			x, had := s.x, s.has(0)
			// As many entries and elements as Data says.
			if g.Data >= 0 && g.Data <= 5 {
				x = api.Table{Entries: slices.Repeat(s.x.Entries[s.g.Data:], g.Data+1)}
				had = slices.Repeat([][]byte{block(0)}, g.Data+1)
			}
			writeFails(t, g, x, had, []int{0}, s.all[:1], 7, api.ErrArg)
			imagesFail(t, g, 0, x, block(7), []int{0}, s.all[:1], api.ErrArg)
			writeFails(t, g, x, nil, nil, nil, 7, api.ErrArg)
			imagesFail(t, g, 0, x, nil, nil, nil, api.ErrArg)
		}
	}
}

// P14.1: a table of another geometry is ErrArg if its zones have another number of blocks.
func TestAnotherGeometry(t *testing.T) {
	for _, s := range someSamples(rand.New(rand.NewSource(19))) {
		for _, g := range someGeometries() {
			if g.Data != s.g.Data {
				writeFails(t, g, s.x, s.has(0), []int{0}, s.all[:1], 7, api.ErrArg)
				writeFails(t, g, s.x, make([][]byte, g.Data+1), []int{0}, s.all[:1], 7, api.ErrArg)
				imagesFail(t, g, 0, s.x, block(7), []int{0}, s.all[:1], api.ErrArg)
			}
		}
	}
}

// P14.1, R4: of several errors of Write the first one in the chapter's order is returned: that of the geometry and the table, that of what is
// available, that of ats and the stamp, and that of the blocks: each set of them at once.
func TestOrderOfErrors(t *testing.T) {
	for _, s := range someSamples(rand.New(rand.NewSource(20))) {
		for wrong := 1; wrong < 64; wrong++ {
			g, x, had, ats, stamp, blocks := s.g, s.x, s.has(0), []int{0}, 7, [][]byte{block(7)}
			var errors []api.Errno
			spoil := func(bit int, e api.Errno, spoilt func()) {
				if wrong>>bit&1 == 1 {
					spoilt()
					errors = append(errors, e)
				}
			}
			spoil(0, api.ErrArg, func() { g.Slots = 13 })
			spoil(1, api.ErrArg, func() { x = s.with(0, func(in *api.Entry) { in.Sum = -1 }).x })
			spoil(2, api.ErrLen, func() { had = replaced(had, 0, []byte{1}) })
			spoil(3, api.ErrArg, func() { ats = []int{s.g.Data} })
			spoil(4, api.ErrArg, func() { stamp = -1 })
			spoil(5, api.ErrLen, func() { blocks = [][]byte{{1}} })
			writeFails(t, g, x, had, ats, blocks, stamp, errors[0])
		}
	}
}

// P14.1, R4: of several errors of Images the first one in the chapter's order is returned: that of the geometry and the table, that of the zone
// and ats, and that of the blocks and the parity: each set of them at once.
func TestOrderOfErrorsOfImages(t *testing.T) {
	for _, s := range someSamples(rand.New(rand.NewSource(21))) {
		for wrong := 1; wrong < 64; wrong++ {
			g, x, z, ats, blocks, parity := s.g, s.x, 0, []int{0}, [][]byte{block(7)}, block(7)
			var errors []api.Errno
			spoil := func(bit int, e api.Errno, spoilt func()) {
				if wrong>>bit&1 == 1 {
					spoilt()
					errors = append(errors, e)
				}
			}
			spoil(0, api.ErrArg, func() { g.Slots = 13 })
			spoil(1, api.ErrArg, func() { x = s.with(0, func(in *api.Entry) { in.Sum = -1 }).x })
			spoil(2, api.ErrArg, func() { z = s.g.Zones })
			spoil(3, api.ErrArg, func() { ats = []int{s.g.Data} })
			spoil(4, api.ErrLen, func() { blocks = [][]byte{{1}} })
			spoil(5, api.ErrLen, func() { parity = []byte{1} })
			imagesFail(t, g, z, x, parity, ats, blocks, errors[0])
		}
	}
}

// P14.1: the images of each set of blocks in each zone: in order, and whatever the table says of them.
func TestImages(t *testing.T) {
	random := rand.New(rand.NewSource(22))
	for _, s := range samples(random) {
		for _, ats := range writings(s.g) {
			for z := range s.g.Zones {
				blocks := anyBlocks(random)[:len(ats)]
				showImages(t, s.g, z, s.x, anyBlock(random), ats, blocks)
				next, parity := work(t, s.g, s.x, s.has(random.Intn(2<<s.g.Data)), ats, blocks, nums[random.Intn(len(nums))])
				showImages(t, s.g, z, next, parity, ats, blocks)
			}
		}
	}
}

// P14.1: the zone is from 0 to Zones - 1, else it is ErrArg.
func TestWrongZones(t *testing.T) {
	for _, s := range someSamples(rand.New(rand.NewSource(23))) {
		for _, ats := range writings(s.g) {
			wrong := []int{-1, -2, s.g.Zones, s.g.Zones + 1, 5, 255, 256, 1 << 32, -1 << 32, math.MinInt, math.MinInt + 1, math.MaxInt}
			for _, z := range wrong {
				imagesFail(t, s.g, z, s.x, block(7), ats, s.all[:len(ats)], api.ErrArg)
				imagesFail(t, s.g, z, s.x, nil, ats, nil, api.ErrArg)
			}
		}
	}
}

// P14.1: the parity of which there is an image has Block bytes, else it is ErrLen.
func TestWrongParity(t *testing.T) {
	for _, s := range someSamples(rand.New(rand.NewSource(24))) {
		for _, ats := range writings(s.g) {
			imagesFail(t, s.g, 0, s.x, nil, ats, s.all[:len(ats)], api.ErrLen)
			for _, n := range lengths {
				imagesFail(t, s.g, 0, s.x, make([]byte, n), ats, s.all[:len(ats)], api.ErrLen)
				imagesFail(t, s.g, 0, s.x, make([]byte, n, n+8), ats, s.all[:len(ats)], api.ErrLen)
			}
		}
	}
}

// P14.1, P14.2: zones of any kind, of which anything is available, with anything written, against the second program.
func TestRandom(t *testing.T) {
	random := rand.New(rand.NewSource(25))
	all := geometries()
	for range 50000 {
		g := all[random.Intn(len(all))]
		s := written(g, random.Intn(1<<g.Data), contents(random)[random.Intn(6)])
		if random.Intn(4) == 0 {
			i := random.Intn(g.Data + 1)
			s = s.with(i, func(in *api.Entry) { in.Sum, in.Lost = nums[random.Intn(len(nums))], i < g.Data && random.Intn(2) == 0 })
		}
		had := s.has(random.Intn(2<<g.Data) & random.Intn(2<<g.Data))
		if random.Intn(4) == 0 {
			had[random.Intn(len(had))] = anyBlock(random)
		}
		ats := indices(1 + random.Intn(1<<g.Data-1))
		blocks := contents(random)[random.Intn(6)][:len(ats)]
		isRight(t, g, s.x, had, ats, blocks, int(random.Uint32()))
		showImages(t, g, random.Intn(g.Zones), s.x, s.all[g.Data], ats, blocks)
	}
}

// onDisk is a zone in the first slots of a zone of a disk.
type onDisk struct {
	t *testing.T
	g api.Geometry
	z int
	d api.Disk
	x api.Table
}

func (o *onDisk) check(e api.Errno) {
	o.t.Helper()
	if e != api.OK {
		o.t.Fatalf("the disk answers %v", e)
	}
}

// address is that of a block of the zone, or of its parity.
func (o *onDisk) address(what int) int {
	if what == api.Parity {
		what = o.g.Data
	}
	a, e := geom.Slot(o.g, o.z, what)
	o.check(e)
	return a
}

// read is what is read and verified of all cells of the zone.
func (o *onDisk) read() (had [][]byte) {
	for i, in := range o.x.Entries {
		var x api.Got
		_, x.Bytes, x.Err = disk.Read(o.d, o.address(i))
		b, _ := entry.Block(x, o.address(i), in)
		had = append(had, b)
	}
	return had
}

// write writes the blocks and the parity to their cells, as the images tell, and takes the table that is among these.
func (o *onDisk) write(ats []int, blocks [][]byte, stamp int) {
	next, parity := work(o.t, o.g, o.x, o.read(), ats, blocks, stamp)
	images, e := stripe.Images(o.g, o.z, next, parity, ats, blocks)
	o.check(e)
	for _, x := range images {
		if x.What == 255 {
			o.x, e = table.Read(o.g, x.Bytes)
			o.check(e)
			continue
		}
		b, e := seal.Make(api.Sector{Addr: o.address(x.What), Stamp: stamp, Payload: x.Bytes})
		o.check(e)
		o.d, e = disk.Write(o.d, o.address(x.What), b)
		o.check(e)
	}
	o.d, e = disk.Flush(o.d)
	o.check(e)
}

// newOnDisk is a zone of which all blocks have been written twice.
func newOnDisk(t *testing.T, g api.Geometry, z int, random *rand.Rand) *onDisk {
	o := &onDisk{t: t, g: g, z: z}
	cells, e := geom.Cells(g)
	o.check(e)
	o.d, e = disk.New(cells)
	o.check(e)
	o.x, e = table.First(g)
	o.check(e)
	for stamp := 1; stamp <= 2; stamp++ {
		o.write(indices(1<<g.Data-1), anyBlocks(random)[:g.Data], stamp)
	}
	return o
}

// P14.2: with a fault of each kind that writing mends in one cell of a zone on a disk, blocks are written; then what was known and what was
// written is known, also with another fault in the same cell, or, if that has been written anew, in any one.
func TestFaultsOnDisk(t *testing.T) {
	random := rand.New(rand.NewSource(26))
	kinds := []int{api.StepLatent, api.StepFlip, api.StepStale, api.StepMove}
	for _, g := range someGeometries() {
		sound := newOnDisk(t, g, g.Zones-1, random)
		before := sound.read()
		for _, ats := range writings(g) {
			for bad := range before {
				for _, kind := range kinds {
					o := *sound
					fault := func(d api.Disk, i int) api.Disk {
						d, e := disk.Fault(d, kind, o.address(i), 0, random.Intn(1<<20), random.Intn(1<<32))
						o.check(e)
						return d
					}
					o.d = fault(o.d, bad)
					blocks := anyBlocks(random)[:len(ats)]
					o.write(ats, blocks, 3)
					want := wantAll(sound.x, before, ats, blocks)
					isKnown(t, g, o.x, o.read(), want)
					wasWritten := bad == g.Data || slices.Contains(ats, bad)
					for i := range want {
						if wasWritten || i == bad {
							then := o
							then.d = fault(o.d, i)
							isKnown(t, g, then.x, then.read(), want)
						}
					}
				}
			}
		}
	}
}

// spare returns a copy of l with x behind its length, three times.
func spare[T any](l []T, x T) []T {
	return append(slices.Clone(l), x, x, x)[:len(l)]
}

// whole is a copy of l with all memory behind its length too.
func whole[T any](l []T) []T {
	return slices.Clone(l[:cap(l)])
}

// fill writes x over all memory of l.
func fill[T any](l []T, x T) {
	for i := range l[:cap(l)] {
		l[:cap(l)][i] = x
	}
}

// isFilled tells whether fill has been there last.
func isFilled[T comparable](l []T, x T) bool {
	return !slices.ContainsFunc(l[:cap(l)], func(y T) bool { return y != x })
}

// wholeLists is a copy of l, what is behind its length and behind those of its elements too.
func wholeLists(l [][]byte) (copies [][]byte) {
	for _, b := range l[:cap(l)] {
		copies = append(copies, whole(b))
	}
	return copies
}

func areSame(l, m [][]byte) bool {
	return slices.EqualFunc(l, m, bytes.Equal)
}

// question is what the calls are asked with.
type question struct {
	g           api.Geometry
	z, stamp    int
	entries     []api.Entry
	had, blocks [][]byte
	ats         []int
	parity      []byte
}

// copied is all that is handed in, what is behind each length too, in other memory.
func (q question) copied() question {
	q.entries, q.had, q.blocks, q.ats, q.parity = whole(q.entries), wholeLists(q.had), wholeLists(q.blocks), whole(q.ats), whole(q.parity)
	return q
}

// isAs tells whether all that is handed in is what was copied.
func (q question) isAs(was question) bool {
	sameLists := areSame(wholeLists(q.had), was.had) && areSame(wholeLists(q.blocks), was.blocks)
	return sameLists && slices.Equal(whole(q.entries), was.entries) && slices.Equal(whole(q.ats), was.ats) && bytes.Equal(whole(q.parity), was.parity)
}

// fill writes n over all memory that is handed in.
func (q question) fill(n byte) {
	for _, b := range append(q.had[:cap(q.had):cap(q.had)], q.blocks[:cap(q.blocks)]...) {
		fill(b, n)
	}
	fill(q.had, []byte{n})
	fill(q.blocks, []byte{n})
	fill(q.parity, n)
	fill(q.ats, int(n))
	fill(q.entries, api.Entry{Stamp: int(n), Sum: int(n), Lost: true})
}

// answer is what both calls come to.
type answer struct {
	next   api.Table
	parity []byte
	images []api.Image
	errors []api.Errno
}

// ask makes both calls.
func (q question) ask() (a answer) {
	a.errors = make([]api.Errno, 2)
	a.next, a.parity, a.errors[0] = stripe.Write(q.g, api.Table{Entries: q.entries}, q.had, q.ats, q.blocks, q.stamp)
	a.images, a.errors[1] = stripe.Images(q.g, q.z, api.Table{Entries: q.entries}, q.parity, q.ats, q.blocks)
	return a
}

// lists are all lists of bytes in a.
func (a answer) lists() [][]byte {
	l := [][]byte{a.parity}
	for _, x := range a.images[:cap(a.images)] {
		l = append(l, x.Bytes)
	}
	return l
}

// whole is a copy of a with all memory of its lists, that behind their lengths too.
func (a answer) whole() answer {
	a.next.Entries, a.parity, a.images = whole(a.next.Entries), whole(a.parity), whole(a.images)
	for i := range a.images {
		a.images[i].Bytes = whole(a.images[i].Bytes)
	}
	return a
}

func (a answer) isSame(b answer) bool {
	sameWrite := slices.Equal(a.next.Entries, b.next.Entries) && bytes.Equal(a.parity, b.parity)
	return sameWrite && slices.EqualFunc(a.images, b.images, isSameImage) && slices.Equal(a.errors, b.errors)
}

// roomy is the question with n behind each length.
func roomy(s sample, had [][]byte, ats []int, blocks [][]byte, n byte) question {
	q := question{g: s.g, z: s.g.Zones - 1, stamp: 7, ats: spare(ats, int(n)), parity: spare(s.all[s.g.Data], n)}
	q.entries = spare(s.x.Entries, api.Entry{Stamp: int(n), Sum: int(n), Lost: true})
	for _, b := range had {
		q.had = append(q.had, spare(b, n))
	}
	for _, b := range blocks {
		q.blocks = append(q.blocks, spare(b, n))
	}
	q.had, q.blocks = spare(q.had, bytes.Repeat([]byte{n}, 8)), spare(q.blocks, bytes.Repeat([]byte{n}, 8))
	return q
}

// questions are such as succeed and such as fail. Behind each length is n; what has been cut off is behind the length, too.
func questions(n byte) (l []question) {
	random := rand.New(rand.NewSource(27))
	for _, s := range someSamples(random) {
		for _, ats := range writings(s.g) {
			blocks := anyBlocks(random)[:len(ats)]
			for miss := range 2 << s.g.Data {
				cut := roomy(s, s.has(0), ats, blocks, n)
				for _, i := range indices(miss) {
					cut.had[i] = cut.had[i][:0]
				}
				l = append(l, roomy(s, s.has(miss), ats, blocks, n), cut)
			}
			wrong := roomy(s, s.has(0), ats, blocks, n)
			wrong.stamp, wrong.z = -1, -1
			fewer := roomy(s, s.has(0), ats, blocks, n)
			fewer.blocks = fewer.blocks[:len(ats)-1]
			short := roomy(s, s.has(0), ats, blocks, n)
			short.had[0], short.parity = short.had[0][:7], short.parity[:7]
			noTable := roomy(s, s.has(0), ats, blocks, n)
			noTable.entries = noTable.entries[:1]
			l = append(l, wrong, fewer, short, noTable, roomy(s, s.has(0), append([]int{-1}, ats...), blocks, n))
		}
	}
	return l
}

// P14.1 under R2: what is handed in stays as it was, its spare capacity too, also when all memory of the answers is written to, which they do
// not share with each other either, nor do the lists of one answer.
func TestMemory(t *testing.T) {
	for _, q := range questions(3) {
		was := q.copied()
		twice := []answer{q.ask(), q.ask()}
		lists := append(twice[0].lists(), twice[1].lists()...)
		for i, b := range lists {
			fill(b, byte(100+i))
		}
		for i, b := range lists {
			if !isFilled(b, byte(100+i)) {
				t.Fatalf("%+v: two lists that were returned share memory", q)
			}
		}
		for i, a := range twice {
			fill(a.next.Entries, api.Entry{Stamp: i})
			fill(a.images, api.Image{Zone: i})
		}
		for i, a := range twice {
			isOther := func(x api.Image) bool { return x.Zone != i || x.Bytes != nil }
			if !isFilled(a.next.Entries, api.Entry{Stamp: i}) || slices.ContainsFunc(a.images[:cap(a.images)], isOther) {
				t.Fatalf("%+v: two answers share their lists", q)
			}
		}
		if !q.isAs(was) {
			t.Fatalf("%+v has become %+v", was, q.copied())
		}
	}
}

// P14.1 under R2: the answers stay as they were when all memory of what was handed in is written to.
func TestMemoryHandedIn(t *testing.T) {
	for _, q := range questions(3) {
		a := q.ask()
		was := a.whole()
		q.fill(77)
		if !a.whole().isSame(was) {
			t.Fatalf("%+v has become %+v", was, a)
		}
	}
}

// P14.1 under R2: blocks that are the same memory, as each other, as what is available and as the parity, are returned in memory of their own.
func TestElementsThatShareMemory(t *testing.T) {
	for _, g := range someGeometries() {
		for _, ats := range writings(g) {
			same := block(7)
			all := slices.Repeat([][]byte{same}, g.Data+1)
			q := question{g: g, had: all, blocks: all[:len(ats)], ats: ats, parity: same}
			q.entries = slices.Repeat([]api.Entry{{Sum: crc(same)}}, g.Data+1)
			isRight(t, g, api.Table{Entries: q.entries}, q.had, q.ats, q.blocks, q.stamp)
			showImages(t, g, q.z, api.Table{Entries: q.entries}, q.parity, q.ats, q.blocks)
			lists := q.ask().lists()
			for i, b := range lists {
				fill(b, byte(100+i))
			}
			for i, b := range lists {
				if !isFilled(b, byte(100+i)) {
					t.Fatalf("%d: two lists that were returned share memory", ats)
				}
			}
			if !bytes.Equal(same, block(7)) {
				t.Fatalf("what was handed in has become %x", same)
			}
		}
	}
}

// P14.1 under R3 and R6: what is behind a length does not matter and is not returned, not even behind the length of an answer, and a call that
// is made again answers the same.
func TestAgain(t *testing.T) {
	var times [][]answer
	for _, n := range []byte{3, 3, 0, 255} {
		var l []answer
		for _, q := range questions(n) {
			l = append(l, q.ask().whole())
		}
		times = append(times, l)
	}
	for i, l := range times {
		if !slices.EqualFunc(l, times[0], answer.isSame) {
			t.Errorf("the answers of the time %d are other ones", i)
		}
	}
}

// isAts tells whether ats are indices of blocks of a zone of g, at least one, in ascending order.
func isAts(g api.Geometry, ats []int) bool {
	inOrder := slices.Compact(slices.Sorted(slices.Values(ats)))
	return len(ats) > 0 && slices.Equal(ats, inOrder) && ats[0] >= 0 && ats[len(ats)-1] < g.Data
}

// isBlocks tells whether blocks are n, each of Block bytes.
func isBlocks(blocks [][]byte, n int) bool {
	return len(blocks) == n && !slices.ContainsFunc(blocks, func(b []byte) bool { return len(b) != 8 })
}

// P14.1, P14.2: any geometry, any blocks, any of them lost, any of them not available, anything written to any indices with any stamp, and the
// images of it in any zone.
func FuzzStripe(f *testing.F) {
	f.Add(2, 3, 1, 14, 2, make([]byte, 32), 0, 1, []byte{1}, []byte("8 bytes."), 7, 1)
	f.Add(1, 1, 0, 14, 1, []byte("8 bytes."), 1, 3, []byte{0}, []byte("7 bytes"), api.MaxNum, 0)
	f.Add(4, 4, 2, 30, 3, bytes.Repeat([]byte{1}, 32), 5, 10, []byte{0, 1, 3}, bytes.Repeat([]byte{2}, 24), 0, 3)
	f.Add(4, 4, 2, 30, 3, []byte{1, 2}, 0, 0, []byte{3, 1}, bytes.Repeat([]byte{2}, 16), api.MaxNum+1, 4)
	f.Add(0, 5, 3, 13, 4, []byte{}, 15, 31, []byte{255, 0}, []byte{}, math.MinInt, math.MaxInt)
	f.Fuzz(func(t *testing.T, zones, data, spares, slots, anchors int, b []byte, lost, miss int, list, now []byte, stamp, z int) {
		g := geo(1+zones&3, 1+data&3, spares&1+spares>>1&1, 14+slots&15, 1+anchors&1)
		s := written(g, lost&(1<<g.Data-1), slices.Collect(slices.Chunk(append(bytes.Clone(b), make([]byte, 32)...)[:32], 8)))
		miss &= 2<<g.Data - 1
		var ats []int
		for _, c := range list {
			ats = append(ats, int(int8(c)))
		}
		blocks := slices.Collect(slices.Chunk(now, 8))
		if wrong := geo(zones, data, spares, slots, anchors); !slices.Contains(geometries(), wrong) {
			writeFails(t, wrong, s.x, s.has(miss), ats, blocks, stamp, api.ErrArg)
			imagesFail(t, wrong, z, s.x, s.all[g.Data], ats, blocks, api.ErrArg)
		}
		switch {
		case !isAts(g, ats) || z < 0 || z >= g.Zones:
			imagesFail(t, g, z, s.x, s.all[g.Data], ats, blocks, api.ErrArg)
		case !isBlocks(blocks, len(ats)):
			imagesFail(t, g, z, s.x, s.all[g.Data], ats, blocks, api.ErrLen)
		default:
			showImages(t, g, z, s.x, s.all[g.Data], ats, blocks)
		}
		switch {
		case !isAts(g, ats) || stamp < 0 || stamp > api.MaxNum:
			writeFails(t, g, s.x, s.has(miss), ats, blocks, stamp, api.ErrArg)
		case !isBlocks(blocks, len(ats)):
			writeFails(t, g, s.x, s.has(miss), ats, blocks, stamp, api.ErrLen)
		default:
			isRight(t, g, s.x, s.has(miss), ats, blocks, stamp)
			next, _ := work(t, g, s.x, s.has(miss), ats, blocks, stamp)
			want := wantAll(s.x, s.has(miss), ats, blocks)
			for i := range want {
				isKnown(t, g, next, replaced(want, i, nil), want)
			}
		}
	})
}
