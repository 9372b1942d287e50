package rec_test

import (
	"bytes"
	"encoding/binary"
	"hash/crc32"
	"math"
	"math/rand"
	"slices"
	"testing"

	"casemate/api"
	"casemate/disk"
	"casemate/geom"
	"casemate/rec"
	"casemate/seal"
	"casemate/stripe"
	"casemate/table"
)

// geo is a geometry.
func geo(zones, data, spares, slots, anchors int) api.Geometry {
	return api.Geometry{Zones: zones, Data: data, Spares: spares, Slots: slots, Anchors: anchors}
}

// someGeometries are one for each number of blocks, the smallest and the greatest valid one among them.
func someGeometries() []api.Geometry {
	return []api.Geometry{geo(1, 1, 0, 14, 1), geo(3, 2, 2, 20, 3), geo(2, 3, 1, 14, 2), geo(4, 4, 2, 30, 3)}
}

// geometries are all valid ones.
func geometries() (l []api.Geometry) {
	for n := range 4 * 4 * 3 * 17 * 3 {
		l = append(l, geo(1+n%4, 1+n/4%4, n/16%3, 14+n/48%17, 1+n/816))
	}
	return l
}

// wrongGeometries are such as are not valid: base with each of its numbers one beyond each bound and far out, and with all of them at once.
func wrongGeometries(base api.Geometry) (l []api.Geometry) {
	change := func(number func(g *api.Geometry) *int, wrong ...int) {
		for _, n := range append(wrong, -1, math.MinInt, math.MaxInt) {
			g := base
			*number(&g) = n
			l = append(l, g)
		}
	}
	change(func(g *api.Geometry) *int { return &g.Zones }, 0, 5)
	change(func(g *api.Geometry) *int { return &g.Data }, 0, 5)
	change(func(g *api.Geometry) *int { return &g.Spares }, 3)
	change(func(g *api.Geometry) *int { return &g.Slots }, 13, 31)
	change(func(g *api.Geometry) *int { return &g.Anchors }, 0, 4)
	return append(l, api.Geometry{}, geo(-1, -1, -1, -1, -1), geo(5, 5, 3, 31, 4))
}

// The document's words, as a second program that is to answer the same.

// isTable tells whether b is the encoding of a table of g.
func isTable(g api.Geometry, b []byte) bool {
	for i := range b {
		if i%9 == 8 && b[i] > 1 {
			return false
		}
	}
	return len(b) == 9*g.Data+9 && b[len(b)-1] == 0
}

// isImage tells whether x is a valid image of the valid geometry g.
func isImage(g api.Geometry, x api.Image) bool {
	switch {
	case x.Zone < 0 || x.Zone >= g.Zones:
		return false
	case x.What == 255:
		return isTable(g, x.Bytes)
	}
	return x.What >= -1 && x.What < g.Data && len(x.Bytes) == 8
}

// isValid tells whether r is a valid record of the valid geometry g.
func isValid(g api.Geometry, r api.Rec) bool {
	hasImage := r.Image.Zone != 0 || r.Image.What != 0 || len(r.Image.Bytes) > 0
	inTxn := r.Seq >= 0 && r.Seq < 1<<32 && r.Epoch >= 0 && r.Epoch < 1<<32 && r.Of >= 2 && r.Of <= 30
	switch r.Kind {
	case 0:
		return r.Seq == 0 && r.Epoch == 0 && r.At == 0 && r.Of == 0 && !hasImage
	case 1:
		return inTxn && r.At >= 0 && r.At < r.Of-1 && isImage(g, r.Image)
	case 2:
		return inTxn && r.At == r.Of-1 && !hasImage
	}
	return false
}

// wantBytes is the encoding of r, valid or not, in which of each number there is what its bytes hold.
func wantBytes(r api.Rec) []byte {
	b := binary.LittleEndian.AppendUint32([]byte{byte(r.Kind)}, uint32(r.Seq))
	b = append(binary.LittleEndian.AppendUint32(b, uint32(r.Epoch)), byte(r.At), byte(r.Of))
	if r.Kind != 1 {
		return b
	}
	what := r.Image.What
	if what == -1 {
		what = 254
	}
	return append(append(b, byte(r.Image.Zone), byte(what), byte(len(r.Image.Bytes))), r.Image.Bytes...)
}

// wantRead is the record of which b is the encoding, if there is one: its fields are taken from where they stand, and the encoding of what
// there is then has to be b.
func wantRead(g api.Geometry, b []byte) (r api.Rec, ok bool) {
	if len(b) < 11 {
		return r, false
	}
	r = api.Rec{Kind: int(b[0]), Seq: int(binary.LittleEndian.Uint32(b[1:])), Epoch: int(binary.LittleEndian.Uint32(b[5:])), At: int(b[9]), Of: int(b[10])}
	if r.Kind == 1 && len(b) > 13 {
		r.Image = api.Image{Zone: int(b[11]), What: int(b[12]), Bytes: b[14:]}
		if b[12] == 254 {
			r.Image.What = -1
		}
	}
	return r, isValid(g, r) && bytes.Equal(wantBytes(r), b)
}

// wantCell is the sector with the encoding of r as its Payload, with its checksum, which the library of Go computes in a way of its own.
func wantCell(g api.Geometry, r api.Rec, copy, slot int) []byte {
	payload := wantBytes(r)
	b := append([]byte{byte(len(payload))}, payload...)
	b = binary.LittleEndian.AppendUint16(b, uint16(g.Anchors+copy*g.Slots+slot))
	b = binary.LittleEndian.AppendUint32(b, uint32(r.Seq))
	return binary.LittleEndian.AppendUint32(b, crc32.Checksum(b, crc32.MakeTable(crc32.Castagnoli)))
}

// wantTxn are the records of a transaction of the images l.
func wantTxn(seq, epoch int, l []api.Image) []api.Rec {
	records := make([]api.Rec, len(l)+1)
	for i := range records {
		records[i] = api.Rec{Kind: 2, Seq: seq, Epoch: epoch, At: i, Of: len(records)}
		if i < len(l) {
			records[i].Kind, records[i].Image = 1, l[i]
		}
	}
	return records
}

// Calls, held against what they are to answer.

func isSameImage(x, y api.Image) bool {
	return x.Zone == y.Zone && x.What == y.What && bytes.Equal(x.Bytes, y.Bytes)
}

func isSame(r, s api.Rec) bool {
	return r.Kind == s.Kind && r.Seq == s.Seq && r.Epoch == s.Epoch && r.At == s.At && r.Of == s.Of && isSameImage(r.Image, s.Image)
}

// isNothing tells whether r is what stands beside an error.
func isNothing(r api.Rec) bool {
	return isSame(r, api.Rec{}) && r.Image.Bytes == nil
}

// refuses tells an error unless Check, Bytes and Cell answer ErrArg of r, and nothing beside it.
func refuses(t *testing.T, g api.Geometry, r api.Rec) {
	t.Helper()
	if e := rec.Check(g, r); e != api.ErrArg {
		t.Fatalf("Check(%+v, %+v) = %v", g, r, e)
	}
	if b, e := rec.Bytes(g, r); e != api.ErrArg || b != nil {
		t.Fatalf("Bytes(%+v, %+v) = % x, %v", g, r, b, e)
	}
	for copy := range 2 {
		if b, e := rec.Cell(g, r, copy, 13); e != api.ErrArg || b != nil {
			t.Fatalf("Cell(%+v, %+v, %d, 13) = % x, %v", g, r, copy, b, e)
		}
	}
}

// readsAs tells an error unless Read of b is the record want.
func readsAs(t *testing.T, g api.Geometry, b []byte, want api.Rec) {
	t.Helper()
	if r, e := rec.Read(g, b); e != api.OK || !isSame(r, want) {
		t.Fatalf("Read(%+v, % x) = %+v, %v, want %+v", g, b, r, e, want)
	}
}

// readFails tells an error unless Read of b is the error want and nothing beside it.
func readFails(t *testing.T, g api.Geometry, b []byte, want api.Errno) {
	t.Helper()
	if r, e := rec.Read(g, b); e != want || !isNothing(r) {
		t.Fatalf("Read(%+v, % x) = %+v, %v, not the error %v alone", g, b, r, e, want)
	}
}

// reads tells an error unless Read of b answers as the second program does, for a valid geometry.
func reads(t *testing.T, g api.Geometry, b []byte) {
	t.Helper()
	if want, ok := wantRead(g, b); ok {
		readsAs(t, g, b, want)
	} else {
		readFails(t, g, b, api.ErrBytes)
	}
}

// cells tells an error unless Cell returns the bytes of the cell, from which package seal reads what was sealed.
func cells(t *testing.T, g api.Geometry, r api.Rec, copy, slot int) {
	t.Helper()
	b, e := rec.Cell(g, r, copy, slot)
	if want := wantCell(g, r, copy, slot); e != api.OK || !bytes.Equal(b, want) {
		t.Fatalf("Cell(%+v, %+v, %d, %d) = % x, %v, want % x", g, r, copy, slot, b, e, want)
	}
	s, e := seal.Open(b)
	if e != api.OK || s.Addr != g.Anchors+copy*g.Slots+slot || s.Stamp != r.Seq || !bytes.Equal(s.Payload, wantBytes(r)) {
		t.Fatalf("Cell(%+v, %+v, %d, %d) opens as %+v, %v", g, r, copy, slot, s, e)
	}
}

// isRight tells an error unless each function answers of r that it is valid, or that it is not, and Read of its encoding the same.
func isRight(t *testing.T, g api.Geometry, r api.Rec, valid bool) {
	t.Helper()
	if isValid(g, r) != valid {
		t.Fatalf("the test says of %+v and of %+v: valid is %v", g, r, valid)
	}
	want := wantBytes(r)
	if !valid {
		refuses(t, g, r)
		reads(t, g, want)
		return
	}
	if e := rec.Check(g, r); e != api.OK {
		t.Fatalf("Check(%+v, %+v) = %v", g, r, e)
	}
	if b, e := rec.Bytes(g, r); e != api.OK || !bytes.Equal(b, want) || len(b) > api.MaxPayload {
		t.Fatalf("Bytes(%+v, %+v) = % x, %v, want % x", g, r, b, e, want)
	}
	readsAs(t, g, want, r)
	cells(t, g, r, r.Seq&1, r.Epoch%14)
}

// image tells an error unless Image answers of x that it is valid, or that it is not, and so do all other functions of records and of
// transactions with x.
func image(t *testing.T, g api.Geometry, x api.Image, valid bool) {
	t.Helper()
	want := api.ErrArg
	if valid {
		want = api.OK
	}
	if e := rec.Image(g, x); e != want {
		t.Fatalf("Image(%+v, %+v) = %v", g, x, e)
	}
	isRight(t, g, api.Rec{Kind: 1, Seq: 7, Epoch: 8, At: 1, Of: 9, Image: x}, valid)
	if valid {
		txn(t, g, 7, 8, []api.Image{x})
	} else {
		txnFails(t, g, 7, 8, []api.Image{x}, api.ErrArg)
	}
}

// txn tells an error unless Txn returns the records that it is to, all of them valid.
func txn(t *testing.T, g api.Geometry, seq, epoch int, l []api.Image) {
	t.Helper()
	records, e := rec.Txn(g, seq, epoch, l)
	if want := wantTxn(seq, epoch, l); e != api.OK || !slices.EqualFunc(records, want, isSame) {
		t.Fatalf("Txn(%+v, %d, %d, %+v) = %+v, %v, want %+v", g, seq, epoch, l, records, e, want)
	}
	for _, r := range records {
		if !isValid(g, r) || rec.Check(g, r) != api.OK {
			t.Fatalf("Txn(%+v, %d, %d, %+v) returns %+v", g, seq, epoch, l, r)
		}
	}
}

// txnFails tells an error unless Txn returns the error want and nothing beside it.
func txnFails(t *testing.T, g api.Geometry, seq, epoch int, l []api.Image, want api.Errno) {
	t.Helper()
	if records, e := rec.Txn(g, seq, epoch, l); e != want || records != nil {
		t.Fatalf("Txn(%+v, %d, %d, %d images) = %+v, %v, not the error %v alone", g, seq, epoch, len(l), records, e, want)
	}
}

// cellFails tells an error unless Cell returns the error want and nothing beside it.
func cellFails(t *testing.T, g api.Geometry, r api.Rec, copy, slot int, want api.Errno) {
	t.Helper()
	if b, e := rec.Cell(g, r, copy, slot); e != want || b != nil {
		t.Fatalf("Cell(%+v, %+v, %d, %d) = % x, %v, not the error %v alone", g, r, copy, slot, b, e, want)
	}
}

// Records to ask of.

// nums are sequence numbers and epochs, the edges of signed and of shorter numbers among them.
var nums = []int{0, 1, 2, 255, 256, 65535, 65536, 0x04030201, 1<<31 - 1, 1 << 31, api.MaxNum - 1, api.MaxNum}

// wrongNums are neither, such as a conversion could make one of among them.
var wrongNums = []int{-1, -2, math.MinInt32, math.MinInt, math.MinInt + 1, -1 << 32, api.MaxNum + 1, api.MaxNum + 2, 1 << 40, math.MaxInt}

// anyNum is any of all numbers, an edge in one case of two.
func anyNum(random *rand.Rand) int {
	if random.Intn(2) == 0 {
		return nums[random.Intn(len(nums))]
	}
	return int(random.Uint32())
}

// anyBytes are n bytes.
func anyBytes(random *rand.Rand, n int) []byte {
	b := make([]byte, n)
	random.Read(b)
	return b
}

// anyTable is the encoding of any table of g.
func anyTable(random *rand.Rand, g api.Geometry) []byte {
	b := anyBytes(random, 9*g.Data+9)
	for i := 8; i < len(b); i += 9 {
		b[i] &= 1
	}
	b[len(b)-1] = 0
	return b
}

// whats are what a zone of g has images of.
func whats(g api.Geometry) (l []int) {
	for i := range g.Data {
		l = append(l, i)
	}
	return append(l, api.Parity, 255)
}

// imageOf is a valid image, the bytes any.
func imageOf(random *rand.Rand, g api.Geometry, zone, what int) api.Image {
	if what == 255 {
		return api.Image{Zone: zone, What: what, Bytes: anyTable(random, g)}
	}
	return api.Image{Zone: zone, What: what, Bytes: anyBytes(random, 8)}
}

// images are valid images of each zone of g and of all that it has.
func images(random *rand.Rand, g api.Geometry) (l []api.Image) {
	for zone := range g.Zones {
		for _, what := range whats(g) {
			l = append(l, imageOf(random, g, zone, what))
		}
	}
	return l
}

// anyImages are n valid images.
func anyImages(random *rand.Rand, g api.Geometry, n int) (l []api.Image) {
	all := images(random, g)
	for range n {
		l = append(l, all[random.Intn(len(all))])
	}
	return l
}

// records are valid records of g: a blank one, one of each image, and commits.
func records(random *rand.Rand, g api.Geometry) []api.Rec {
	l := []api.Rec{{}}
	for _, x := range images(random, g) {
		of := 2 + random.Intn(29)
		l = append(l, api.Rec{Kind: 1, Seq: anyNum(random), Epoch: anyNum(random), At: random.Intn(of - 1), Of: of, Image: x})
	}
	for _, of := range []int{2, 3, 15, 29, 30} {
		l = append(l, api.Rec{Kind: 2, Seq: anyNum(random), Epoch: anyNum(random), At: of - 1, Of: of})
	}
	return l
}

// cloneImage is x in other memory.
func cloneImage(x api.Image) api.Image {
	x.Bytes = bytes.Clone(x.Bytes)
	return x
}

// each calls f with valid records of each of some geometries.
func each(seed int64, f func(random *rand.Rand, g api.Geometry, r api.Rec)) {
	random := rand.New(rand.NewSource(seed))
	for _, g := range someGeometries() {
		for _, r := range records(random, g) {
			f(random, g, r)
		}
	}
}

// P15.1: encodings and cells by hand, the checksums worked out by another program.
func TestByHand(t *testing.T) {
	small, least, greatest := geo(2, 3, 1, 14, 2), geo(1, 1, 0, 14, 1), geo(4, 4, 2, 30, 3)
	for _, test := range []struct {
		g          api.Geometry
		r          api.Rec
		copy, slot int
		want, rest []byte
	}{
		{small, api.Rec{}, 0, 0, make([]byte, 11), []byte{2, 0, 0, 0, 0, 0, 0xc2, 0x7a, 0x5a, 0x78}},
		{small, api.Rec{}, 1, 13, make([]byte, 11), []byte{29, 0, 0, 0, 0, 0, 0x4e, 0xae, 0x19, 0x5e}},
		{
			small, api.Rec{Kind: 1, Seq: 0x04030201, Epoch: 0x08070605, At: 2, Of: 5, Image: api.Image{Zone: 1, What: 2, Bytes: []byte{11, 12, 13, 14, 15, 16, 17, 18}}}, 1, 3,
			[]byte{1, 1, 2, 3, 4, 5, 6, 7, 8, 2, 5, 1, 2, 8, 11, 12, 13, 14, 15, 16, 17, 18}, []byte{19, 0, 1, 2, 3, 4, 0x40, 0xcd, 0x36, 0xd3},
		},
		{
			greatest, api.Rec{Kind: 1, Seq: api.MaxNum, At: 0, Of: 2, Image: api.Image{Zone: 3, What: -1, Bytes: []byte("8 bytes.")}}, 0, 29,
			[]byte{1, 255, 255, 255, 255, 0, 0, 0, 0, 0, 2, 3, 254, 8, '8', ' ', 'b', 'y', 't', 'e', 's', '.'}, []byte{32, 0, 255, 255, 255, 255, 0xb9, 0x77, 0xc8, 0x10},
		},
		{
			greatest, api.Rec{Kind: 2, Seq: 0xfffefdfc, Epoch: 1 << 24, At: 29, Of: 30}, 1, 0,
			[]byte{2, 0xfc, 0xfd, 0xfe, 0xff, 0, 0, 0, 1, 29, 30}, []byte{33, 0, 0xfc, 0xfd, 0xfe, 0xff, 0x2a, 0xfd, 0x03, 0x37},
		},
		{
			least, api.Rec{Kind: 1, Epoch: api.MaxNum, At: 28, Of: 30, Image: api.Image{What: 255, Bytes: []byte{1, 2, 0, 0, 0x8a, 0xb2, 0x28, 0x8c, 1, 255, 255, 255, 255, 7, 0, 0, 0, 0}}}, 1, 0,
			[]byte{1, 0, 0, 0, 0, 255, 255, 255, 255, 28, 30, 0, 255, 18, 1, 2, 0, 0, 0x8a, 0xb2, 0x28, 0x8c, 1, 255, 255, 255, 255, 7, 0, 0, 0, 0},
			[]byte{15, 0, 0, 0, 0, 0, 0x02, 0xd7, 0x51, 0x29},
		},
	} {
		if b, e := rec.Bytes(test.g, test.r); e != api.OK || !bytes.Equal(b, test.want) {
			t.Errorf("Bytes(%+v) = % x, %v, want % x", test.r, b, e, test.want)
		}
		readsAs(t, test.g, test.want, test.r)
		isRight(t, test.g, test.r, true)
		sector := slices.Concat([]byte{byte(len(test.want))}, test.want, test.rest)
		if b, e := rec.Cell(test.g, test.r, test.copy, test.slot); e != api.OK || !bytes.Equal(b, sector) {
			t.Errorf("Cell(%+v, %d, %d) = % x, %v, want % x", test.r, test.copy, test.slot, b, e, sector)
		}
	}
}

// P15.1: the chapter's example: the encoding of a blank record has 11 bytes.
func TestExample(t *testing.T) {
	for _, g := range geometries() {
		b, e := rec.Bytes(g, api.Rec{})
		if e != api.OK || !bytes.Equal(b, make([]byte, 11)) {
			t.Fatalf("a blank record has the encoding % x, %v", b, e)
		}
		isRight(t, g, api.Rec{}, true)
		readsAs(t, g, make([]byte, 11), api.Rec{})
		readsAs(t, g, make([]byte, 11), api.Rec{Image: api.Image{Bytes: []byte{}}})
		isRight(t, g, api.Rec{Image: api.Image{Bytes: []byte{}}}, true)
	}
}

// P15.1: images of each zone, of each block, of the parity and of the table are valid, in each geometry.
func TestImages(t *testing.T) {
	random := rand.New(rand.NewSource(1))
	for _, g := range geometries() {
		for _, x := range images(random, g) {
			image(t, g, x, true)
		}
	}
}

// beyond are numbers from low down and from high up: next to these, far out, and such as a conversion to fewer bytes could make one between of.
func beyond(low, high int) []int {
	l := []int{low, low - 1, low - 2, -256, -255, -254, -1 << 32, math.MinInt32, math.MinInt + 1, math.MinInt}
	return append(l, high, high+1, high+2, 256, 257, 510, 511, 512, 65536, 65535, 1<<31-1, 1<<32, 1<<32+1, 1<<32+255, 1<<62, math.MaxInt-1, math.MaxInt)
}

// P15.1: the zone of an image is from 0 to Zones - 1.
func TestWrongZones(t *testing.T) {
	random := rand.New(rand.NewSource(2))
	for _, g := range someGeometries() {
		for _, x := range images(random, g) {
			for _, zone := range append(beyond(-1, g.Zones), 4, 5, 253, 254, 255) {
				if zone >= g.Zones || zone < 0 {
					x.Zone = zone
					image(t, g, x, false)
				}
			}
		}
	}
}

// P15.1: What is the index of a block, Parity or 255.
func TestWrongWhats(t *testing.T) {
	random := rand.New(rand.NewSource(3))
	for _, g := range someGeometries() {
		for _, x := range images(random, g) {
			for _, what := range append(beyond(-2, g.Data), 4, 5, 128, 252, 253, 254) {
				if what >= g.Data && what != 255 || what < -1 {
					x.What = what
					image(t, g, x, false)
					image(t, g, api.Image{Zone: x.Zone, What: what, Bytes: make([]byte, 8)}, false)
					image(t, g, api.Image{Zone: x.Zone, What: what, Bytes: anyTable(random, g)}, false)
				}
			}
		}
	}
}

// lengths are numbers of bytes that a block does not have.
var lengths = []int{0, 1, 2, 3, 4, 5, 6, 7, 9, 10, 15, 16, 17, 18, 27, 36, 45, 96, 97, 254, 255, 256, 263, 264, 265, 1<<16 + 8}

// P15.1: the image of a block or of the parity has Block bytes. Those behind the length do not count.
func TestWrongBlocks(t *testing.T) {
	for _, g := range someGeometries() {
		for _, what := range whats(g)[:g.Data+1] {
			image(t, g, api.Image{What: what}, false)
			for _, n := range lengths {
				image(t, g, api.Image{What: what, Bytes: make([]byte, n)}, false)
				image(t, g, api.Image{What: what, Bytes: make([]byte, n, n+8)}, false)
			}
			image(t, g, api.Image{What: what, Bytes: make([]byte, 8, 99)}, true)
		}
	}
}

// P15.1: the image of a table has the encoding of a table: no byte fewer, none more, each Lost 0 or 1, and the parity not lost.
func TestWrongTables(t *testing.T) {
	random := rand.New(rand.NewSource(4))
	for _, g := range someGeometries() {
		for zone := range g.Zones {
			b := imageOf(random, g, zone, 255).Bytes
			for n := range b {
				image(t, g, api.Image{Zone: zone, What: 255, Bytes: b[:n]}, false)
				image(t, g, api.Image{Zone: zone, What: 255, Bytes: b[len(b)-n:]}, false)
			}
			for _, more := range [][]byte{{0}, {1}, make([]byte, 9), b, make([]byte, 255), make([]byte, 256), make([]byte, 1<<16)} {
				image(t, g, api.Image{Zone: zone, What: 255, Bytes: slices.Concat(b, more)}, false)
			}
			for i, was := range b {
				for _, c := range []byte{0, 1, 2, 3, 127, 128, 129, 254, 255} {
					b[i] = c
					image(t, g, api.Image{Zone: zone, What: 255, Bytes: b}, i%9 != 8 || c == 0 || c == 1 && i < len(b)-1)
				}
				b[i] = was
			}
		}
	}
}

// P15.1: what package table encodes is an image of a table; of another geometry it is one only if that has as many blocks in a zone.
func TestTablesOfOtherGeometries(t *testing.T) {
	for _, from := range someGeometries() {
		x, e := table.First(from)
		if e != api.OK {
			t.Fatal(e)
		}
		x.Entries[0].Lost = true
		b, e := table.Bytes(from, x)
		if e != api.OK {
			t.Fatal(e)
		}
		for _, g := range geometries() {
			image(t, g, api.Image{Zone: g.Zones - 1, What: 255, Bytes: b}, g.Data == from.Data)
		}
	}
}

// P15.1: the images that package stripe makes of a writing are valid.
func TestImagesOfWritings(t *testing.T) {
	random := rand.New(rand.NewSource(5))
	for _, g := range someGeometries() {
		x, e := table.First(g)
		if e != api.OK {
			t.Fatal(e)
		}
		l, e := stripe.Images(g, g.Zones-1, x, anyBytes(random, 8), []int{g.Data - 1}, [][]byte{anyBytes(random, 8)})
		if e != api.OK {
			t.Fatal(e)
		}
		for _, x := range l {
			image(t, g, x, true)
		}
		txn(t, g, 1, 2, l)
	}
}

// P15.1: a record of one Kind is not one of another Kind, nor of a Kind that there is not.
func TestKinds(t *testing.T) {
	each(6, func(_ *rand.Rand, g api.Geometry, r api.Rec) {
		isRight(t, g, r, true)
		was := r.Kind
		for _, kind := range append(beyond(-1, 3), 0, 1, 2, 254, 255, 258) {
			r.Kind = kind
			isRight(t, g, r, kind == was)
		}
	})
}

// P15.1: a blank record has all other fields zero.
func TestBlank(t *testing.T) {
	for _, g := range someGeometries() {
		for _, n := range []int{1, -1, 2, 255, 256, 1 << 32, math.MinInt, math.MaxInt} {
			for _, r := range []api.Rec{{Seq: n}, {Epoch: n}, {At: n}, {Of: n}, {Image: api.Image{Zone: n}}, {Image: api.Image{What: n}}, {Seq: n, Epoch: n, At: n, Of: n}} {
				isRight(t, g, r, false)
			}
		}
		// Fields that make up for each other.
		for _, r := range []api.Rec{{Seq: 1, Epoch: -1}, {At: -1, Of: 1}, {Of: 2}, {At: 1, Of: 2}, {Image: api.Image{Zone: 1, What: -1}}} {
			isRight(t, g, r, false)
		}
		for n := 1; n <= 10; n++ {
			isRight(t, g, api.Rec{Image: api.Image{Bytes: make([]byte, n)}}, false)
			isRight(t, g, api.Rec{Image: api.Image{Bytes: make([]byte, 0, n)}}, true)
		}
	}
}

// P15.1: Seq and Epoch of an image and of a commit are from 0 to MaxNum.
func TestNumbers(t *testing.T) {
	each(7, func(_ *rand.Rand, g api.Geometry, r api.Rec) {
		if r.Kind == 0 {
			return
		}
		for _, n := range append(wrongNums, nums...) {
			seq, epoch, both := r, r, r
			seq.Seq, epoch.Epoch, both.Seq, both.Epoch = n, n, n, n
			for _, r := range []api.Rec{seq, epoch, both} {
				isRight(t, g, r, n >= 0 && n <= 4294967295)
			}
		}
	})
}

// P15.1: Of is from 2 to MaxSlots, whatever Slots is. At is from 0 to Of - 2 for an image, and Of - 1 for a commit.
func TestAtAndOf(t *testing.T) {
	random := rand.New(rand.NewSource(8))
	for _, g := range someGeometries() {
		all := images(random, g)
		for of := -3; of <= 34; of++ {
			isOf := of >= 2 && of <= 30
			for at := -4; at <= 35; at++ {
				x := all[random.Intn(len(all))]
				isRight(t, g, api.Rec{Kind: 1, Seq: 1, Epoch: 1, At: at, Of: of, Image: x}, isOf && at >= 0 && at <= of-2)
				isRight(t, g, api.Rec{Kind: 2, Seq: 1, Epoch: 1, At: at, Of: of}, isOf && at == of-1)
			}
		}
	}
}

// P15.1: At and Of far out are not valid, whether or not they fit one another.
func TestAtAndOfFarOut(t *testing.T) {
	random := rand.New(rand.NewSource(9))
	for _, g := range someGeometries() {
		x := imageOf(random, g, 0, 0)
		for _, n := range beyond(-1, 31) {
			for _, at := range []int{0, 1, 29, n - 1, n - 2, n, n + 1} {
				isRight(t, g, api.Rec{Kind: 1, At: at, Of: n, Image: x}, false)
				isRight(t, g, api.Rec{Kind: 2, At: at, Of: n}, false)
			}
			for _, of := range []int{2, 3, 29, 30} {
				isRight(t, g, api.Rec{Kind: 1, At: n, Of: of, Image: x}, false)
				isRight(t, g, api.Rec{Kind: 2, At: n, Of: of}, false)
			}
		}
	}
}

// P15.1: a commit has no image, nothing of one.
func TestCommitWithImage(t *testing.T) {
	random := rand.New(rand.NewSource(10))
	for _, g := range someGeometries() {
		commit := api.Rec{Kind: 2, Seq: 3, Epoch: 4, At: 2, Of: 3}
		isRight(t, g, commit, true)
		commit.Image.Bytes = []byte{}
		isRight(t, g, commit, true)
		wrong := images(random, g)
		for _, n := range []int{1, -1, 2, 254, 255, 256, 1 << 32, math.MinInt, math.MaxInt} {
			wrong = append(wrong, api.Image{Zone: n}, api.Image{What: n}, api.Image{Zone: n, What: -n})
		}
		for n := 1; n <= 9; n++ {
			wrong = append(wrong, api.Image{Bytes: make([]byte, n)})
		}
		for _, x := range wrong {
			commit.Image = x
			isRight(t, g, commit, false)
			// Nor is it one with what the record of an image may have as At.
			r := commit
			r.At = 1
			isRight(t, g, r, false)
		}
	}
}

// P15.1: a record with an image has a valid one: no image is none.
func TestRecordWithoutImage(t *testing.T) {
	for _, g := range someGeometries() {
		isRight(t, g, api.Rec{Kind: 1, Seq: 3, Epoch: 4, At: 0, Of: 3}, false)
		isRight(t, g, api.Rec{Kind: 1, Seq: 3, Epoch: 4, At: 0, Of: 3, Image: api.Image{What: 255}}, false)
		isRight(t, g, api.Rec{Kind: 1, Seq: 3, Epoch: 4, At: 0, Of: 3, Image: api.Image{What: api.Parity}}, false)
	}
}

// P15.2: Read returns what Bytes was given: records of each geometry.
func TestReadReturnsWhatBytesWasGiven(t *testing.T) {
	random := rand.New(rand.NewSource(11))
	for _, g := range geometries() {
		for _, r := range records(random, g) {
			b, e := rec.Bytes(g, r)
			if e != api.OK {
				t.Fatalf("Bytes(%+v, %+v): %v", g, r, e)
			}
			readsAs(t, g, b, r)
			isRight(t, g, r, true)
		}
	}
}

// P15.2: records that differ have encodings that differ.
func TestEncodingsDiffer(t *testing.T) {
	random := rand.New(rand.NewSource(12))
	for _, g := range someGeometries() {
		var l []api.Rec
		for range 20 {
			l = append(l, records(random, g)...)
		}
		had := map[string]api.Rec{}
		for _, r := range l {
			b, e := rec.Bytes(g, r)
			if e != api.OK {
				t.Fatal(e)
			}
			if was, ok := had[string(b)]; ok && !isSame(was, r) {
				t.Fatalf("%+v and %+v have the encoding % x", was, r, b)
			}
			had[string(b)] = r
		}
	}
}

// P15.1: an encoding that is cut short at any place, at its end or at its beginning, or that has bytes more, is none.
func TestReadOfAnotherLength(t *testing.T) {
	each(13, func(_ *rand.Rand, g api.Geometry, r api.Rec) {
		b := wantBytes(r)
		readsAs(t, g, b, r)
		for n := range b {
			readFails(t, g, b[:n], api.ErrBytes)
			readFails(t, g, bytes.Clone(b[:n]), api.ErrBytes)
			reads(t, g, b[len(b)-n:])
		}
		for _, more := range [][]byte{{0}, {1}, {255}, {0, 0}, make([]byte, 8), make([]byte, 11), b, make([]byte, 1<<12)} {
			readFails(t, g, slices.Concat(b, more), api.ErrBytes)
			reads(t, g, slices.Concat(more, b))
		}
	})
}

// P15.1: encodings in which one byte is another, each byte and each other value of it. Parity's byte is 254, a table's 255.
func TestReadOfAnotherByte(t *testing.T) {
	each(14, func(_ *rand.Rand, g api.Geometry, r api.Rec) {
		b := wantBytes(r)
		for i, was := range b {
			for c := range 256 {
				b[i] = byte(c)
				reads(t, g, b)
			}
			b[i] = was
		}
	})
}

// P15.1: the byte of What, by hand, with a block and with a table behind it.
func TestReadOfWhatByHand(t *testing.T) {
	g := geo(2, 3, 1, 14, 2)
	head := []byte{1, 7, 0, 0, 0, 8, 0, 0, 0, 1, 3, 1}
	block, encoding := []byte{8, 1, 2, 3, 4, 5, 6, 7, 8}, append([]byte{36}, make([]byte, 36)...)
	for c := range 256 {
		want := api.Rec{Kind: 1, Seq: 7, Epoch: 8, At: 1, Of: 3, Image: api.Image{Zone: 1, What: c, Bytes: block[1:]}}
		b := slices.Concat(head, []byte{byte(c)}, block)
		switch c {
		case 0, 1, 2:
			readsAs(t, g, b, want)
		case 254:
			want.Image.What = -1
			readsAs(t, g, b, want)
		default:
			readFails(t, g, b, api.ErrBytes)
		}
		b = slices.Concat(head, []byte{byte(c)}, encoding)
		if c == 255 {
			want.Image.Bytes = encoding[1:]
			readsAs(t, g, b, want)
		} else {
			readFails(t, g, b, api.ErrBytes)
		}
	}
}

// P15.1: the length of the part, by hand, is that of the bytes that follow.
func TestReadOfLengthByHand(t *testing.T) {
	g := geo(2, 3, 1, 14, 2)
	head := []byte{1, 7, 0, 0, 0, 8, 0, 0, 0, 1, 3, 1}
	for _, what := range []byte{0, 254, 255} {
		for length := range 256 {
			for _, n := range []int{0, 7, 8, 9, 35, 36, 37, 255} {
				isRight := length == n && (what == 255 && n == 36 || what < 255 && n == 8)
				b := slices.Concat(head, []byte{what, byte(length)}, make([]byte, n))
				if _, ok := wantRead(g, b); ok != isRight {
					t.Fatalf("the test says of % x: it is an encoding: %v", b, ok)
				}
				reads(t, g, b)
			}
		}
	}
}

// P15.1: bytes that are no encoding: none, too few, all the same, and records that are not valid.
func TestReadOfNoEncoding(t *testing.T) {
	for _, g := range someGeometries() {
		readFails(t, g, nil, api.ErrBytes)
		readFails(t, g, []byte{}, api.ErrBytes)
		readFails(t, g, make([]byte, 0, 99), api.ErrBytes)
		for n := range 100 {
			for _, c := range []byte{0, 1, 2, 3, 8, 30, 254, 255} {
				b := bytes.Repeat([]byte{c}, n)
				if n == 11 && c == 0 {
					readsAs(t, g, b, api.Rec{})
				} else {
					readFails(t, g, b, api.ErrBytes)
				}
			}
		}
		readFails(t, g, make([]byte, 1<<20), api.ErrBytes)
		readFails(t, g, bytes.Repeat([]byte{1}, 1<<20), api.ErrBytes)
	}
}

// P15.1: records, and their encodings, of another geometry are of this one if it has the zone, and the block or a table of as many blocks.
func TestOtherGeometries(t *testing.T) {
	each(15, func(random *rand.Rand, from api.Geometry, r api.Rec) {
		for _, g := range someGeometries() {
			g.Zones, g.Slots, g.Spares = 1+random.Intn(4), 14+random.Intn(17), random.Intn(3)
			isRight(t, g, r, isValid(g, r))
			reads(t, g, wantBytes(r))
		}
	})
}

// P15.1: transactions of each number of images, from 1 to MaxSlots - 1, whatever Slots is: a RecImage for each, in order, and a RecCommit.
func TestTxn(t *testing.T) {
	random := rand.New(rand.NewSource(16))
	for _, g := range someGeometries() {
		for n := 1; n <= 29; n++ {
			for range 5 {
				txn(t, g, anyNum(random), anyNum(random), anyImages(random, g, n))
			}
			txn(t, g, n, n, slices.Repeat(anyImages(random, g, 1), n))
		}
	}
}

// P15.1: transactions in each geometry.
func TestTxnOfEachGeometry(t *testing.T) {
	random := rand.New(rand.NewSource(17))
	for n, g := range geometries() {
		txn(t, g, n, api.MaxNum-n, anyImages(random, g, 1+n%29))
	}
}

// P15.1: a transaction by hand.
func TestTxnByHand(t *testing.T) {
	g := geo(2, 3, 1, 14, 2)
	encoding := make([]byte, 36)
	encoding[8] = 1
	first, parity, tab := []byte("8 bytes."), []byte{1, 2, 3, 4, 5, 6, 7, 8}, bytes.Clone(encoding)
	l, e := rec.Txn(g, 513, 9, []api.Image{{Zone: 1, What: 2, Bytes: first}, {Zone: 1, What: -1, Bytes: parity}, {Zone: 1, What: 255, Bytes: tab}})
	want := []api.Rec{
		{Kind: api.RecImage, Seq: 513, Epoch: 9, At: 0, Of: 4, Image: api.Image{Zone: 1, What: 2, Bytes: []byte("8 bytes.")}},
		{Kind: api.RecImage, Seq: 513, Epoch: 9, At: 1, Of: 4, Image: api.Image{Zone: 1, What: api.Parity, Bytes: []byte{1, 2, 3, 4, 5, 6, 7, 8}}},
		{Kind: api.RecImage, Seq: 513, Epoch: 9, At: 2, Of: 4, Image: api.Image{Zone: 1, What: 255, Bytes: encoding}},
		{Kind: api.RecCommit, Seq: 513, Epoch: 9, At: 3, Of: 4},
	}
	if e != api.OK || !slices.EqualFunc(l, want, isSame) {
		t.Fatalf("Txn = %+v, %v, want %+v", l, e, want)
	}
}

// P15.1: a transaction of no images, or of MaxSlots or more, is ErrLen.
func TestTxnOfAnotherLength(t *testing.T) {
	random := rand.New(rand.NewSource(18))
	for _, g := range someGeometries() {
		txnFails(t, g, 1, 2, nil, api.ErrLen)
		txnFails(t, g, 1, 2, []api.Image{}, api.ErrLen)
		txnFails(t, g, 1, 2, anyImages(random, g, 3)[:0], api.ErrLen)
		for _, n := range []int{30, 31, 32, 255, 256, 257, 286, 1<<16 + 1} {
			txnFails(t, g, 1, 2, anyImages(random, g, n), api.ErrLen)
		}
		txn(t, g, 1, 2, anyImages(random, g, 99)[:29])
	}
}

// wrongImages are such as are not valid.
func wrongImages(g api.Geometry) []api.Image {
	block := make([]byte, 8)
	return []api.Image{
		{}, {Zone: -1, Bytes: block}, {Zone: g.Zones, Bytes: block}, {What: g.Data, Bytes: block}, {What: -2, Bytes: block}, {What: 254, Bytes: block},
		{What: api.Parity}, {What: 255, Bytes: block}, {What: 255, Bytes: make([]byte, 9*g.Data+10)}, {Bytes: make([]byte, 9)}, {Bytes: make([]byte, 7)},
	}
}

// P15.1: a transaction with an image that is not valid, at each place, is ErrArg, also if there are too many images.
func TestTxnOfWrongImages(t *testing.T) {
	random := rand.New(rand.NewSource(19))
	for _, g := range someGeometries() {
		for _, wrong := range wrongImages(g) {
			for _, n := range []int{1, 2, 3, 28, 29, 30, 31} {
				for i := range n {
					l := anyImages(random, g, n)
					l[i] = wrong
					txnFails(t, g, 1, 2, l, api.ErrArg)
				}
			}
			txnFails(t, g, 1, 2, append(anyImages(random, g, 1000), wrong), api.ErrArg)
			// Behind the length it does not count.
			txn(t, g, 1, 2, append(anyImages(random, g, 2), wrong)[:2])
		}
	}
}

// P15.1: the number and the epoch of a transaction are from 0 to MaxNum, else it is ErrArg, with however many images.
func TestTxnOfWrongNumbers(t *testing.T) {
	random := rand.New(rand.NewSource(20))
	for _, g := range someGeometries() {
		for _, wrong := range wrongNums {
			for _, n := range []int{0, 1, 3, 29, 30} {
				for _, right := range nums {
					txnFails(t, g, wrong, right, anyImages(random, g, n), api.ErrArg)
					txnFails(t, g, right, wrong, anyImages(random, g, n), api.ErrArg)
				}
				txnFails(t, g, wrong, wrong, anyImages(random, g, n), api.ErrArg)
			}
		}
		for _, seq := range nums {
			for _, epoch := range nums {
				txn(t, g, seq, epoch, anyImages(random, g, 2))
			}
		}
	}
}

// P15.1: the cells of both copies and of each slot, for each record.
func TestCell(t *testing.T) {
	each(21, func(_ *rand.Rand, g api.Geometry, r api.Rec) {
		for copy := range 2 {
			for slot := range g.Slots {
				cells(t, g, r, copy, slot)
			}
		}
	})
}

// P15.1: the cells of the log in each geometry.
func TestCellOfEachGeometry(t *testing.T) {
	random := rand.New(rand.NewSource(22))
	for _, g := range geometries() {
		l := records(random, g)
		for copy := range 2 {
			for slot := range g.Slots {
				cells(t, g, l[random.Intn(len(l))], copy, slot)
			}
		}
	}
}

// P15.1: a copy or a slot that there is not is ErrArg.
func TestWrongCells(t *testing.T) {
	each(23, func(_ *rand.Rand, g api.Geometry, r api.Rec) {
		for _, n := range beyond(-1, 2) {
			cellFails(t, g, r, n, 0, api.ErrArg)
			cellFails(t, g, r, n, g.Slots-1, api.ErrArg)
		}
		for _, n := range append(beyond(-1, g.Slots), 31, 60) {
			cellFails(t, g, r, 0, n, api.ErrArg)
			cellFails(t, g, r, 1, n, api.ErrArg)
			cellFails(t, g, r, n, n, api.ErrArg)
		}
		cellFails(t, g, r, 1, -g.Slots, api.ErrArg)
	})
}

// P15.1, R4: a geometry that is not valid is ErrArg, each number one beyond its bounds and far out, ahead of all else.
func TestWrongGeometries(t *testing.T) {
	random := rand.New(rand.NewSource(24))
	for _, base := range someGeometries() {
		l := append(records(random, base), api.Rec{Kind: -1}, api.Rec{Kind: 1}, api.Rec{Kind: 2})
		for _, g := range wrongGeometries(base) {
			for _, r := range l {
				refuses(t, g, r)
				if e := rec.Image(g, r.Image); e != api.ErrArg {
					t.Fatalf("Image(%+v, %+v) = %v", g, r.Image, e)
				}
				txnFails(t, g, 1, 2, []api.Image{r.Image}, api.ErrArg)
				for _, b := range [][]byte{nil, {}, {1, 2, 3}, wantBytes(r), append(wantBytes(r), 7)} {
					readFails(t, g, b, api.ErrArg)
				}
				cellFails(t, g, r, 0, 0, api.ErrArg)
				cellFails(t, g, r, -1, 99, api.ErrArg)
			}
			txnFails(t, g, 1, 2, nil, api.ErrArg)
			txnFails(t, g, 1, 2, anyImages(random, base, 30), api.ErrArg)
			txnFails(t, g, -1, -1, anyImages(random, base, 30), api.ErrArg)
		}
	}
}

// P15.1, R4: of several errors the first one in the chapter's order is returned: each set of them at once.
func TestOrderOfErrors(t *testing.T) {
	random := rand.New(rand.NewSource(25))
	for _, base := range someGeometries() {
		for wrong := 1; wrong < 32; wrong++ {
			g, r, seq, epoch, l := base, api.Rec{Kind: 2, At: 1, Of: 2}, 1, 2, anyImages(random, base, 3)
			var errors []api.Errno
			spoil := func(bit int, e api.Errno, spoilt func()) {
				if wrong>>bit&1 == 1 {
					spoilt()
					errors = append(errors, e)
				}
			}
			spoil(0, api.ErrArg, func() { g.Slots = 13 })
			spoil(1, api.ErrArg, func() { seq = -1 })
			spoil(2, api.ErrArg, func() { epoch = api.MaxNum + 1 })
			spoil(3, api.ErrArg, func() { l[1].Zone = -1 })
			spoil(4, api.ErrLen, func() { l = slices.Repeat(l, 10) })
			txnFails(t, g, seq, epoch, l, errors[0])
			if wrong&1 == 0 {
				readFails(t, g, append(wantBytes(r), 0), api.ErrBytes)
				continue
			}
			// Of all other functions the error of the geometry is ahead of that of the bytes.
			readFails(t, g, append(wantBytes(r), 0), api.ErrArg)
			readFails(t, g, nil, api.ErrArg)
			r.Of = wrong
			refuses(t, g, r)
			cellFails(t, g, r, 2, 99, api.ErrArg)
		}
	}
}

// P15.1, P15.2: records with several things changed, and bytes with several, against the second program.
func TestRandom(t *testing.T) {
	random := rand.New(rand.NewSource(26))
	all := geometries()
	numbers := slices.Concat(nums, wrongNums, []int{3, 8, 29, 30, 31, 253, 254})
	for range 50000 {
		g := all[random.Intn(len(all))]
		l := records(random, g)
		r := l[random.Intn(len(l))]
		r.Image = cloneImage(r.Image)
		b := wantBytes(r)
		for range random.Intn(3) {
			b[random.Intn(len(b))] = byte(random.Intn(32))
		}
		reads(t, g, b)
		for range random.Intn(3) {
			fields := []*int{&r.Kind, &r.Seq, &r.Epoch, &r.At, &r.Of, &r.Image.Zone, &r.Image.What}
			*fields[random.Intn(len(fields))] = numbers[random.Intn(len(numbers))]
		}
		if random.Intn(9) == 0 {
			r.Image.Bytes = anyBytes(random, random.Intn(50))
		}
		isRight(t, g, r, isValid(g, r))
		r.Kind = random.Intn(3)
		isRight(t, g, r, isValid(g, r))
	}
}

// P15.1, P15.2: the records of a transaction, written to both copies of the log on a disk, are read again.
func TestOnDisk(t *testing.T) {
	random := rand.New(rand.NewSource(27))
	for _, g := range someGeometries() {
		n, e := geom.Cells(g)
		if e != api.OK {
			t.Fatal(e)
		}
		d, e := disk.New(n)
		if e != api.OK {
			t.Fatal(e)
		}
		l, e := rec.Txn(g, 5, 6, anyImages(random, g, 13))
		if e != api.OK {
			t.Fatal(e)
		}
		for i := range 2 * len(l) {
			d = log(t, d, g, l[i/2], i%2, i/2)
		}
		d, e = disk.Flush(d)
		if e != api.OK {
			t.Fatal(e)
		}
		for i := range 2 * len(l) {
			if r := logged(t, d, g, i%2, i/2); !isSame(r, l[i/2]) {
				t.Fatalf("%+v is read as %+v", l[i/2], r)
			}
		}
	}
}

// log returns the disk on which r is written to this slot of this copy.
func log(t *testing.T, d api.Disk, g api.Geometry, r api.Rec, copy, slot int) api.Disk {
	t.Helper()
	a, e := geom.Log(g, copy, slot)
	b, f := rec.Cell(g, r, copy, slot)
	if e != api.OK || f != api.OK {
		t.Fatal(e, f)
	}
	d, e = disk.Write(d, a, b)
	if e != api.OK {
		t.Fatal(e)
	}
	return d
}

// logged is the record that is read from this slot of this copy.
func logged(t *testing.T, d api.Disk, g api.Geometry, copy, slot int) api.Rec {
	t.Helper()
	a, e := geom.Log(g, copy, slot)
	_, b, f := disk.Read(d, a)
	if e != api.OK || f != api.OK {
		t.Fatal(e, f)
	}
	s, e := seal.Open(b)
	r, f := rec.Read(g, s.Payload)
	if e != api.OK || f != api.OK || s.Addr != a || s.Stamp != r.Seq {
		t.Fatal(s, e, f)
	}
	return r
}

// spare returns a copy of l with x behind its length, three times.
func spare[T any](l []T, x T) []T {
	return append(slices.Clone(l), x, x, x)[:len(l)]
}

// whole is a copy of l with all memory behind its length too.
func whole[T any](l []T) []T {
	return slices.Clone(l[:cap(l)])
}

// fill writes x over all memory of l.
func fill[T any](l []T, x T) {
	for i := range l[:cap(l)] {
		l[:cap(l)][i] = x
	}
}

// isFilled tells whether fill has been there last.
func isFilled[T comparable](l []T, x T) bool {
	return !slices.ContainsFunc(l[:cap(l)], func(y T) bool { return y != x })
}

// question is what the calls are asked with.
type question struct {
	g      api.Geometry
	r      api.Rec
	b      []byte
	images []api.Image
}

// lists are all lists of bytes that are handed in, those behind the length of the images too.
func (q question) lists() [][]byte {
	l := [][]byte{q.r.Image.Bytes, q.b}
	for _, x := range q.images[:cap(q.images)] {
		l = append(l, x.Bytes)
	}
	return l
}

// copied is all that is handed in, what is behind each length too, in other memory.
func (q question) copied() question {
	q.r.Image.Bytes, q.b, q.images = whole(q.r.Image.Bytes), whole(q.b), whole(q.images)
	for i := range q.images {
		q.images[i].Bytes = whole(q.images[i].Bytes)
	}
	return q
}

// isAs tells whether all that is handed in is what was copied.
func (q question) isAs(was question) bool {
	now := q.copied()
	return isSame(now.r, was.r) && bytes.Equal(now.b, was.b) && slices.EqualFunc(now.images, was.images, isSameImage)
}

// answer is what all calls come to.
type answer struct {
	bytes, cell []byte
	read        api.Rec
	txn         []api.Rec
	errors      []api.Errno
}

// ask makes all calls.
func (q question) ask() (a answer) {
	a.errors = make([]api.Errno, 4, 6)
	a.bytes, a.errors[0] = rec.Bytes(q.g, q.r)
	a.read, a.errors[1] = rec.Read(q.g, q.b)
	a.txn, a.errors[2] = rec.Txn(q.g, 7, 8, q.images)
	a.cell, a.errors[3] = rec.Cell(q.g, q.r, 1, 13)
	a.errors = append(a.errors, rec.Image(q.g, q.r.Image), rec.Check(q.g, q.r))
	return a
}

// lists are all lists of bytes in a.
func (a answer) lists() [][]byte {
	l := [][]byte{a.bytes, a.cell, a.read.Image.Bytes}
	for _, r := range a.txn[:cap(a.txn)] {
		l = append(l, r.Image.Bytes)
	}
	return l
}

// whole is a copy of a with all memory of its lists, that behind their lengths too.
func (a answer) whole() answer {
	a.bytes, a.cell, a.read.Image.Bytes, a.txn = whole(a.bytes), whole(a.cell), whole(a.read.Image.Bytes), whole(a.txn)
	for i := range a.txn {
		a.txn[i].Image.Bytes = whole(a.txn[i].Image.Bytes)
	}
	return a
}

func (a answer) isSame(b answer) bool {
	same := bytes.Equal(a.bytes, b.bytes) && bytes.Equal(a.cell, b.cell) && isSame(a.read, b.read)
	return same && slices.EqualFunc(a.txn, b.txn, isSame) && slices.Equal(a.errors, b.errors)
}

// roomy is the question with n behind each length.
func roomy(g api.Geometry, r api.Rec, b []byte, l []api.Image, n byte) question {
	q := question{g: g, r: r, b: spare(b, n)}
	q.r.Image.Bytes = spare(r.Image.Bytes, n)
	for _, x := range l {
		x.Bytes = spare(x.Bytes, n)
		q.images = append(q.images, x)
	}
	q.images = spare(q.images, api.Image{Zone: int(n), What: int(n), Bytes: bytes.Repeat([]byte{n}, 8)})
	return q
}

// questions are such as succeed and such as fail. Behind each length is n; what has been cut off is behind the length, too.
func questions(n byte) (l []question) {
	each(28, func(random *rand.Rand, g api.Geometry, r api.Rec) {
		b, few := wantBytes(r), anyImages(random, g, 1+random.Intn(29))
		wrong, other := r, g
		wrong.Kind, other.Slots = 3, 13
		cut := roomy(g, r, b, few, n)
		cut.b, cut.images, cut.r.Image.Bytes = cut.b[:len(b)-1], cut.images[:0], cut.r.Image.Bytes[:0]
		one := roomy(g, r, b, few, n)
		one.images = one.images[:1]
		l = append(l, roomy(g, r, b, few, n), one, cut, roomy(g, wrong, append(b, 1), anyImages(random, g, 30), n))
		l = append(l, roomy(other, r, b, few, n), roomy(g, r, b, append(few, wrongImages(g)...), n))
	})
	return l
}

// areApart tells an error if two of the lists share memory.
func areApart(t *testing.T, lists [][]byte) {
	t.Helper()
	for i, b := range lists {
		fill(b, byte(100+i))
	}
	for i, b := range lists {
		if !isFilled(b, byte(100+i)) {
			t.Fatal("two lists that were returned share memory")
		}
	}
}

// P15.1, P15.2 under R2: what is handed in stays as it was, its spare capacity too, also when all memory of the answers is written to, which
// they do not share with each other either, nor do the lists of one answer.
func TestMemory(t *testing.T) {
	for _, q := range questions(3) {
		was := q.copied()
		twice := []answer{q.ask(), q.ask()}
		areApart(t, append(twice[0].lists(), twice[1].lists()...))
		for i, a := range twice {
			fill(a.txn, api.Rec{Kind: 100 + i})
		}
		for i, a := range twice {
			isOther := func(r api.Rec) bool { return !isSame(r, api.Rec{Kind: 100 + i}) }
			if slices.ContainsFunc(a.txn[:cap(a.txn)], isOther) {
				t.Fatalf("%+v: two answers share their lists", q)
			}
		}
		if !q.isAs(was) {
			t.Fatalf("%+v has become %+v", was, q.copied())
		}
	}
}

// P15.1, P15.2 under R2: the answers stay as they were when all memory of what was handed in is written to.
func TestMemoryHandedIn(t *testing.T) {
	for _, q := range questions(3) {
		a := q.ask()
		was := a.whole()
		for _, b := range q.lists() {
			fill(b, 77)
		}
		fill(q.images, api.Image{Zone: 77})
		if !a.whole().isSame(was) {
			t.Fatalf("%+v has become %+v", was, a)
		}
	}
}

// P15.1 under R2: images that are the same memory are returned in memory of their own.
func TestElementsThatShareMemory(t *testing.T) {
	for _, g := range someGeometries() {
		same := make([]byte, 9*g.Data+9)
		for n := 1; n <= 29; n++ {
			l := slices.Repeat([]api.Image{{What: 0, Bytes: same[:8]}, {What: api.Parity, Bytes: same[1:9]}, {What: 255, Bytes: same}}, 10)[:n]
			txn(t, g, 7, 8, l)
			records, e := rec.Txn(g, 7, 8, l)
			if e != api.OK {
				t.Fatal(e)
			}
			areApart(t, answer{txn: records}.lists())
			if !bytes.Equal(same, make([]byte, len(same))) {
				t.Fatalf("what was handed in has become % x", same)
			}
		}
	}
}

// P15.1, P15.2 under R3 and R6: what is behind a length does not matter and is not returned, not even behind the length of an answer, and a
// call that is made again answers the same.
func TestAgain(t *testing.T) {
	var times [][]answer
	for _, n := range []byte{3, 3, 0, 255} {
		var l []answer
		for _, q := range questions(n) {
			l = append(l, q.ask().whole())
		}
		times = append(times, l)
	}
	for i, l := range times {
		if !slices.EqualFunc(l, times[0], answer.isSame) {
			t.Errorf("the answers of the time %d are other ones", i)
		}
	}
}

// P15.1, P15.2: any bytes, any records, any transactions.
func FuzzRec(f *testing.F) {
	f.Add(2, 3, 1, 14, 2, make([]byte, 11), 1, 5, 6, 0, 2, 1, 2, []byte("8 bytes."), 3)
	f.Add(1, 1, 0, 14, 1, []byte{2, 0, 0, 0, 0, 0, 0, 0, 0, 1, 2}, 2, api.MaxNum, 0, 1, 2, 0, 0, []byte{}, 1)
	f.Add(4, 4, 2, 30, 3, []byte{1, 0, 0, 0, 0, 0, 0, 0, 0, 0, 2, 3, 254, 8, 1, 2, 3, 4, 5, 6, 7, 8}, 1, 0, api.MaxNum, 28, 30, 3, -1, []byte("8 bytes."), 29)
	f.Add(1, 1, 0, 14, 1, slices.Concat([]byte{1, 0, 0, 0, 0, 0, 0, 0, 0, 0, 2, 0, 255, 18}, make([]byte, 18)), 1, 0, 0, 0, 2, 0, 255, make([]byte, 18), 30)
	f.Add(0, 5, 3, 13, 4, []byte{}, 3, math.MinInt, -1, math.MaxInt, 31, -1, 254, []byte{1}, 0)
	f.Fuzz(func(t *testing.T, zones, data, spares, slots, anchors int, b []byte, kind, seq, epoch, at, of, zone, what int, bytes []byte, n int) {
		g := geo(1+zones&3, 1+data&3, spares&1+spares>>1&1, 14+slots&15, 1+anchors&1)
		reads(t, g, b)
		r := api.Rec{Kind: kind, Seq: seq, Epoch: epoch, At: at, Of: of, Image: api.Image{Zone: zone, What: what, Bytes: bytes}}
		for k := range 3 {
			isRight(t, g, r, isValid(g, r))
			r.Kind = k
		}
		image(t, g, r.Image, isImage(g, r.Image))
		l := slices.Repeat([]api.Image{r.Image}, n&31)
		switch {
		case seq < 0 || seq > api.MaxNum || epoch < 0 || epoch > api.MaxNum || len(l) > 0 && !isImage(g, r.Image):
			txnFails(t, g, seq, epoch, l, api.ErrArg)
		case len(l) < 1 || len(l) > 29:
			txnFails(t, g, seq, epoch, l, api.ErrLen)
		default:
			txn(t, g, seq, epoch, l)
		}
		if wrong := geo(zones, data, spares, slots, anchors); !slices.Contains(geometries(), wrong) {
			refuses(t, wrong, r)
			readFails(t, wrong, b, api.ErrArg)
			txnFails(t, wrong, seq, epoch, l, api.ErrArg)
		}
	})
}
