package pair_test

import (
	"bytes"
	"encoding/binary"
	"hash/crc32"
	"math"
	"math/rand"
	"slices"
	"testing"

	"casemate/anchor"
	"casemate/api"
	"casemate/disk"
	"casemate/geom"
	"casemate/pair"
	"casemate/rec"
	"casemate/seal"
	"casemate/stripe"
	"casemate/table"
)

// geo is a geometry.
func geo(zones, data, spares, slots, anchors int) api.Geometry {
	return api.Geometry{Zones: zones, Data: data, Spares: spares, Slots: slots, Anchors: anchors}
}

// someGeometries are one for each number of blocks, the smallest and the greatest valid one among them.
func someGeometries() []api.Geometry {
	return []api.Geometry{geo(1, 1, 0, 14, 1), geo(3, 2, 2, 20, 3), geo(2, 3, 1, 15, 2), geo(4, 4, 2, 30, 3)}
}

// geometries are all valid ones.
func geometries() (l []api.Geometry) {
	for n := range 4 * 4 * 3 * 17 * 3 {
		l = append(l, geo(1+n%4, 1+n/4%4, n/16%3, 14+n/48%17, 1+n/816))
	}
	return l
}

// wrongGeometries are such as are not valid: base with each of its numbers one beyond each bound and far out, and with all of them at once.
func wrongGeometries(base api.Geometry) (l []api.Geometry) {
	change := func(number func(g *api.Geometry) *int, wrong ...int) {
		for _, n := range append(wrong, -1, math.MinInt, math.MaxInt) {
			g := base
			*number(&g) = n
			l = append(l, g)
		}
	}
	change(func(g *api.Geometry) *int { return &g.Zones }, 0, 5)
	change(func(g *api.Geometry) *int { return &g.Data }, 0, 5)
	change(func(g *api.Geometry) *int { return &g.Spares }, 3)
	change(func(g *api.Geometry) *int { return &g.Slots }, 0, 13, 31)
	change(func(g *api.Geometry) *int { return &g.Anchors }, 0, 4)
	return append(l, api.Geometry{}, geo(-1, -1, -1, -1, -1), geo(5, 5, 3, 31, 4))
}

// The document's words, as a second program that is to answer the same.

// isImage tells whether x is a valid image of the valid geometry g.
func isImage(g api.Geometry, x api.Image) bool {
	if x.Zone < 0 || x.Zone >= g.Zones {
		return false
	}
	if x.What != 255 {
		return x.What >= -1 && x.What < g.Data && len(x.Bytes) == 8
	}
	for i := range x.Bytes {
		if i%9 == 8 && x.Bytes[i] > 1 {
			return false
		}
	}
	return len(x.Bytes) == 9*g.Data+9 && x.Bytes[len(x.Bytes)-1] == 0
}

// isRecord tells whether r is a valid record of the valid geometry g.
func isRecord(g api.Geometry, r api.Rec) bool {
	hasImage := r.Image.Zone != 0 || r.Image.What != 0 || len(r.Image.Bytes) > 0
	inTxn := r.Seq >= 0 && r.Seq < 1<<32 && r.Epoch >= 0 && r.Epoch < 1<<32 && r.Of >= 2 && r.Of <= 30
	switch r.Kind {
	case 0:
		return r.Seq == 0 && r.Epoch == 0 && r.At == 0 && r.Of == 0 && !hasImage
	case 1:
		return inTxn && r.At >= 0 && r.At < r.Of-1 && isImage(g, r.Image)
	case 2:
		return inTxn && r.At == r.Of-1 && !hasImage
	}
	return false
}

// body is the encoding of r, valid or not, in which of each number there is what its bytes hold.
func body(r api.Rec) []byte {
	b := binary.LittleEndian.AppendUint32([]byte{byte(r.Kind)}, uint32(r.Seq))
	b = append(binary.LittleEndian.AppendUint32(b, uint32(r.Epoch)), byte(r.At), byte(r.Of))
	if r.Kind != 1 {
		return b
	}
	what := r.Image.What
	if what == -1 {
		what = 254
	}
	return append(append(b, byte(r.Image.Zone), byte(what), byte(len(r.Image.Bytes))), r.Image.Bytes...)
}

// sealed is the encoding of a sector. Its checksum is computed by the library of Go in a way of its own.
func sealed(addr, stamp int, payload []byte) []byte {
	b := append([]byte{byte(len(payload))}, payload...)
	b = binary.LittleEndian.AppendUint16(b, uint16(addr))
	b = binary.LittleEndian.AppendUint32(b, uint32(stamp))
	return binary.LittleEndian.AppendUint32(b, crc32.Checksum(b, crc32.MakeTable(crc32.Castagnoli)))
}

// address is that of the cell in this slot of this copy. Ahead of the log are the anchors.
func address(g api.Geometry, copy, slot int) int {
	return g.Anchors + copy*g.Slots + slot
}

// cell is what the cell in this slot of this copy has for the record r.
func cell(g api.Geometry, r api.Rec, copy, slot int) []byte {
	return sealed(address(g, copy, slot), r.Seq, body(r))
}

// got is the reading of that cell.
func got(g api.Geometry, r api.Rec, copy, slot int) api.Got {
	return api.Got{Bytes: cell(g, r, copy, slot)}
}

// wantSays is the record that the reading x contains, if it contains one: its fields are taken from where they stand, and the cell of what there
// is then has to be all that was read. The geometry is valid.
func wantSays(g api.Geometry, x api.Got, copy, slot int) (r api.Rec, ok bool) {
	isCell := copy >= 0 && copy <= 1 && slot >= 0 && slot < g.Slots
	if !isCell || x.Err != 0 || len(x.Bytes) < 12 {
		return api.Rec{}, false
	}
	b := x.Bytes[1:]
	r = api.Rec{Kind: int(b[0]), Seq: int(binary.LittleEndian.Uint32(b[1:])), Epoch: int(binary.LittleEndian.Uint32(b[5:])), At: int(b[9]), Of: int(b[10])}
	if r.Kind == 1 && len(b) > 13 && len(b) >= 14+int(b[13]) {
		r.Image = api.Image{Zone: int(b[11]), What: int(b[12]), Bytes: b[14 : 14+int(b[13])]}
		if b[12] == 254 {
			r.Image.What = -1
		}
	}
	if !isRecord(g, r) || !bytes.Equal(cell(g, r, copy, slot), x.Bytes) {
		return api.Rec{}, false
	}
	return r, true
}

// expectation is what a record is held against, the anchor apart.
type expectation struct {
	seq, at, of, left int
}

// wantIs tells whether r is the expected record: each condition by itself.
func wantIs(r api.Rec, a api.Anchor, x expectation) bool {
	var conditions []bool
	hold := func(ok bool) { conditions = append(conditions, ok) }
	hold(r.Kind != 0)
	hold(r.Seq == x.seq)
	hold(r.At == x.at)
	switch {
	case r.Of == x.of:
		hold(true)
	case x.of == 0:
		hold(r.Of <= x.left)
	default:
		hold(false)
	}
	switch {
	case r.Epoch == a.Epoch:
		hold(true)
	case x.seq <= a.Last:
		hold(r.Epoch <= a.Epoch)
	default:
		hold(false)
	}
	return !slices.Contains(conditions, false)
}

// question is what Look is asked with.
type question struct {
	g    api.Geometry
	a    api.Anchor
	x, y api.Got
	slot int
	expectation
}

// answer is what Look comes to.
type answer struct {
	r     api.Rec
	wants []int
	how   int
	e     api.Errno
}

// ask asks it.
func (q question) ask() (a answer) {
	a.r, a.wants, a.how, a.e = pair.Look(q.g, q.a, q.x, q.y, q.slot, q.seq, q.at, q.of, q.left)
	return a
}

// want is what it is to answer for a geometry and an anchor that are valid, and a slot of the log.
func (q question) want() answer {
	records, expected, wants := 0, []api.Rec{}, []int{}
	for copy, x := range []api.Got{q.x, q.y} {
		r, ok := wantSays(q.g, x, copy, q.slot)
		if ok {
			records++
		}
		if ok && wantIs(r, q.a, q.expectation) {
			expected = append(expected, r)
		} else {
			wants = append(wants, copy)
		}
	}
	switch {
	case len(expected) > 0:
		return answer{r: expected[0], wants: wants, how: 1}
	case records > 0:
		return answer{how: 2}
	}
	return answer{how: 3}
}

// Calls, held against what they are to answer.

func isSame(r, s api.Rec) bool {
	same := r.Kind == s.Kind && r.Seq == s.Seq && r.Epoch == s.Epoch && r.At == s.At && r.Of == s.Of
	return same && r.Image.Zone == s.Image.Zone && r.Image.What == s.Image.What && bytes.Equal(r.Image.Bytes, s.Image.Bytes)
}

// isNothing tells whether r is what stands where there is no record.
func isNothing(r api.Rec) bool {
	return isSame(r, api.Rec{}) && r.Image.Bytes == nil
}

func (a answer) isSame(b answer) bool {
	return isSame(a.r, b.r) && slices.Equal(a.wants, b.wants) && a.how == b.how && a.e == b.e
}

// says tells an error unless the reading x of the cell in this slot of this copy contains want.
func says(t *testing.T, g api.Geometry, x api.Got, copy, slot int, want api.Rec) {
	t.Helper()
	if r, ok := pair.Says(g, x, copy, slot); !ok || !isSame(r, want) {
		t.Fatalf("Says(%+v, %d, % x, %d, %d) = %+v, %v, want %+v", g, int(x.Err), x.Bytes, copy, slot, r, ok, want)
	}
}

// saysNot tells an error unless the reading x contains no record there, and nothing stands beside false.
func saysNot(t *testing.T, g api.Geometry, x api.Got, copy, slot int) {
	t.Helper()
	if r, ok := pair.Says(g, x, copy, slot); ok || !isNothing(r) {
		t.Fatalf("Says(%+v, %d, % x, %d, %d) = %+v, %v, want nothing", g, int(x.Err), x.Bytes, copy, slot, r, ok)
	}
}

// saysRight tells an error unless Says answers as the second program does, for a valid geometry.
func saysRight(t *testing.T, g api.Geometry, x api.Got, copy, slot int) {
	t.Helper()
	if want, ok := wantSays(g, x, copy, slot); ok {
		says(t, g, x, copy, slot, want)
	} else {
		saysNot(t, g, x, copy, slot)
	}
}

// is tells an error unless Is answers want, and so does the second program.
func is(t *testing.T, r api.Rec, a api.Anchor, x expectation, want bool) {
	t.Helper()
	if wantIs(r, a, x) != want {
		t.Fatalf("the test says of %+v, of %+v and of %+v: %v", r, a, x, !want)
	}
	if ok := pair.Is(r, a, x.seq, x.at, x.of, x.left); ok != want {
		t.Fatalf("Is(%+v, %+v, %+v) = %v", r, a, x, ok)
	}
}

// looks tells an error unless Look answers want.
func (q question) looks(t *testing.T, want answer) {
	t.Helper()
	if a := q.ask(); !a.isSame(want) {
		t.Fatalf("Look(%+v) = %+v, want %+v", q, a, want)
	}
	if a := q.ask(); a.how != 1 && (!isNothing(a.r) || a.wants != nil) {
		t.Fatalf("Look(%+v) = %+v: not how alone", q, a)
	}
}

// isRight tells an error unless Look answers as the second program does, and Says of both readings.
func (q question) isRight(t *testing.T) {
	t.Helper()
	saysRight(t, q.g, q.x, 0, q.slot)
	saysRight(t, q.g, q.y, 1, q.slot)
	q.looks(t, q.want())
}

// fails tells an error unless Look answers ErrArg, and nothing beside it.
func (q question) fails(t *testing.T) {
	t.Helper()
	if a := q.ask(); a.e != api.ErrArg || a.how != 0 || a.wants != nil || !isNothing(a.r) {
		t.Fatalf("Look(%+v) = %+v, not ErrArg alone", q, a)
	}
}

// Anchors, records and readings to ask of.

// nums are numbers and epochs, the edges of signed and of shorter numbers among them.
var nums = []int{0, 1, 2, 255, 256, 65535, 65536, 0x04030201, 1<<31 - 1, 1 << 31, api.MaxNum - 1, api.MaxNum}

// anyNum is any of all numbers, an edge in one case of two.
func anyNum(random *rand.Rand) int {
	if random.Intn(2) == 0 {
		return nums[random.Intn(len(nums))]
	}
	return int(random.Uint32())
}

// at is a valid anchor with this Epoch and this Last. Its Seq is not above its Last, if that can be.
func at(t testing.TB, g api.Geometry, epoch, last int) api.Anchor {
	t.Helper()
	a, e := anchor.First(g, "né")
	if e != api.OK {
		t.Fatal(e)
	}
	a.Gen, a.Epoch, a.Pos, a.Seq, a.Last = 7, epoch, g.Slots-1, max(1, last-3), last
	return a
}

// wrongAnchors are near to a, and not valid.
func wrongAnchors(g api.Geometry, a api.Anchor) (l []api.Anchor) {
	change := func(f func(a *api.Anchor)) {
		wrong := a
		wrong.Homes = slices.Clone(a.Homes)
		f(&wrong)
		l = append(l, wrong)
	}
	for _, n := range []int{-1, math.MinInt, api.MaxNum + 1, math.MaxInt} {
		change(func(a *api.Anchor) { a.Gen = n })
		change(func(a *api.Anchor) { a.Epoch = n })
		change(func(a *api.Anchor) { a.Last = n })
		change(func(a *api.Anchor) { a.Homes[g.Zones-1].Root = n })
	}
	change(func(a *api.Anchor) { a.Pos = g.Slots })
	change(func(a *api.Anchor) { a.Pos = -1 })
	change(func(a *api.Anchor) { a.Seq = 0 })
	change(func(a *api.Anchor) { a.Seq, a.Last = 9, 7 })
	change(func(a *api.Anchor) { a.Label = "seven r" })
	change(func(a *api.Anchor) { a.Homes = nil })
	change(func(a *api.Anchor) { a.Homes[0].Places = nil })
	change(func(a *api.Anchor) { a.Homes[0].Next = g.Data })
	return append(l, api.Anchor{})
}

// anyBytes are n bytes.
func anyBytes(random *rand.Rand, n int) []byte {
	b := make([]byte, n)
	random.Read(b)
	return b
}

// images are valid images of each zone of g and of all that it has, the bytes any.
func images(random *rand.Rand, g api.Geometry) (l []api.Image) {
	for zone := range g.Zones {
		for what := -1; what < g.Data; what++ {
			l = append(l, api.Image{Zone: zone, What: what, Bytes: anyBytes(random, 8)})
		}
		b := anyBytes(random, 9*g.Data+9)
		for i := 8; i < len(b); i += 9 {
			b[i] &= 1
		}
		b[len(b)-1] = 0
		l = append(l, api.Image{Zone: zone, What: 255, Bytes: b})
	}
	return l
}

// anyImage is any of them.
func anyImage(random *rand.Rand, g api.Geometry) api.Image {
	l := images(random, g)
	return l[random.Intn(len(l))]
}

// records are valid records of g: a blank one, one of each image, and commits.
func records(random *rand.Rand, g api.Geometry) []api.Rec {
	l := []api.Rec{{}}
	for _, x := range images(random, g) {
		of := 2 + random.Intn(29)
		l = append(l, api.Rec{Kind: 1, Seq: anyNum(random), Epoch: anyNum(random), At: random.Intn(of - 1), Of: of, Image: x})
	}
	for _, of := range []int{2, 3, 15, 29, 30} {
		l = append(l, api.Rec{Kind: 2, Seq: anyNum(random), Epoch: anyNum(random), At: of - 1, Of: of})
	}
	return l
}

// member is the record with the index at of a transaction: the last one is the commit, all others have an image.
func member(random *rand.Rand, g api.Geometry, seq, epoch, at, of int) api.Rec {
	if at == of-1 {
		return api.Rec{Kind: 2, Seq: seq, Epoch: epoch, At: at, Of: of}
	}
	return api.Rec{Kind: 1, Seq: seq, Epoch: epoch, At: at, Of: of, Image: anyImage(random, g)}
}

// each calls f with valid records of each of some geometries.
func each(seed int64, f func(random *rand.Rand, g api.Geometry, r api.Rec)) {
	random := rand.New(rand.NewSource(seed))
	for _, g := range someGeometries() {
		for _, r := range records(random, g) {
			f(random, g, r)
		}
	}
}

// eachCell calls f with each slot of each copy.
func eachCell(g api.Geometry, f func(copy, slot int)) {
	for copy := range 2 {
		for slot := range g.Slots {
			f(copy, slot)
		}
	}
}

// aCell is the copy and the slot of any cell.
func aCell(random *rand.Rand, g api.Geometry) (copy, slot int) {
	return random.Intn(2), random.Intn(g.Slots)
}

// withErrors are readings with each error, and with numbers that are none, with the bytes b beside it and without.
func withErrors(b []byte) (l []api.Got) {
	errors := []api.Errno{-1, -256, 24, 256, 1 << 32, math.MinInt, math.MaxInt}
	for e := api.ErrArg; e <= api.ErrCrash; e++ {
		errors = append(errors, e)
	}
	for _, e := range errors {
		l = append(l, api.Got{Err: e, Bytes: bytes.Clone(b)}, api.Got{Err: e}, api.Got{Err: e, Bytes: []byte{}})
	}
	return l
}

// cut are readings of b with bytes too few or too many, and of none.
func cut(b []byte) (l []api.Got) {
	l = append(l, api.Got{}, api.Got{Bytes: []byte{}}, api.Got{Bytes: make([]byte, len(b))}, api.Got{Bytes: make([]byte, 1<<16)})
	for n := range b {
		l = append(l, api.Got{Bytes: bytes.Clone(b[:n])}, api.Got{Bytes: b[:n]}, api.Got{Bytes: bytes.Clone(b[n+1:])})
	}
	for _, x := range []byte{0, 1, 255} {
		l = append(l, api.Got{Bytes: slices.Concat(b, []byte{x})}, api.Got{Bytes: slices.Concat([]byte{x}, b)})
	}
	return append(l, api.Got{Bytes: slices.Concat(b, b)}, api.Got{Bytes: slices.Concat(b, make([]byte, 200))})
}

// flipped are readings of b with each of its bits inverted, and with up to 32 from each bit on.
func flipped(random *rand.Rand, b []byte) (l []api.Got) {
	for bit := range 8 * len(b) {
		for _, bits := range []int{1, 1<<(1+random.Intn(32)) - 1, int(random.Uint32())} {
			l = append(l, api.Got{Bytes: seal.Flip(b, bit, bits)})
		}
	}
	return l
}

// others are numbers from 0 to most that are not n: those next to it, such as share bytes with it, and any.
func others(random *rand.Rand, n, most int) (l []int) {
	near := []int{n - 1, n + 1, n ^ 1, n ^ 0x80, n ^ 0x100, n ^ 0x8000, most - n, n&0xff<<8 | n>>8&0xff, n & 0xff, n >> 8, 0, 1, 2, most, most - 1, random.Intn(most + 1), n ^ 1<<31}
	for _, other := range near {
		if other != n && other >= 0 && other <= most {
			l = append(l, other)
		}
	}
	return l
}

// wrongBodies are encodings of nothing, though they are near to that of r.
func wrongBodies(g api.Geometry, r api.Rec) (l [][]byte) {
	good := body(r)
	for n := range good {
		l = append(l, good[:n])
	}
	l = append(l, slices.Concat(good, []byte{0}), slices.Concat(good, good)[:min(2*len(good), 96)])
	change := func(f func(r *api.Rec)) {
		wrong := r
		f(&wrong)
		if !isRecord(g, wrong) {
			l = append(l, body(wrong))
		}
	}
	for _, n := range []int{0, 1, 2, 3, 4, 30, 31, 254, 255} {
		change(func(r *api.Rec) { r.Kind = n })
		change(func(r *api.Rec) { r.At = n })
		change(func(r *api.Rec) { r.Of = n })
		change(func(r *api.Rec) { r.Image.Zone = n })
		change(func(r *api.Rec) { r.Image.What = n })
		change(func(r *api.Rec) { r.Image.Bytes = make([]byte, min(n, 80)) })
	}
	l = append(l, slices.Concat([]byte{3}, good[1:]), slices.Concat([]byte{255}, good[1:]))
	return slices.DeleteFunc(l, func(b []byte) bool {
		// What is changed in a record without an image is not encoded.
		_, ok := wantSays(g, api.Got{Bytes: sealed(g.Anchors, r.Seq, b)}, 0, 0)
		return ok
	})
}

// spoilt are readings of the cell in this slot of this copy that contain no record, though all but one thing of each is right for r.
func spoilt(random *rand.Rand, g api.Geometry, r api.Rec, copy, slot int) []api.Got {
	good := cell(g, r, copy, slot)
	l := slices.Concat(withErrors(good), cut(good), flipped(random, good))
	addr := address(g, copy, slot)
	l = append(l, got(g, r, 1-copy, slot), got(g, r, copy, (slot+1)%g.Slots), got(g, r, copy, (slot+g.Slots-1)%g.Slots))
	for _, other := range others(random, addr, 65535) {
		l = append(l, api.Got{Bytes: sealed(other, r.Seq, body(r))})
	}
	for _, other := range others(random, r.Seq, api.MaxNum) {
		l = append(l, api.Got{Bytes: sealed(addr, other, body(r))})
	}
	for _, wrong := range wrongBodies(g, r) {
		l = append(l, api.Got{Bytes: sealed(addr, r.Seq, wrong)})
	}
	return l
}

// aSpoilt is a reading of the cell in this slot of this copy that contains no record, though all but one thing of it is right for r.
func aSpoilt(random *rand.Rand, g api.Geometry, r api.Rec, copy, slot int) api.Got {
	good := cell(g, r, copy, slot)
	switch random.Intn(7) {
	case 0:
		return api.Got{Err: api.ErrRead, Bytes: good}
	case 1:
		return api.Got{Bytes: good[:random.Intn(len(good))]}
	case 2:
		return api.Got{Bytes: append(good, anyBytes(random, 1+random.Intn(9))...)}
	case 3:
		return api.Got{Bytes: seal.Flip(good, random.Intn(8*len(good)), int(random.Uint32()))}
	case 4:
		return got(g, r, 1-copy, slot)
	case 5:
		return api.Got{Bytes: sealed(address(g, copy, slot), r.Seq^1, body(r))}
	}
	return api.Got{Bytes: sealed(address(g, copy, slot), r.Seq, append(body(r), 0))}
}

// beyond are numbers from low down and from high up: next to these, far out, and such as a conversion to fewer bytes could make one between of.
func beyond(low, high int) []int {
	l := []int{low, low - 1, low - 2, -256, -255, -254, -65536, -1 << 32, math.MinInt32, math.MinInt + 1, math.MinInt}
	return append(l, high, high+1, high+2, 256, 257, 511, 512, 65535, 65536, 65537, 1<<31-1, 1<<32, 1<<32+1, 1<<32+255, 1<<62, math.MaxInt-1, math.MaxInt)
}

// far are numbers from the smallest to the greatest int.
var far = []int{
	math.MinInt, math.MinInt + 1, -1 << 32, math.MinInt32, -255, -2, -1, 0, 1, 2, 3, 13, 14, 15, 29, 30, 31, 255, 256,
	math.MaxInt32, api.MaxNum - 1, api.MaxNum, api.MaxNum + 1, math.MaxInt - 1, math.MaxInt,
}

// P17.1: the chapter's example: if neither copy can be read, how is 3.
func TestExample(t *testing.T) {
	for _, g := range geometries() {
		q := question{g: g, a: at(t, g, 5, 8), x: api.Got{Err: api.ErrRead}, y: api.Got{Err: api.ErrRead}, expectation: expectation{9, 0, 0, g.Slots}}
		q.looks(t, answer{how: 3})
	}
}

// P17.1: cells by hand, in the last slot of the log. The checksums were computed bit by bit beside the project.
func TestByHand(t *testing.T) {
	g := geo(2, 3, 1, 14, 2)
	image := api.Rec{Kind: 1, Seq: 263, Epoch: 5, At: 1, Of: 3, Image: api.Image{Zone: 1, What: api.Parity, Bytes: []byte{11, 12, 13, 14, 15, 16, 17, 18}}}
	imageCells := [2][]byte{
		{22, 1, 7, 1, 0, 0, 5, 0, 0, 0, 1, 3, 1, 254, 8, 11, 12, 13, 14, 15, 16, 17, 18, 15, 0, 7, 1, 0, 0, 52, 8, 92, 27},
		{22, 1, 7, 1, 0, 0, 5, 0, 0, 0, 1, 3, 1, 254, 8, 11, 12, 13, 14, 15, 16, 17, 18, 29, 0, 7, 1, 0, 0, 201, 152, 220, 0},
	}
	commit := api.Rec{Kind: 2, Seq: 263, Epoch: 5, At: 2, Of: 3}
	commitCells := [2][]byte{
		{11, 2, 7, 1, 0, 0, 5, 0, 0, 0, 2, 3, 15, 0, 7, 1, 0, 0, 70, 150, 168, 42},
		{11, 2, 7, 1, 0, 0, 5, 0, 0, 0, 2, 3, 29, 0, 7, 1, 0, 0, 187, 6, 40, 49},
	}
	blankCells := [2][]byte{
		{11, 0, 0, 0, 0, 0, 0, 0, 0, 0, 0, 0, 15, 0, 0, 0, 0, 0, 179, 62, 153, 69},
		{11, 0, 0, 0, 0, 0, 0, 0, 0, 0, 0, 0, 29, 0, 0, 0, 0, 0, 78, 174, 25, 94},
	}
	for copy := range 2 {
		says(t, g, api.Got{Bytes: imageCells[copy]}, copy, 13, image)
		says(t, g, api.Got{Bytes: commitCells[copy]}, copy, 13, commit)
		says(t, g, api.Got{Bytes: blankCells[copy]}, copy, 13, api.Rec{})
		saysNot(t, g, api.Got{Bytes: imageCells[1-copy]}, copy, 13)
		saysNot(t, g, api.Got{Bytes: imageCells[copy]}, copy, 12)
	}
	a := at(t, g, 5, 262)
	ask := func(x, y []byte, at int, want answer) {
		t.Helper()
		question{g, a, api.Got{Bytes: x}, api.Got{Bytes: y}, 13, expectation{263, at, 3, 0}}.looks(t, want)
	}
	ask(imageCells[0], imageCells[1], 1, answer{r: image, how: 1})
	ask(imageCells[0], commitCells[1], 1, answer{r: image, wants: []int{1}, how: 1})
	ask(imageCells[0], commitCells[1], 2, answer{r: commit, wants: []int{0}, how: 1})
	ask(blankCells[0], imageCells[1], 1, answer{r: image, wants: []int{0}, how: 1})
	ask(blankCells[0], imageCells[1], 2, answer{how: 2})
	ask(blankCells[0], blankCells[1], 1, answer{how: 2})
	ask(blankCells[0], nil, 1, answer{how: 2})
	ask(nil, commitCells[1], 1, answer{how: 2})
	ask(imageCells[1], imageCells[0], 1, answer{how: 3})
}

// P17.1: records of each kind in each slot of each copy are said there and nowhere else.
func TestSaysOfEachCell(t *testing.T) {
	each(1, func(_ *rand.Rand, g api.Geometry, r api.Rec) {
		eachCell(g, func(copy, slot int) {
			x := got(g, r, copy, slot)
			if b, e := rec.Cell(g, r, copy, slot); e != api.OK || !bytes.Equal(b, x.Bytes) {
				t.Fatalf("package rec makes % x, %v of %+v, the test makes % x", b, e, r, x.Bytes)
			}
			eachCell(g, func(c, s int) {
				if c == copy && s == slot {
					says(t, g, x, c, s, r)
				} else {
					saysNot(t, g, x, c, s)
				}
			})
		})
	})
}

// P17.1: records of each kind in each geometry.
func TestSaysOfEachGeometry(t *testing.T) {
	random := rand.New(rand.NewSource(2))
	for _, g := range geometries() {
		for _, r := range records(random, g) {
			copy, slot := aCell(random, g)
			says(t, g, got(g, r, copy, slot), copy, slot, r)
			saysNot(t, g, got(g, r, copy, slot), 1-copy, slot)
			saysNot(t, g, got(g, r, copy, slot), copy, (slot+1)%g.Slots)
		}
	}
}

// P17.1: a reading with an error contains nothing, whatever bytes are beside it.
func TestSaysOfErrors(t *testing.T) {
	each(3, func(random *rand.Rand, g api.Geometry, r api.Rec) {
		copy, slot := aCell(random, g)
		for _, x := range withErrors(cell(g, r, copy, slot)) {
			saysNot(t, g, x, copy, slot)
		}
		says(t, g, api.Got{Err: api.OK, Bytes: cell(g, r, copy, slot)}, copy, slot, r)
	})
}

// P17.1: bytes that are no sector contain nothing: none, cut short, too long, or with bits inverted, each of them alone too.
func TestSaysOfNoSector(t *testing.T) {
	each(4, func(random *rand.Rand, g api.Geometry, r api.Rec) {
		copy, slot := aCell(random, g)
		b := cell(g, r, copy, slot)
		for _, x := range slices.Concat(cut(b), flipped(random, b)) {
			saysNot(t, g, x, copy, slot)
		}
		// What is behind the length is not read.
		says(t, g, api.Got{Bytes: append(bytes.Clone(b), 1, 2, 3)[:len(b)]}, copy, slot, r)
	})
	saysNot(t, someGeometries()[0], api.Got{Bytes: make([]byte, 1<<24)}, 0, 0)
}

// P17.1: the sector has the address of this cell, and no other one: each of all that a sector may have.
func TestSaysOfEachAddress(t *testing.T) {
	random := rand.New(rand.NewSource(5))
	for _, g := range someGeometries() {
		l := records(random, g)
		eachCell(g, func(copy, slot int) {
			r := l[random.Intn(len(l))]
			for _, other := range others(random, address(g, copy, slot), 65535) {
				saysNot(t, g, api.Got{Bytes: sealed(other, r.Seq, body(r))}, copy, slot)
			}
		})
		r := l[random.Intn(len(l))]
		copy, slot := aCell(random, g)
		for addr := range 65536 {
			x := api.Got{Bytes: sealed(addr, r.Seq, body(r))}
			if addr == address(g, copy, slot) {
				says(t, g, x, copy, slot, r)
			} else {
				saysNot(t, g, x, copy, slot)
			}
		}
	}
}

// P17.1: the Stamp of the sector is the Seq of the record, and no other number of it.
func TestSaysOfStamps(t *testing.T) {
	random := rand.New(rand.NewSource(6))
	for _, g := range someGeometries() {
		for _, seq := range nums {
			for _, at := range []int{0, 3} {
				r := member(random, g, seq, 77, at, 4)
				copy, slot := aCell(random, g)
				addr := address(g, copy, slot)
				says(t, g, api.Got{Bytes: sealed(addr, seq, body(r))}, copy, slot, r)
				for _, stamp := range append(others(random, seq, api.MaxNum), 77, 3, 4) {
					if stamp != seq {
						saysNot(t, g, api.Got{Bytes: sealed(addr, stamp, body(r))}, copy, slot)
					}
				}
			}
		}
		for _, stamp := range nums[1:] {
			saysNot(t, g, api.Got{Bytes: sealed(address(g, 1, 3), stamp, make([]byte, 11))}, 1, 3)
		}
		says(t, g, api.Got{Bytes: sealed(address(g, 1, 3), 0, make([]byte, 11))}, 1, 3, api.Rec{})
	}
}

// P17.1: a Payload that is no record's encoding: cut anywhere, with bytes more, that of records that are not valid, of an anchor, of a block.
func TestSaysOfNoRecord(t *testing.T) {
	each(7, func(random *rand.Rand, g api.Geometry, r api.Rec) {
		copy, slot := aCell(random, g)
		addr := address(g, copy, slot)
		for _, wrong := range wrongBodies(g, r) {
			saysNot(t, g, api.Got{Bytes: sealed(addr, r.Seq, wrong)}, copy, slot)
		}
	})
	for _, g := range someGeometries() {
		b, e := anchor.Bytes(g, at(t, g, 5, 8))
		if e != api.OK {
			t.Fatal(e)
		}
		for _, stamp := range []int{0, 5, 7, 8} {
			saysNot(t, g, api.Got{Bytes: sealed(g.Anchors, stamp, b)}, 0, 0)
			saysNot(t, g, api.Got{Bytes: sealed(g.Anchors, stamp, []byte("8 bytes."))}, 0, 0)
		}
		for n := range 97 {
			x := api.Got{Bytes: sealed(g.Anchors, 0, make([]byte, n))}
			if n == 11 {
				says(t, g, x, 0, 0, api.Rec{})
			} else {
				saysNot(t, g, x, 0, 0)
			}
		}
	}
}

// P17.1: Payloads with one byte changed to each value, behind the right checksum, with the Stamp that was and with the one that fits.
func TestSaysOfOtherPayloads(t *testing.T) {
	random := rand.New(rand.NewSource(8))
	for _, g := range someGeometries() {
		for _, r := range []api.Rec{{}, member(random, g, 9, 5, 0, 3), member(random, g, 9, 5, 2, 3)} {
			b := body(r)
			for i, was := range b {
				for c := range 256 {
					b[i] = byte(c)
					saysRight(t, g, api.Got{Bytes: sealed(g.Anchors, r.Seq, b)}, 0, 0)
					saysRight(t, g, api.Got{Bytes: sealed(g.Anchors, int(binary.LittleEndian.Uint32(b[1:])), b)}, 0, 0)
				}
				b[i] = was
			}
		}
	}
}

// P17.1: there are the copies 0 and 1 alone, and the slots from 0 to Slots - 1, whatever the address that would come of others.
func TestSaysOfNoCell(t *testing.T) {
	each(9, func(random *rand.Rand, g api.Geometry, r api.Rec) {
		copy, slot := aCell(random, g)
		x := got(g, r, copy, slot)
		for _, n := range beyond(-1, 2) {
			saysNot(t, g, x, n, slot)
			saysNot(t, g, x, n, 0)
			saysNot(t, g, x, n, n)
		}
		for _, n := range append(beyond(-1, g.Slots), 31, 59, 60, -g.Slots, 2*g.Slots) {
			if n < 0 || n >= g.Slots {
				saysNot(t, g, x, copy, n)
				saysNot(t, g, x, 1-copy, n)
			}
		}
		// The same address, of a copy or of a slot that there is not.
		for c := -3; c <= 4; c++ {
			s := address(g, copy, slot) - g.Anchors - c*g.Slots
			if c == copy {
				says(t, g, x, c, s, r)
			} else {
				saysNot(t, g, x, c, s)
			}
		}
		// Cells beside the log, each of which has the address that the slot would have.
		for _, s := range []int{-1, -g.Anchors, g.Slots, g.Slots + 1, 2 * g.Slots, 1 << 15} {
			for c := range 2 {
				saysNot(t, g, api.Got{Bytes: sealed(address(g, c, s), r.Seq, body(r))}, c, s)
			}
		}
		saysNot(t, g, got(g, r, -1, slot), -1, slot)
		saysNot(t, g, got(g, r, 2, slot), 2, slot)
	})
}

// P17.1: cells of another geometry are read as those of this one are: with other addresses they contain nothing, and with the same ones a
// record if it is one of this geometry too.
func TestSaysOfOtherGeometries(t *testing.T) {
	random := rand.New(rand.NewSource(10))
	all := geometries()
	for range 20000 {
		g, from := all[random.Intn(len(all))], all[random.Intn(len(all))]
		l := records(random, from)
		r := l[random.Intn(len(l))]
		copy, slot := aCell(random, from)
		saysRight(t, g, got(from, r, copy, slot), copy, slot)
		from.Slots, from.Anchors = g.Slots, g.Anchors
		copy, slot = aCell(random, from)
		saysRight(t, g, got(from, r, copy, slot), copy, slot)
	}
}

// P17.1: with a geometry that is not valid no reading contains anything, and Look is ErrArg.
func TestWrongGeometries(t *testing.T) {
	random := rand.New(rand.NewSource(11))
	for _, base := range someGeometries() {
		l := records(random, base)
		for _, g := range wrongGeometries(base) {
			r := l[random.Intn(len(l))]
			x, y := got(base, r, 0, 3), got(base, r, 1, 3)
			saysNot(t, g, x, 0, 3)
			saysNot(t, g, y, 1, 3)
			saysNot(t, g, got(g, r, 0, 3), 0, 3)
			saysNot(t, g, got(g, r, 1, 3), 1, 3)
			saysNot(t, g, api.Got{}, 0, 0)
			q := question{g, at(t, base, r.Epoch, 8), x, y, 3, expectation{r.Seq, r.At, r.Of, 30}}
			q.fails(t)
			q.x, q.y = got(g, r, 0, 3), got(g, r, 1, 3)
			q.fails(t)
			q.x, q.y = api.Got{Err: api.ErrRead}, api.Got{}
			q.fails(t)
			q.a = api.Anchor{}
			q.fails(t)
			q.slot = -1
			q.fails(t)
		}
	}
}

// P17.1: the expected record by hand, with one thing changed in each case.
func TestIsByHand(t *testing.T) {
	a := api.Anchor{Epoch: 5, Last: 8}
	x := expectation{seq: 9, at: 1, of: 4, left: 0}
	r := api.Rec{Kind: api.RecImage, Seq: 9, Epoch: 5, At: 1, Of: 4}
	is(t, r, a, x, true)
	change := func(f func(r *api.Rec), want bool) {
		t.Helper()
		s := r
		f(&s)
		is(t, s, a, x, want)
	}
	change(func(r *api.Rec) { r.Kind = api.RecCommit }, true)
	change(func(r *api.Rec) { r.Kind = api.RecBlank }, false)
	change(func(r *api.Rec) { r.Seq = 8 }, false)
	change(func(r *api.Rec) { r.Seq = 10 }, false)
	change(func(r *api.Rec) { r.At = 0 }, false)
	change(func(r *api.Rec) { r.At = 2 }, false)
	change(func(r *api.Rec) { r.Of = 3 }, false)
	change(func(r *api.Rec) { r.Of = 5 }, false)
	change(func(r *api.Rec) { r.Of = 0 }, false)
	change(func(r *api.Rec) { r.Epoch = 4 }, false)
	change(func(r *api.Rec) { r.Epoch = 6 }, false)
	change(func(r *api.Rec) { r.Image = api.Image{Zone: -1, What: 99} }, true)
	for _, test := range []struct {
		left int
		want bool
	}{{-1, false}, {0, false}, {3, false}, {4, true}, {5, true}, {30, true}, {math.MaxInt, true}, {math.MinInt, false}} {
		is(t, r, a, expectation{seq: 9, at: 1, of: 0, left: test.left}, test.want)
	}
	for _, test := range []struct {
		last, epoch int
		want        bool
	}{
		{8, 4, false}, {8, 5, true}, {8, 6, false}, {9, 4, true}, {9, 5, true}, {9, 6, false}, {10, 4, true}, {10, 5, true}, {10, 6, false},
		{8, 0, false}, {9, 0, true}, {9, api.MaxNum, false}, {10, 0, true},
	} {
		r.Epoch = test.epoch
		is(t, r, api.Anchor{Epoch: 5, Last: test.last}, x, test.want)
	}
}

// P17.1: each of Kind, Seq, At, Of and Epoch as it is to be, one less and one more, with of known and not, left one less and one more than Of,
// Last one less and one more than seq: all at once.
func TestIsOfEachChange(t *testing.T) {
	near := []int{-1, 0, 1}
	for _, seq := range []int{2, 9, api.MaxNum - 2} {
		for n := range 3 * 3 * 3 * 3 * 3 * 3 * 3 * 2 {
			d := func() (by int) {
				by = near[n%3]
				n /= 3
				return by
			}
			a := api.Anchor{Epoch: 5, Last: seq + d()}
			r := api.Rec{Kind: 1 + d(), Seq: seq + d(), At: 3 + d(), Of: 7 + d(), Epoch: 5 + d()}
			x := expectation{seq: seq, at: 3, of: 7 * (n % 2), left: 7}
			left, of := x.left+d(), x.of
			x.left = left
			ofFits := r.Of == 7
			if of == 0 {
				ofFits = r.Of <= left
			}
			epochFits := r.Epoch == 5 || r.Epoch == 4 && a.Last >= seq
			is(t, r, a, x, r.Kind > 0 && r.Seq == seq && r.At == 3 && ofFits && epochFits)
		}
	}
}

// P17.1: numbers from the smallest to the greatest int: each pair of Seq and seq, of At and at, of Of with of and with left, and of the epochs
// with each seq and each Last.
func TestIsOfFarNumbers(t *testing.T) {
	for _, n := range far {
		for _, m := range far {
			is(t, api.Rec{Kind: 1, Seq: n}, api.Anchor{}, expectation{seq: m}, n == m)
			is(t, api.Rec{Kind: 1, At: n}, api.Anchor{}, expectation{at: m}, n == m)
			is(t, api.Rec{Kind: 1, Of: n}, api.Anchor{}, expectation{of: m, left: math.MinInt}, n == m || m == 0 && n == math.MinInt)
			is(t, api.Rec{Kind: 1, Of: n}, api.Anchor{}, expectation{of: m, left: math.MaxInt}, n == m || m == 0)
			is(t, api.Rec{Kind: 1, Of: n}, api.Anchor{}, expectation{left: m}, n <= m || n == 0)
			is(t, api.Rec{Kind: 0, Of: n}, api.Anchor{}, expectation{left: m}, false)
			is(t, api.Rec{Kind: n, Of: m}, api.Anchor{}, expectation{of: m}, n != 0)
			for _, seq := range far {
				for _, last := range far {
					is(t, api.Rec{Kind: 2, Seq: seq, Epoch: n}, api.Anchor{Epoch: m, Last: last}, expectation{seq: seq}, n == m || n < m && seq <= last)
				}
			}
		}
	}
}

// P17.1: any records, valid or not, and any anchors.
func TestIsOfAny(t *testing.T) {
	random := rand.New(rand.NewSource(12))
	few := func() int { return random.Intn(4) - 1 }
	for range 300000 {
		number := few
		if random.Intn(4) == 0 {
			number = func() int { return far[random.Intn(len(far))] }
		}
		r := api.Rec{Kind: number(), Seq: few(), Epoch: number(), At: few(), Of: number(), Image: api.Image{Zone: number()}}
		a := api.Anchor{Gen: number(), Epoch: few(), Pos: number(), Seq: number(), Last: number()}
		x := expectation{few(), few(), number(), number()}
		is(t, r, a, x, wantIs(r, a, x))
	}
}

// P17.1: the rest of the anchor does not matter to Is: neither its Gen, nor its Pos, nor its Seq, nor its Homes.
func TestIsOfOtherAnchors(t *testing.T) {
	random := rand.New(rand.NewSource(13))
	for range 5000 {
		seq, epoch, last := anyNum(random), anyNum(random), anyNum(random)
		r := api.Rec{Kind: 1, Seq: seq, Epoch: epoch - random.Intn(2), At: 2, Of: 5}
		x := expectation{seq, 2, 5, 0}
		want := r.Epoch == epoch || seq <= last
		is(t, r, api.Anchor{Epoch: epoch, Last: last}, x, want)
		a := api.Anchor{Gen: anyNum(random), Epoch: epoch, Pos: 99, Seq: anyNum(random), Last: last, Label: "\n", Homes: []api.Home{{Next: -1}}}
		is(t, r, a, x, want)
	}
}

// Look.

// base is a question of a record that a volume expects behind those that it found when it was mounted.
func base(t *testing.T, random *rand.Rand, g api.Geometry, slot int) (q question, r api.Rec) {
	t.Helper()
	r = member(random, g, 9, 5, 1, 4)
	return question{g: g, a: at(t, g, 5, 8), slot: slot, expectation: expectation{9, 1, 4, 0}}, r
}

// P17.1: each copy with the expected record, unreadable, spoilt, blank, with another record, of an elder and of a later epoch, in each slot: by hand.
func TestLookByHand(t *testing.T) {
	random := rand.New(rand.NewSource(14))
	for _, g := range someGeometries() {
		for slot := range g.Slots {
			q, r := base(t, random, g, slot)
			wrong := []api.Rec{
				{}, member(random, g, 8, 5, 1, 4), member(random, g, 10, 5, 1, 4), member(random, g, 9, 5, 0, 4), member(random, g, 9, 5, 2, 4),
				member(random, g, 9, 5, 1, 3), member(random, g, 9, 5, 1, 5), member(random, g, 9, 4, 1, 4), member(random, g, 9, 6, 1, 4),
				member(random, g, 9, 5, 1, 2), member(random, g, 9, 5, 3, 4),
			}
			ask := func(x, y api.Got, want answer) {
				t.Helper()
				q.x, q.y = x, y
				q.looks(t, want)
				q.isRight(t)
			}
			x, y := got(g, r, 0, slot), got(g, r, 1, slot)
			ask(x, y, answer{r: r, how: 1})
			var none [2][]api.Got
			for copy := range 2 {
				none[copy] = []api.Got{{Err: api.ErrRead}, {Err: api.ErrDead, Bytes: cell(g, r, copy, slot)}, {}, got(g, r, 1-copy, slot), aSpoilt(random, g, r, copy, slot)}
			}
			for i := range none[0] {
				ask(x, none[1][i], answer{r: r, wants: []int{1}, how: 1})
				ask(none[0][i], y, answer{r: r, wants: []int{0}, how: 1})
				for k := range none[1] {
					ask(none[0][i], none[1][k], answer{how: 3})
				}
			}
			for _, w := range wrong {
				ask(x, got(g, w, 1, slot), answer{r: r, wants: []int{1}, how: 1})
				ask(got(g, w, 0, slot), y, answer{r: r, wants: []int{0}, how: 1})
				for i := range none[0] {
					ask(got(g, w, 0, slot), none[1][i], answer{how: 2})
					ask(none[0][i], got(g, w, 1, slot), answer{how: 2})
				}
				for _, v := range wrong {
					ask(got(g, w, 0, slot), got(g, v, 1, slot), answer{how: 2})
				}
			}
		}
	}
}

// P17.1: if both copies contain an expected record, and not the same one, the first one is told, and neither copy is wanted.
func TestLookOfTwoThatDiffer(t *testing.T) {
	random := rand.New(rand.NewSource(15))
	for _, g := range someGeometries() {
		for slot := range g.Slots {
			q, _ := base(t, random, g, slot)
			q.a = at(t, g, 5, 9)
			q.of, q.left = 0, 6
			l := []api.Rec{
				member(random, g, 9, 5, 1, 4), member(random, g, 9, 5, 1, 4), member(random, g, 9, 4, 1, 4), member(random, g, 9, 0, 1, 6),
				member(random, g, 9, 5, 1, 3), member(random, g, 9, 5, 1, 2), member(random, g, 9, 1, 1, 2),
			}
			for _, r := range l {
				for _, s := range l {
					q.x, q.y = got(g, r, 0, slot), got(g, s, 1, slot)
					q.looks(t, answer{r: r, how: 1})
				}
				later := got(g, member(random, g, 9, 6, 1, 4), 1, slot)
				q.x, q.y = got(g, r, 0, slot), later
				q.looks(t, answer{r: r, wants: []int{1}, how: 1})
				long := got(g, member(random, g, 9, 5, 1, 7), 0, slot)
				q.x, q.y = long, got(g, r, 1, slot)
				q.looks(t, answer{r: r, wants: []int{0}, how: 1})
				q.x, q.y = long, later
				q.looks(t, answer{how: 2})
			}
		}
	}
}

// P17.1: the Epoch below the anchor's, equal to it and above it, with a seq below Last, equal to it and above it, in either copy.
func TestLookOfEpochs(t *testing.T) {
	random := rand.New(rand.NewSource(16))
	for _, g := range someGeometries() {
		for _, epoch := range []int{0, 1, 5, api.MaxNum - 1, api.MaxNum} {
			for _, last := range []int{0, 1, 8, 9, 10, api.MaxNum} {
				for by := -1; by <= 1; by++ {
					r := member(random, g, 9, epoch+by, 0, 3)
					if !isRecord(g, r) {
						continue
					}
					expected := by == 0 || by < 0 && last >= 9
					copy, slot := aCell(random, g)
					q := question{g: g, a: at(t, g, epoch, last), slot: slot, expectation: expectation{9, 0, 3, 0}}
					q.x, q.y = aSpoilt(random, g, r, 0, slot), aSpoilt(random, g, r, 1, slot)
					*[]*api.Got{&q.x, &q.y}[copy] = got(g, r, copy, slot)
					if expected {
						q.looks(t, answer{r: r, wants: []int{1 - copy}, how: 1})
					} else {
						q.looks(t, answer{how: 2})
					}
				}
			}
		}
	}
}

// P17.1: the first record of a transaction, of which of is not known: Of may be left, and less, and not more.
func TestLookOfFirstRecord(t *testing.T) {
	random := rand.New(rand.NewSource(17))
	for _, g := range someGeometries() {
		for of := 2; of <= 30; of++ {
			r := member(random, g, 9, 5, 0, of)
			for _, left := range append([]int{of - 1, of, of + 1, 14, 30}, far...) {
				_, slot := aCell(random, g)
				q := question{g, at(t, g, 5, 8), got(g, r, 0, slot), got(g, r, 1, slot), slot, expectation{9, 0, 0, left}}
				if of <= left {
					q.looks(t, answer{r: r, how: 1})
				} else {
					q.looks(t, answer{how: 2})
				}
				// If of is known, left does not matter.
				q.of = of
				q.looks(t, answer{r: r, how: 1})
				for _, n := range []int{of - 1, of + 1, -1, -of, math.MinInt, math.MaxInt} {
					q.of = n
					q.looks(t, answer{how: 2})
				}
			}
		}
	}
}

// P17.1: expectations from the smallest to the greatest int: none but the right one is met.
func TestLookForFarNumbers(t *testing.T) {
	random := rand.New(rand.NewSource(18))
	for _, g := range someGeometries() {
		_, slot := aCell(random, g)
		q, r := base(t, random, g, slot)
		q.x, q.y = got(g, r, 0, slot), got(g, r, 1, slot)
		for _, n := range append(far, 4, 8, 9, 10) {
			for _, m := range append(far, 4, 8, 9, 10) {
				for _, x := range []expectation{{n, m, 4, 0}, {9, n, m, 0}, {9, 1, n, m}, {n, 1, m, 4}, {n, m, n, m}} {
					q.expectation = x
					q.isRight(t)
				}
			}
		}
	}
}

// P17.1: a blank record is never the expected one, even if its numbers are.
func TestLookForBlank(t *testing.T) {
	for _, g := range someGeometries() {
		for slot := range g.Slots {
			q := question{g, at(t, g, 0, 0), got(g, api.Rec{}, 0, slot), got(g, api.Rec{}, 1, slot), slot, expectation{0, 0, 0, 30}}
			q.looks(t, answer{how: 2})
			q.x = api.Got{Err: api.ErrRead}
			q.looks(t, answer{how: 2})
			q.x, q.y = got(g, api.Rec{}, 0, slot), api.Got{Err: api.ErrRead}
			q.looks(t, answer{how: 2})
			q.x = api.Got{}
			q.looks(t, answer{how: 3})
		}
	}
}

// P17.1: each way to spoil one copy, and both.
func TestLookOfSpoilt(t *testing.T) {
	random := rand.New(rand.NewSource(19))
	for _, g := range someGeometries() {
		_, slot := aCell(random, g)
		q, r := base(t, random, g, slot)
		x, y := spoilt(random, g, r, 0, slot), spoilt(random, g, r, 1, slot)
		for i := range x {
			q.x, q.y = x[i], got(g, r, 1, slot)
			q.looks(t, answer{r: r, wants: []int{0}, how: 1})
			q.x, q.y = x[i], y[random.Intn(len(y))]
			q.looks(t, answer{how: 3})
			q.x, q.y = x[i], got(g, api.Rec{}, 1, slot)
			q.looks(t, answer{how: 2})
		}
		for i := range y {
			q.x, q.y = got(g, r, 0, slot), y[i]
			q.looks(t, answer{r: r, wants: []int{1}, how: 1})
			q.x, q.y = x[random.Intn(len(x))], y[i]
			q.looks(t, answer{how: 3})
			q.x, q.y = got(g, api.Rec{}, 0, slot), y[i]
			q.looks(t, answer{how: 2})
		}
	}
}

// P17.1: an anchor that is not valid is ErrArg, whatever the readings are.
func TestLookWithWrongAnchors(t *testing.T) {
	random := rand.New(rand.NewSource(20))
	for _, g := range someGeometries() {
		q, r := base(t, random, g, 3)
		for _, wrong := range wrongAnchors(g, q.a) {
			q.a, q.slot = wrong, 3
			q.x, q.y = got(g, r, 0, 3), got(g, r, 1, 3)
			q.fails(t)
			q.y = api.Got{Err: api.ErrRead}
			q.fails(t)
			q.x = api.Got{}
			q.fails(t)
			q.slot = g.Slots
			q.fails(t)
		}
		other := someGeometries()[0]
		if g.Zones != 1 {
			other.Slots, other.Anchors = g.Slots, g.Anchors
			q.g, q.a, q.slot = other, at(t, g, 5, 8), 3
			q.fails(t)
		}
	}
}

// P17.1: a slot that is none of the log is ErrArg, also if the readings have the address that it would have.
func TestLookAtNoSlot(t *testing.T) {
	random := rand.New(rand.NewSource(21))
	for _, g := range someGeometries() {
		q, r := base(t, random, g, 0)
		for _, slot := range append(beyond(-1, g.Slots), 31, 60, -g.Slots, 2*g.Slots) {
			if slot >= 0 && slot < g.Slots {
				continue
			}
			q.slot, q.x, q.y = slot, got(g, r, 0, 0), got(g, r, 1, 0)
			q.fails(t)
			q.x, q.y = got(g, r, 0, slot), got(g, r, 1, slot)
			q.fails(t)
			q.x, q.y = api.Got{Err: api.ErrRead}, api.Got{Err: api.ErrRead}
			q.fails(t)
		}
		for _, slot := range []int{0, g.Slots - 1} {
			q.slot, q.x, q.y = slot, got(g, r, 0, slot), got(g, r, 1, slot)
			q.looks(t, answer{r: r, how: 1})
		}
	}
}

// P17.1, R4: each set of errors at once. All of them are ErrArg, so that their order can't be told, and nothing stands beside them.
func TestOrderOfErrors(t *testing.T) {
	random := rand.New(rand.NewSource(22))
	for _, g := range someGeometries() {
		for wrong := 1; wrong < 16; wrong++ {
			q, r := base(t, random, g, 3)
			q.x, q.y = got(g, r, 0, 3), got(g, r, 1, 3)
			q.looks(t, answer{r: r, how: 1})
			if wrong&1 != 0 {
				q.g.Slots = 31
			}
			if wrong&2 != 0 {
				q.a.Label = "\n"
			}
			if wrong&4 != 0 {
				q.slot = 30
			}
			if wrong&8 != 0 {
				q.x, q.y = api.Got{Err: api.ErrRead}, api.Got{Err: api.ErrDead}
			}
			if wrong == 8 {
				// An error of a reading is none of Look.
				q.looks(t, answer{how: 3})
			} else {
				q.fails(t)
			}
		}
	}
}

// anyReading is a reading of the cell in this slot of this copy: of a record that differs from the one with these numbers in few things.
func anyReading(random *rand.Rand, g api.Geometry, copy, slot int) api.Got {
	of := 2 + random.Intn(3)
	r := member(random, g, 8+random.Intn(3), 4+random.Intn(3), random.Intn(of), of)
	if random.Intn(8) == 0 {
		r = api.Rec{}
	}
	if random.Intn(3) == 0 {
		return aSpoilt(random, g, r, copy, slot)
	}
	return got(g, r, copy, slot)
}

// P17.1: any readings, any expectations, in any geometry, against the second program.
func TestRandom(t *testing.T) {
	random := rand.New(rand.NewSource(23))
	all := geometries()
	ways := make([]int, 4)
	for range 30000 {
		g := all[random.Intn(len(all))]
		_, slot := aCell(random, g)
		q := question{g: g, a: at(t, g, 4+random.Intn(3), 7+random.Intn(4)), slot: slot}
		q.x, q.y = anyReading(random, g, 0, slot), anyReading(random, g, 1, slot)
		for _, x := range []api.Got{q.x, q.y} {
			if len(x.Bytes) > 11 && random.Intn(2) == 0 {
				q.expectation = expectation{int(x.Bytes[2]), int(x.Bytes[10]), int(x.Bytes[11]) * random.Intn(2), random.Intn(5)}
			}
		}
		for _, n := range []*int{&q.seq, &q.at, &q.of} {
			*n += random.Intn(9)/8 - random.Intn(9)/8
		}
		q.isRight(t)
		ways[q.want().how]++
	}
	if ways[1] < 1000 || ways[2] < 1000 || ways[3] < 1000 {
		t.Errorf("how is 1, 2 and 3 in %v cases", ways[1:])
	}
}

// P17.2: what was written to both copies is found as long as one of them is intact.

// work ends the test unless e is OK.
func work(t *testing.T, d api.Disk, e api.Errno) api.Disk {
	t.Helper()
	if e != api.OK {
		t.Fatalf("the disk answers %v", e)
	}
	return d
}

// blankDisk is a disk of g with blank records in each slot of both copies, flushed.
func blankDisk(t *testing.T, g api.Geometry) api.Disk {
	t.Helper()
	n, e := geom.Cells(g)
	if e != api.OK {
		t.Fatal(e)
	}
	d, e := disk.New(n)
	work(t, d, e)
	for slot := range g.Slots {
		d = logged(t, d, g, api.Rec{}, slot)
	}
	return flushed(t, d)
}

// logged is d with r written to this slot of both copies, not flushed.
func logged(t *testing.T, d api.Disk, g api.Geometry, r api.Rec, slot int) api.Disk {
	t.Helper()
	for copy := range 2 {
		a, e := geom.Log(g, copy, slot)
		b, f := rec.Cell(g, r, copy, slot)
		if e != api.OK || f != api.OK {
			t.Fatal(e, f)
		}
		d, e = disk.Write(d, a, b)
		work(t, d, e)
	}
	return d
}

func flushed(t *testing.T, d api.Disk) api.Disk {
	t.Helper()
	d, e := disk.Flush(d)
	return work(t, d, e)
}

// reading is that of the cell in this slot of this copy.
func reading(t *testing.T, d api.Disk, g api.Geometry, copy, slot int) (x api.Got) {
	t.Helper()
	a, e := geom.Log(g, copy, slot)
	if e != api.OK {
		t.Fatal(e)
	}
	_, x.Bytes, x.Err = disk.Read(d, a)
	return x
}

// onDisk is the question of r in this slot, with the readings of d.
func onDisk(t *testing.T, d api.Disk, g api.Geometry, a api.Anchor, r api.Rec, slot int) question {
	t.Helper()
	return question{g, a, reading(t, d, g, 0, slot), reading(t, d, g, 1, slot), slot, expectation{r.Seq, r.At, r.Of, 0}}
}

// P17.2: with any spoilt copy beside it, an intact copy of each record but the blank one is found, in each slot and in each geometry, and the
// other copy is wanted.
func TestFoundBesideSpoilt(t *testing.T) {
	random := rand.New(rand.NewSource(24))
	for n, g := range geometries() {
		l := records(random, g)[1:]
		r := l[n%len(l)]
		for slot := range g.Slots {
			copy := random.Intn(2)
			q := question{g: g, a: at(t, g, r.Epoch, anyNum(random)), slot: slot, expectation: expectation{r.Seq, r.At, r.Of, 0}}
			q.x, q.y = got(g, r, 0, slot), got(g, r, 1, slot)
			q.looks(t, answer{r: r, how: 1})
			*[]*api.Got{&q.x, &q.y}[copy] = []api.Got{
				{Err: api.ErrRead}, {}, {Bytes: anyBytes(random, random.Intn(130))}, {Bytes: seal.Flip(cell(g, r, copy, slot), random.Intn(1000), int(random.Uint32()))}, got(g, r, 1-copy, slot),
			}[random.Intn(5)]
			q.looks(t, answer{r: r, wants: []int{copy}, how: 1})
		}
	}
}

// P17.2: on a disk with a fault of each kind in one copy of a slot, the record is found by the other copy: over a blank record, and over an
// older one.
func TestFoundOnDamagedDisk(t *testing.T) {
	random := rand.New(rand.NewSource(25))
	kinds := []int{api.StepLatent, api.StepSticky, api.StepFlip, api.StepStale, api.StepMove}
	for _, g := range someGeometries() {
		sound := blankDisk(t, g)
		for slot := range g.Slots {
			sound = flushed(t, logged(t, sound, g, member(random, g, 3+slot%2, 4, slot%4, 4), slot))
			r := member(random, g, 9, 5, slot%4, 4)
			sound = flushed(t, logged(t, sound, g, r, slot))
			a := at(t, g, 5, 8)
			onDisk(t, sound, g, a, r, slot).looks(t, answer{r: r, how: 1})
			for copy := range 2 {
				for _, kind := range kinds {
					addr := address(g, copy, slot)
					froms := []int{address(g, 1-copy, slot), address(g, copy, (slot+1)%g.Slots), (addr + 1 + random.Intn(len(sound.Cells)-1)) % len(sound.Cells)}
					for _, from := range froms {
						d, e := disk.Fault(sound, kind, addr, from, random.Intn(2000), int(random.Uint32()))
						work(t, d, e)
						onDisk(t, d, g, a, r, slot).looks(t, answer{r: r, wants: []int{copy}, how: 1})
					}
				}
			}
		}
	}
}

// P17.2: with a fault in both copies nothing is found, and no record that was not written: how is 2 if a copy is stale, and else 3.
func TestBothDamaged(t *testing.T) {
	random := rand.New(rand.NewSource(26))
	kinds := []int{api.StepLatent, api.StepSticky, api.StepFlip, api.StepStale, api.StepMove}
	for _, g := range someGeometries() {
		r := member(random, g, 9, 5, 0, 4)
		sound := flushed(t, logged(t, blankDisk(t, g), g, r, 5))
		for _, first := range kinds {
			for _, second := range kinds {
				from := address(g, random.Intn(2), 6+random.Intn(3))
				d, e := disk.Fault(sound, first, address(g, 0, 5), from, random.Intn(2000), int(random.Uint32()))
				work(t, d, e)
				d, e = disk.Fault(d, second, address(g, 1, 5), from, random.Intn(2000), int(random.Uint32()))
				work(t, d, e)
				want := answer{how: 3}
				if first == api.StepStale || second == api.StepStale {
					want.how = 2
				}
				onDisk(t, d, g, at(t, g, 5, 8), r, 5).looks(t, want)
			}
		}
	}
}

// P17.2: if the disk is cut off while a record is written to both copies, it is found if one of them was kept, and the other one is wanted;
// else there is the older record, which is not the expected one.
func TestDiskThatWasCutOff(t *testing.T) {
	random := rand.New(rand.NewSource(27))
	for _, g := range someGeometries() {
		for slot := range g.Slots {
			older, r := member(random, g, 8, 5, 1, 4), member(random, g, 9, 5, 1, 4)
			d := flushed(t, logged(t, blankDisk(t, g), g, older, slot))
			d = logged(t, d, g, r, slot)
			for keep, want := range []answer{{how: 2}, {r: r, wants: []int{1}, how: 1}, {r: r, wants: []int{0}, how: 1}, {r: r, how: 1}} {
				kept, e := disk.Crash(d, keep)
				onDisk(t, work(t, kept, e), g, at(t, g, 5, 7), r, slot).looks(t, want)
			}
		}
	}
}

// P17.1, P17.2: what is wanted is written, and then both copies contain the record.
func TestWantedIsWritten(t *testing.T) {
	random := rand.New(rand.NewSource(28))
	for _, g := range someGeometries() {
		r := member(random, g, 9, 5, 0, 4)
		for copy := range 2 {
			addr := address(g, copy, 7)
			d, e := disk.Fault(flushed(t, logged(t, blankDisk(t, g), g, r, 7)), api.StepLatent, addr, 0, 0, 0)
			q := onDisk(t, work(t, d, e), g, at(t, g, 5, 8), r, 7)
			found := q.ask()
			if !slices.Equal(found.wants, []int{copy}) {
				t.Fatalf("Look(%+v) = %+v", q, found)
			}
			b, e := rec.Cell(g, found.r, found.wants[0], 7)
			if e != api.OK {
				t.Fatal(e)
			}
			d, e = disk.Write(d, addr, b)
			onDisk(t, flushed(t, work(t, d, e)), g, at(t, g, 5, 8), r, 7).looks(t, answer{r: r, how: 1})
		}
	}
}

// P17.2: each record of a transaction that packages stripe and rec made is found in its slot, round the end of the log, with one copy of each
// slot damaged; behind it is what was there.
func TestTransactionOnDisk(t *testing.T) {
	random := rand.New(rand.NewSource(29))
	for _, g := range someGeometries() {
		entries, e := table.First(g)
		if e != api.OK {
			t.Fatal(e)
		}
		l, e := stripe.Images(g, g.Zones-1, entries, anyBytes(random, 8), []int{g.Data - 1}, [][]byte{anyBytes(random, 8)})
		if e != api.OK {
			t.Fatal(e)
		}
		txn, e := rec.Txn(g, 9, 5, l)
		if e != api.OK {
			t.Fatal(e)
		}
		for pos := range g.Slots {
			d := blankDisk(t, g)
			for i, r := range txn {
				d = logged(t, d, g, r, (pos+i)%g.Slots)
			}
			d = flushed(t, d)
			of := 0
			for i, r := range txn {
				slot, copy := (pos+i)%g.Slots, random.Intn(2)
				d, e = disk.Fault(d, []int{api.StepLatent, api.StepSticky, api.StepStale}[random.Intn(3)], address(g, copy, slot), 0, 0, 0)
				q := onDisk(t, work(t, d, e), g, at(t, g, 5, 8), r, slot)
				q.of, q.left = of, g.Slots
				q.looks(t, answer{r: r, wants: []int{copy}, how: 1})
				of = r.Of
			}
			behind := api.Rec{Kind: 1, Seq: 10, Of: 4}
			onDisk(t, d, g, at(t, g, 5, 8), behind, (pos+len(txn))%g.Slots).looks(t, answer{how: 2})
		}
	}
}

// Memory.

// spare returns a copy of l with x behind its length, three times.
func spare[T any](l []T, x T) []T {
	return append(slices.Clone(l), x, x, x)[:len(l)]
}

// whole is a copy of l with all memory behind its length too.
func whole[T any](l []T) []T {
	return slices.Clone(l[:cap(l)])
}

// fill writes x over all memory of l.
func fill[T any](l []T, x T) {
	for i := range l[:cap(l)] {
		l[:cap(l)][i] = x
	}
}

// isFilled tells whether fill has been there last.
func isFilled[T comparable](l []T, x T) bool {
	return !slices.ContainsFunc(l[:cap(l)], func(y T) bool { return y != x })
}

// copied is all that is handed in, what is behind each length too, in other memory.
func (q question) copied() question {
	q.x.Bytes, q.y.Bytes, q.a.Homes = whole(q.x.Bytes), whole(q.y.Bytes), whole(q.a.Homes)
	for i := range q.a.Homes {
		q.a.Homes[i].Places = whole(q.a.Homes[i].Places)
	}
	return q
}

// isAs tells whether all that is handed in is what was copied.
func (q question) isAs(was question) bool {
	now := q.copied()
	isSameHome := func(x, y api.Home) bool {
		return slices.Equal(x.Places, y.Places) && x.Next == y.Next && x.Root == y.Root
	}
	return bytes.Equal(now.x.Bytes, was.x.Bytes) && bytes.Equal(now.y.Bytes, was.y.Bytes) && slices.EqualFunc(now.a.Homes, was.a.Homes, isSameHome)
}

// answers are what all calls come to.
type answers struct {
	answer
	records [2]api.Rec
	oks     [3]bool
}

// askAll makes all calls. Is is asked of a record that shares its memory with the readings.
func (q question) askAll() (a answers) {
	a.answer = q.ask()
	a.records[0], a.oks[0] = pair.Says(q.g, q.x, 0, q.slot)
	a.records[1], a.oks[1] = pair.Says(q.g, q.y, 1, q.slot)
	a.oks[2] = pair.Is(api.Rec{Kind: 1, Seq: q.seq, At: q.at, Of: q.of, Image: api.Image{Bytes: q.x.Bytes}}, q.a, q.seq, q.at, q.of, q.left)
	return a
}

// lists are all lists of bytes in a.
func (a answers) lists() [][]byte {
	return [][]byte{a.r.Image.Bytes, a.records[0].Image.Bytes, a.records[1].Image.Bytes}
}

// whole is a copy of a with all memory of its lists, that behind their lengths too.
func (a answers) whole() answers {
	a.wants, a.r.Image.Bytes = whole(a.wants), whole(a.r.Image.Bytes)
	for i := range a.records {
		a.records[i].Image.Bytes = whole(a.records[i].Image.Bytes)
	}
	return a
}

func (a answers) isSame(b answers) bool {
	return a.answer.isSame(b.answer) && isSame(a.records[0], b.records[0]) && isSame(a.records[1], b.records[1]) && a.oks == b.oks
}

// roomy is the question with n behind each length.
func (q question) roomy(n byte) question {
	q.x.Bytes, q.y.Bytes = spare(q.x.Bytes, n), spare(q.y.Bytes, n)
	q.a.Homes = spare(q.a.Homes, api.Home{Places: []int{int(n)}, Next: int(n), Root: int(n)})
	for i := range q.a.Homes {
		q.a.Homes[i].Places = spare(q.a.Homes[i].Places, int(n))
	}
	return q
}

// questions are such as succeed and such as fail. Behind each length is n; what has been cut off is behind the length, too.
func questions(t *testing.T, n byte) (l []question) {
	random := rand.New(rand.NewSource(30))
	for _, g := range someGeometries() {
		for _, r := range records(random, g) {
			_, slot := aCell(random, g)
			q := question{g, at(t, g, r.Epoch, 8), got(g, r, 0, slot), got(g, r, 1, slot), slot, expectation{r.Seq, r.At, r.Of, 0}}
			first, second, other, wrong, short, none := q.roomy(n), q.roomy(n), q.roomy(n), q.roomy(n), q.roomy(n), q.roomy(n)
			first.y.Err, second.x.Err = api.ErrRead, api.ErrRead
			other.seq++
			wrong.a.Pos = 30
			short.x.Bytes, short.y.Bytes = short.x.Bytes[:len(short.x.Bytes)-1], short.y.Bytes[:0]
			none.slot = -1
			l = append(l, q.roomy(n), first, second, other, wrong, short, none)
		}
	}
	return l
}

// P17.1 under R2: what is handed in stays as it was, its spare capacity too, also when all memory of the answers is written to, which they do
// not share with each other either, nor do the lists of one answer.
func TestMemory(t *testing.T) {
	for _, q := range questions(t, 3) {
		was := q.copied()
		twice := []answers{q.askAll(), q.askAll()}
		var lists [][]byte
		for i, a := range twice {
			lists = append(lists, a.lists()...)
			fill(a.wants, 1000+i)
		}
		for i, b := range lists {
			fill(b, byte(100+i))
		}
		for i, b := range lists {
			if !isFilled(b, byte(100+i)) {
				t.Fatalf("%+v: two lists of bytes that were returned share memory", q)
			}
		}
		for i, a := range twice {
			if !isFilled(a.wants, 1000+i) {
				t.Fatalf("%+v: two answers share their wants", q)
			}
		}
		if !q.isAs(was) {
			t.Fatalf("%+v has become %+v", was, q.copied())
		}
	}
}

// P17.1 under R2: the answers stay as they were when all memory of what was handed in is written to.
func TestMemoryHandedIn(t *testing.T) {
	for _, q := range questions(t, 3) {
		a := q.askAll()
		was := a.whole()
		fill(q.x.Bytes, 77)
		fill(q.y.Bytes, 78)
		for _, home := range q.a.Homes {
			fill(home.Places, 79)
		}
		fill(q.a.Homes, api.Home{Next: 79})
		if !a.whole().isSame(was) {
			t.Fatalf("%+v has become %+v", was, a)
		}
	}
}

// P17.1: readings that are the same memory are read as others are: at most one of the two copies has the address.
func TestReadingsThatShareMemory(t *testing.T) {
	random := rand.New(rand.NewSource(31))
	for _, g := range someGeometries() {
		for copy := range 2 {
			q, r := base(t, random, g, 4)
			q.x = got(g, r, copy, 4)
			q.y = q.x
			q.looks(t, answer{r: r, wants: []int{1 - copy}, how: 1})
			q.isRight(t)
		}
	}
}

// P17.1 under R3 and R6: what is behind a length does not matter and is not returned, not even behind the length of an answer, and a call that
// is made again answers the same.
func TestAgain(t *testing.T) {
	var times [][]answers
	for _, n := range []byte{3, 3, 0, 255} {
		var l []answers
		for _, q := range questions(t, n) {
			l = append(l, q.askAll().whole())
		}
		times = append(times, l)
	}
	for i, l := range times {
		if !slices.EqualFunc(l, times[0], answers.isSame) {
			t.Errorf("the answers of the time %d are other ones", i)
		}
	}
}

// P17.1, P17.2: any readings, any expectations.
func FuzzPair(f *testing.F) {
	f.Add(2, 3, 1, 14, 2, 1, 9, 5, 0, 4, []byte("8 bytes."), 3, 5, 8, 9, 0, 0, 4, 0, 0, 0, []byte{})
	f.Add(1, 1, 0, 14, 1, 2, 9, 5, 3, 4, []byte{}, 13, 5, 9, 9, 3, 4, 0, 1, 1, 0, []byte{0})
	f.Add(4, 4, 2, 30, 3, 0, 0, 0, 0, 0, []byte{}, 29, 0, 0, 0, 0, 0, 30, 0, 0, 1, make([]byte, 11))
	f.Add(0, 5, 3, 13, 4, 3, math.MinInt, -1, math.MaxInt, 31, []byte{1}, -1, math.MaxInt, math.MinInt, -1, 1, 2, math.MinInt, -1, 7, 1, make([]byte, 200))
	f.Fuzz(func(t *testing.T, zones, data, spares, slots, anchors, kind, seq, epoch, index, of int, block []byte, slot, nowEpoch, last, wantSeq, wantAt, wantOf, left, addr, stamp, bit int, b []byte) {
		g := geo(1+zones&3, 1+data&3, spares&1+spares>>1&1, 14+slots&15, 1+anchors&1)
		r := api.Rec{Kind: kind & 3, Seq: seq & api.MaxNum, Epoch: epoch & api.MaxNum, At: index & 31, Of: of & 31}
		if r.Kind == 1 {
			r.Image = api.Image{Zone: zones >> 2 & 3, What: data>>2&7 - 1, Bytes: block[:min(len(block), 70)]}
		}
		q := question{g: g, a: at(t, g, nowEpoch&api.MaxNum, last&api.MaxNum), slot: int(uint(slot) % uint(g.Slots)), expectation: expectation{wantSeq, wantAt, wantOf, left}}
		q.x, q.y = got(g, r, 0, q.slot), got(g, r, 1, q.slot)
		q.isRight(t)
		q.y.Bytes = sealed(address(g, 1, q.slot)+addr&1, r.Seq+stamp&1, body(r))
		q.isRight(t)
		q.x.Bytes = seal.Flip(q.x.Bytes, bit, stamp)
		q.isRight(t)
		q.x.Bytes = b
		q.isRight(t)
		q.x.Bytes = sealed(address(g, 0, q.slot), wantSeq&api.MaxNum, b[:min(len(b), 96)])
		q.isRight(t)
		is(t, r, q.a, q.expectation, wantIs(r, q.a, q.expectation))
		raw, rawAnchor := api.Rec{Kind: kind, Seq: seq, Epoch: epoch, At: index, Of: of}, api.Anchor{Epoch: nowEpoch, Last: last}
		is(t, raw, rawAnchor, q.expectation, wantIs(raw, rawAnchor, q.expectation))
		is(t, raw, rawAnchor, expectation{seq, index, wantOf, left}, wantIs(raw, rawAnchor, expectation{seq, index, wantOf, left}))
		if slot < 0 || slot >= g.Slots {
			q.slot = slot
			q.fails(t)
		}
		if wrong := geo(zones, data, spares, slots, anchors); !slices.Contains(geometries(), wrong) {
			q.g = wrong
			q.fails(t)
			saysNot(t, wrong, q.x, 0, slot)
		}
	})
}
