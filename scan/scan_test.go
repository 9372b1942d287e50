package scan_test

import (
	"bytes"
	"encoding/binary"
	"hash/crc32"
	"math"
	"math/rand"
	"slices"
	"testing"

	"casemate/anchor"
	"casemate/api"
	"casemate/disk"
	"casemate/geom"
	"casemate/rec"
	"casemate/ring"
	"casemate/scan"
	"casemate/seal"
	"casemate/stripe"
	"casemate/table"
	"casemate/zone"
)

// geo is a geometry.
func geo(zones, data, spares, slots, anchors int) api.Geometry {
	return api.Geometry{Zones: zones, Data: data, Spares: spares, Slots: slots, Anchors: anchors}
}

// someGeometries are one for each number of blocks, the smallest and the greatest valid one among them.
func someGeometries() []api.Geometry {
	return []api.Geometry{geo(1, 1, 0, 14, 1), geo(3, 2, 2, 20, 3), geo(2, 3, 1, 15, 2), geo(4, 4, 2, 30, 3)}
}

// geometries are all valid ones.
func geometries() (l []api.Geometry) {
	for n := range 4 * 4 * 3 * 17 * 3 {
		l = append(l, geo(1+n%4, 1+n/4%4, n/16%3, 14+n/48%17, 1+n/816))
	}
	return l
}

// wrongGeometries are such as are not valid: base with each of its numbers one beyond each bound and far out, and with all of them at once.
func wrongGeometries(base api.Geometry) (l []api.Geometry) {
	change := func(number func(g *api.Geometry) *int, wrong ...int) {
		for _, n := range append(wrong, -1, math.MinInt, math.MaxInt) {
			g := base
			*number(&g) = n
			l = append(l, g)
		}
	}
	change(func(g *api.Geometry) *int { return &g.Zones }, 0, 5)
	change(func(g *api.Geometry) *int { return &g.Data }, 0, 5)
	change(func(g *api.Geometry) *int { return &g.Spares }, 3)
	change(func(g *api.Geometry) *int { return &g.Slots }, 0, 13, 31)
	change(func(g *api.Geometry) *int { return &g.Anchors }, 0, 4)
	return append(l, api.Geometry{}, geo(-1, -1, -1, -1, -1), geo(5, 5, 3, 31, 4))
}

// The document's words, as a second program that is to answer the same.

// isImage tells whether x is a valid image of the valid geometry g.
func isImage(g api.Geometry, x api.Image) bool {
	if x.Zone < 0 || x.Zone >= g.Zones {
		return false
	}
	if x.What != 255 {
		return x.What >= -1 && x.What < g.Data && len(x.Bytes) == 8
	}
	for i := range x.Bytes {
		if i%9 == 8 && x.Bytes[i] > 1 {
			return false
		}
	}
	return len(x.Bytes) == 9*g.Data+9 && x.Bytes[len(x.Bytes)-1] == 0
}

// isRecord tells whether r is a valid record of the valid geometry g.
func isRecord(g api.Geometry, r api.Rec) bool {
	hasImage := r.Image.Zone != 0 || r.Image.What != 0 || len(r.Image.Bytes) > 0
	inTxn := r.Seq >= 0 && r.Seq < 1<<32 && r.Epoch >= 0 && r.Epoch < 1<<32 && r.Of >= 2 && r.Of <= 30
	switch r.Kind {
	case 0:
		return r.Seq == 0 && r.Epoch == 0 && r.At == 0 && r.Of == 0 && !hasImage
	case 1:
		return inTxn && r.At >= 0 && r.At < r.Of-1 && isImage(g, r.Image)
	case 2:
		return inTxn && r.At == r.Of-1 && !hasImage
	}
	return false
}

// body is the encoding of r, valid or not, in which of each number there is what its bytes hold.
func body(r api.Rec) []byte {
	b := binary.LittleEndian.AppendUint32([]byte{byte(r.Kind)}, uint32(r.Seq))
	b = append(binary.LittleEndian.AppendUint32(b, uint32(r.Epoch)), byte(r.At), byte(r.Of))
	if r.Kind != 1 {
		return b
	}
	what := r.Image.What
	if what == -1 {
		what = 254
	}
	return append(append(b, byte(r.Image.Zone), byte(what), byte(len(r.Image.Bytes))), r.Image.Bytes...)
}

// sealed is the encoding of a sector. Its checksum is computed by the library of Go in a way of its own.
func sealed(addr, stamp int, payload []byte) []byte {
	b := append([]byte{byte(len(payload))}, payload...)
	b = binary.LittleEndian.AppendUint16(b, uint16(addr))
	b = binary.LittleEndian.AppendUint32(b, uint32(stamp))
	return binary.LittleEndian.AppendUint32(b, crc32.Checksum(b, crc32.MakeTable(crc32.Castagnoli)))
}

// address is that of the cell in this slot of this copy. Ahead of the log are the anchors.
func address(g api.Geometry, copy, slot int) int {
	return g.Anchors + copy*g.Slots + slot
}

// cell is what the cell in this slot of this copy has for the record r.
func cell(g api.Geometry, r api.Rec, copy, slot int) []byte {
	return sealed(address(g, copy, slot), r.Seq, body(r))
}

// got is the reading of that cell.
func got(g api.Geometry, r api.Rec, copy, slot int) api.Got {
	return api.Got{Bytes: cell(g, r, copy, slot)}
}

// wantSays is the record that the reading x contains, if it contains one: its fields are taken from where they stand, and the cell of what there
// is then has to be all that was read. The geometry is valid.
func wantSays(g api.Geometry, x api.Got, copy, slot int) (r api.Rec, ok bool) {
	isCell := copy >= 0 && copy <= 1 && slot >= 0 && slot < g.Slots
	if !isCell || x.Err != 0 || len(x.Bytes) < 12 {
		return api.Rec{}, false
	}
	b := x.Bytes[1:]
	r = api.Rec{Kind: int(b[0]), Seq: int(binary.LittleEndian.Uint32(b[1:])), Epoch: int(binary.LittleEndian.Uint32(b[5:])), At: int(b[9]), Of: int(b[10])}
	if r.Kind == 1 && len(b) > 13 && len(b) >= 14+int(b[13]) {
		r.Image = api.Image{Zone: int(b[11]), What: int(b[12]), Bytes: b[14 : 14+int(b[13])]}
		if b[12] == 254 {
			r.Image.What = -1
		}
	}
	if !isRecord(g, r) || !bytes.Equal(cell(g, r, copy, slot), x.Bytes) {
		return api.Rec{}, false
	}
	return r, true
}

// expectation is what a record is held against, the anchor apart.
type expectation struct {
	seq, at, of, left int
}

// wantIs tells whether r is the expected record: each condition by itself.
func wantIs(r api.Rec, a api.Anchor, x expectation) bool {
	var conditions []bool
	hold := func(ok bool) { conditions = append(conditions, ok) }
	hold(r.Kind != 0)
	hold(r.Seq == x.seq)
	hold(r.At == x.at)
	switch {
	case r.Of == x.of:
		hold(true)
	case x.of == 0:
		hold(r.Of <= x.left)
	default:
		hold(false)
	}
	switch {
	case r.Epoch == a.Epoch:
		hold(true)
	case x.seq <= a.Last:
		hold(r.Epoch <= a.Epoch)
	default:
		hold(false)
	}
	return !slices.Contains(conditions, false)
}

// log is what Scan is asked with.
type log struct {
	g      api.Geometry
	a      api.Anchor
	copies [2][]api.Got
}

// answer is what Scan comes to.
type answer struct {
	txns   []api.Txn
	writes []api.Write
	e      api.Errno
}

// ask asks it.
func (l log) ask() (a answer) {
	a.txns, a.writes, a.e = scan.Scan(l.g, l.a, l.copies[0], l.copies[1])
	return a
}

// look is what both copies of a slot come to: the expected record if there is one, the copies that do not contain it, and whether one of them
// contains any record.
func (l log) look(slot int, x expectation) (found []api.Rec, wants []int, isRead bool) {
	for copy := range 2 {
		r, ok := wantSays(l.g, l.copies[copy][slot], copy, slot)
		isRead = isRead || ok
		if ok && wantIs(r, l.a, x) {
			found = append(found, r)
		} else {
			wants = append(wants, copy)
		}
	}
	return found, wants, isRead
}

// want is what Scan is to answer for a geometry and an anchor that are valid and readings of all slots: it goes from slot to slot, and knows at
// each one what is looked for there.
func (l log) want() (a answer) {
	var open api.Txn
	var opened []api.Write
	seq, used, at := l.a.Seq, 0, 0
	for at > 0 || used < l.g.Slots && seq < 1<<32 {
		slot := (l.a.Pos + used + at) % l.g.Slots
		if at == 0 {
			open, opened = api.Txn{Seq: seq, Pos: slot}, nil
		}
		found, wants, isRead := l.look(slot, expectation{seq, at, open.N, l.g.Slots - used})
		if !isRead {
			return answer{e: api.ErrLogDamaged}
		}
		if len(found) == 0 {
			break
		}
		for _, copy := range wants {
			opened = append(opened, writing(l.g, found[0], copy, slot))
		}
		open.N = found[0].Of
		at++
		if at < open.N {
			open.Images = append(open.Images, found[0].Image)
			continue
		}
		a.txns, a.writes = append(a.txns, open), append(a.writes, opened...)
		used, seq, at = used+at, seq+1, 0
	}
	if l.a.Seq+len(a.txns) <= l.a.Last {
		return answer{e: api.ErrLogDamaged}
	}
	return a
}

// writing is the write of r to this slot of this copy.
func writing(g api.Geometry, r api.Rec, copy, slot int) api.Write {
	return api.Write{Addr: address(g, copy, slot), Bytes: cell(g, r, copy, slot)}
}

// Calls, held against what they are to answer.

func isSameImage(x, y api.Image) bool {
	return x.Zone == y.Zone && x.What == y.What && bytes.Equal(x.Bytes, y.Bytes)
}

func isSameTxn(x, y api.Txn) bool {
	return x.Seq == y.Seq && x.Pos == y.Pos && x.N == y.N && slices.EqualFunc(x.Images, y.Images, isSameImage)
}

func isSameWrite(x, y api.Write) bool {
	return x.Addr == y.Addr && bytes.Equal(x.Bytes, y.Bytes)
}

func (a answer) isSame(b answer) bool {
	return slices.EqualFunc(a.txns, b.txns, isSameTxn) && slices.EqualFunc(a.writes, b.writes, isSameWrite) && a.e == b.e
}

// tell is the question in short: each reading of which the cell is not that of a blank record.
func (l log) tell(t *testing.T) {
	t.Helper()
	t.Logf("%+v, %+v", l.g, l.a)
	for copy, readings := range l.copies {
		for slot, x := range readings {
			if r, ok := wantSays(l.g, x, copy, slot); !ok || r.Kind != 0 {
				t.Logf("copy %d, slot %d: %v, %+v, error %d, % x", copy, slot, ok, r, int(x.Err), x.Bytes)
			}
		}
	}
}

// answers tells an error unless Scan answers want.
func (l log) answers(t *testing.T, want answer) {
	t.Helper()
	if a := l.ask(); !a.isSame(want) {
		l.tell(t)
		t.Fatalf("Scan answers %+v, want %+v", a, want)
	}
}

// scans tells an error unless Scan finds these transactions, which are a valid log, and asks for these writes, and after them again finds
// these transactions, and asks for no write.
func (l log) scans(t *testing.T, txns []api.Txn, writes ...api.Write) {
	t.Helper()
	l.answers(t, answer{txns: txns, writes: writes})
	if e := ring.Check(l.g, l.a, txns); e != api.OK {
		l.tell(t)
		t.Fatalf("ring.Check(%+v) = %v", txns, e)
	}
	written := l.clone()
	for _, w := range writes {
		at := w.Addr - l.g.Anchors
		written.copies[at/l.g.Slots][at%l.g.Slots] = api.Got{Bytes: w.Bytes}
	}
	written.answers(t, answer{txns: txns})
}

// fails tells an error unless Scan answers this error, and nothing beside it.
func (l log) fails(t *testing.T, e api.Errno) {
	t.Helper()
	if a := l.ask(); a.e != e || a.txns != nil || a.writes != nil {
		l.tell(t)
		t.Fatalf("Scan answers %+v, not %v alone", a, e)
	}
}

// isRight tells an error unless Scan answers as the second program does.
func (l log) isRight(t *testing.T) answer {
	t.Helper()
	want := l.want()
	if want.e != api.OK {
		l.fails(t, want.e)
	} else {
		l.scans(t, want.txns, want.writes...)
	}
	return want
}

// nums are numbers and epochs, the edges of signed and of shorter numbers among them.
var nums = []int{0, 1, 2, 255, 256, 65535, 65536, 0x04030201, 1<<31 - 1, 1 << 31, api.MaxNum - 1, api.MaxNum}

// anyNum is any of all numbers, an edge in one case of two.
func anyNum(random *rand.Rand) int {
	if random.Intn(2) == 0 {
		return nums[random.Intn(len(nums))]
	}
	return int(random.Uint32())
}

// Logs to ask of.

// epoch is that of the anchors, unless a test has another one.
const epoch = 5

// from is a valid anchor from which the log begins in this slot with this number. Nothing was in it when the volume was mounted.
func from(t testing.TB, g api.Geometry, pos, seq int) api.Anchor {
	t.Helper()
	a, e := anchor.First(g, "né")
	if e != api.OK {
		t.Fatal(e)
	}
	a.Gen, a.Epoch, a.Pos, a.Seq, a.Last = 7, epoch, pos, seq, seq-1
	return a
}

// blank is a log of blank records.
func blank(g api.Geometry, a api.Anchor) log {
	l := log{g: g, a: a}
	for copy := range 2 {
		for slot := range g.Slots {
			l.copies[copy] = append(l.copies[copy], got(g, api.Rec{}, copy, slot))
		}
	}
	return l
}

// nowhere is a log of which nothing can be read.
func nowhere(g api.Geometry, a api.Anchor) log {
	l := log{g: g, a: a}
	for copy := range 2 {
		l.copies[copy] = slices.Repeat([]api.Got{{Err: api.ErrRead}}, g.Slots)
	}
	return l
}

// clone is l with readings of its own.
func (l log) clone() log {
	l.copies = [2][]api.Got{slices.Clone(l.copies[0]), slices.Clone(l.copies[1])}
	return l
}

// with is l with the reading x of this slot of this copy.
func (l log) with(copy, slot int, x api.Got) log {
	l = l.clone()
	l.copies[copy][slot] = x
	return l
}

// withRec is l with the record r in this slot of this copy.
func (l log) withRec(copy, slot int, r api.Rec) log {
	return l.with(copy, slot, got(l.g, r, copy, slot))
}

// withBoth is l with the record r in this slot of both copies.
func (l log) withBoth(slot int, r api.Rec) log {
	return l.withRec(0, slot, r).withRec(1, slot, r)
}

// slot is the one that is n slots behind pos.
func (l log) slot(pos, n int) int {
	return (pos + n) % l.g.Slots
}

// put writes the records, the first one into the slot pos, to both copies.
func (l log) put(pos int, records []api.Rec) {
	for i, r := range records {
		for copy := range 2 {
			slot := l.slot(pos, i)
			l.copies[copy][slot] = got(l.g, r, copy, slot)
		}
	}
}

// txnOf is a transaction of n records, its images any.
func txnOf(random *rand.Rand, g api.Geometry, seq, pos, n int) api.Txn {
	x := api.Txn{Seq: seq, Pos: pos, N: n}
	for range n - 1 {
		x.Images = append(x.Images, anyImage(random, g))
	}
	return x
}

// recordsOf are the records of x, of this epoch.
func recordsOf(x api.Txn, epoch int) (l []api.Rec) {
	for at, image := range x.Images {
		l = append(l, api.Rec{Kind: 1, Seq: x.Seq, Epoch: epoch, At: at, Of: x.N, Image: image})
	}
	return append(l, api.Rec{Kind: 2, Seq: x.Seq, Epoch: epoch, At: x.N - 1, Of: x.N})
}

// filled is the log in which there are transactions of these numbers of records, of the epoch of the anchor, and nothing but blank records
// behind them.
func filled(random *rand.Rand, g api.Geometry, a api.Anchor, ns ...int) (l log, txns []api.Txn) {
	l = blank(g, a)
	pos := a.Pos
	for i, n := range ns {
		x := txnOf(random, g, a.Seq+i, pos, n)
		l.put(pos, recordsOf(x, a.Epoch))
		txns = append(txns, x)
		pos = l.slot(pos, n)
	}
	return l, txns
}

// parts are any numbers from 2 to most whose sum is n, or n - 1 if there are no such ones.
func parts(random *rand.Rand, n, most int) (l []int) {
	for n >= 2 {
		part := 2 + random.Intn(min(n, most)-1)
		if n-part == 1 && part < most && n%2 == 0 {
			part++
		}
		l = append(l, part)
		n -= part
	}
	return l
}

// sum is that of all numbers of l.
func sum(l []int) (n int) {
	for _, x := range l {
		n += x
	}
	return n
}

// eachSlot calls f with each slot that a transaction of l occupies: which transaction, which of its records.
func eachSlot(l log, txns []api.Txn, f func(i, at, slot int)) {
	for i, x := range txns {
		for at := range x.N {
			f(i, at, l.slot(x.Pos, at))
		}
	}
}

// starts are slots from which a log begins: the first, the last, and such as let it go over the end at another place.
func starts(g api.Geometry) []int {
	return []int{0, 1, g.Slots / 2, g.Slots - 3, g.Slots - 2, g.Slots - 1}
}

// wrongAnchors are near to a, and not valid.
func wrongAnchors(g api.Geometry, a api.Anchor) (l []api.Anchor) {
	change := func(f func(a *api.Anchor)) {
		wrong := a
		wrong.Homes = slices.Clone(a.Homes)
		f(&wrong)
		l = append(l, wrong)
	}
	for _, n := range []int{-1, math.MinInt, api.MaxNum + 1, math.MaxInt} {
		change(func(a *api.Anchor) { a.Gen = n })
		change(func(a *api.Anchor) { a.Epoch = n })
		change(func(a *api.Anchor) { a.Last = n })
		change(func(a *api.Anchor) { a.Homes[g.Zones-1].Root = n })
	}
	change(func(a *api.Anchor) { a.Pos = g.Slots })
	change(func(a *api.Anchor) { a.Pos = -1 })
	change(func(a *api.Anchor) { a.Seq = 0 })
	change(func(a *api.Anchor) { a.Seq, a.Last = 9, 7 })
	change(func(a *api.Anchor) { a.Label = "seven r" })
	change(func(a *api.Anchor) { a.Homes = nil })
	change(func(a *api.Anchor) { a.Homes[0].Places = nil })
	change(func(a *api.Anchor) { a.Homes[0].Next = g.Data })
	return append(l, api.Anchor{})
}

// anyBytes are n bytes.
func anyBytes(random *rand.Rand, n int) []byte {
	b := make([]byte, n)
	random.Read(b)
	return b
}

// images are valid images of each zone of g and of all that it has, the bytes any.
func images(random *rand.Rand, g api.Geometry) (l []api.Image) {
	for zone := range g.Zones {
		for what := -1; what < g.Data; what++ {
			l = append(l, api.Image{Zone: zone, What: what, Bytes: anyBytes(random, 8)})
		}
		b := anyBytes(random, 9*g.Data+9)
		for i := 8; i < len(b); i += 9 {
			b[i] &= 1
		}
		b[len(b)-1] = 0
		l = append(l, api.Image{Zone: zone, What: 255, Bytes: b})
	}
	return l
}

// anyImage is any of them.
func anyImage(random *rand.Rand, g api.Geometry) api.Image {
	l := images(random, g)
	return l[random.Intn(len(l))]
}

// records are valid records of g: a blank one, one of each image, and commits.
func records(random *rand.Rand, g api.Geometry) []api.Rec {
	l := []api.Rec{{}}
	for _, x := range images(random, g) {
		of := 2 + random.Intn(29)
		l = append(l, api.Rec{Kind: 1, Seq: anyNum(random), Epoch: anyNum(random), At: random.Intn(of - 1), Of: of, Image: x})
	}
	for _, of := range []int{2, 3, 15, 29, 30} {
		l = append(l, api.Rec{Kind: 2, Seq: anyNum(random), Epoch: anyNum(random), At: of - 1, Of: of})
	}
	return l
}

// member is the record with the index at of a transaction: the last one is the commit, all others have an image.
func member(random *rand.Rand, g api.Geometry, seq, epoch, at, of int) api.Rec {
	if at == of-1 {
		return api.Rec{Kind: 2, Seq: seq, Epoch: epoch, At: at, Of: of}
	}
	return api.Rec{Kind: 1, Seq: seq, Epoch: epoch, At: at, Of: of, Image: anyImage(random, g)}
}

// withErrors are readings with each error, and with numbers that are none, with the bytes b beside it and without.
func withErrors(b []byte) (l []api.Got) {
	errors := []api.Errno{-1, -256, 24, 256, 1 << 32, math.MinInt, math.MaxInt}
	for e := api.ErrArg; e <= api.ErrCrash; e++ {
		errors = append(errors, e)
	}
	for _, e := range errors {
		l = append(l, api.Got{Err: e, Bytes: bytes.Clone(b)}, api.Got{Err: e}, api.Got{Err: e, Bytes: []byte{}})
	}
	return l
}

// cut are readings of b with bytes too few or too many, and of none.
func cut(b []byte) (l []api.Got) {
	l = append(l, api.Got{}, api.Got{Bytes: []byte{}}, api.Got{Bytes: make([]byte, len(b))}, api.Got{Bytes: make([]byte, 1<<16)})
	for n := range b {
		l = append(l, api.Got{Bytes: bytes.Clone(b[:n])}, api.Got{Bytes: b[:n]}, api.Got{Bytes: bytes.Clone(b[n+1:])})
	}
	for _, x := range []byte{0, 1, 255} {
		l = append(l, api.Got{Bytes: slices.Concat(b, []byte{x})}, api.Got{Bytes: slices.Concat([]byte{x}, b)})
	}
	return append(l, api.Got{Bytes: slices.Concat(b, b)}, api.Got{Bytes: slices.Concat(b, make([]byte, 200))})
}

// flipped are readings of b with each of its bits inverted, and with up to 32 from each bit on.
func flipped(random *rand.Rand, b []byte) (l []api.Got) {
	for bit := range 8 * len(b) {
		for _, bits := range []int{1, 1<<(1+random.Intn(32)) - 1, int(random.Uint32())} {
			l = append(l, api.Got{Bytes: seal.Flip(b, bit, bits)})
		}
	}
	return l
}

// others are numbers from 0 to most that are not n: those next to it, such as share bytes with it, and any.
func others(random *rand.Rand, n, most int) (l []int) {
	near := []int{n - 1, n + 1, n ^ 1, n ^ 0x80, n ^ 0x100, n ^ 0x8000, most - n, n&0xff<<8 | n>>8&0xff, n & 0xff, n >> 8, 0, 1, 2, most, most - 1, random.Intn(most + 1), n ^ 1<<31}
	for _, other := range near {
		if other != n && other >= 0 && other <= most {
			l = append(l, other)
		}
	}
	return l
}

// wrongBodies are encodings of nothing, though they are near to that of r.
func wrongBodies(g api.Geometry, r api.Rec) (l [][]byte) {
	good := body(r)
	for n := range good {
		l = append(l, good[:n])
	}
	l = append(l, slices.Concat(good, []byte{0}), slices.Concat(good, good)[:min(2*len(good), 96)])
	change := func(f func(r *api.Rec)) {
		wrong := r
		f(&wrong)
		if !isRecord(g, wrong) {
			l = append(l, body(wrong))
		}
	}
	for _, n := range []int{0, 1, 2, 3, 4, 30, 31, 254, 255} {
		change(func(r *api.Rec) { r.Kind = n })
		change(func(r *api.Rec) { r.At = n })
		change(func(r *api.Rec) { r.Of = n })
		change(func(r *api.Rec) { r.Image.Zone = n })
		change(func(r *api.Rec) { r.Image.What = n })
		change(func(r *api.Rec) { r.Image.Bytes = make([]byte, min(n, 80)) })
	}
	l = append(l, slices.Concat([]byte{3}, good[1:]), slices.Concat([]byte{255}, good[1:]))
	return slices.DeleteFunc(l, func(b []byte) bool {
		// What is changed in a record without an image is not encoded.
		_, ok := wantSays(g, api.Got{Bytes: sealed(g.Anchors, r.Seq, b)}, 0, 0)
		return ok
	})
}

// spoilt are readings of the cell in this slot of this copy that contain no record, though all but one thing of each is right for r.
func spoilt(random *rand.Rand, g api.Geometry, r api.Rec, copy, slot int) []api.Got {
	good := cell(g, r, copy, slot)
	l := slices.Concat(withErrors(good), cut(good), flipped(random, good))
	addr := address(g, copy, slot)
	l = append(l, got(g, r, 1-copy, slot), got(g, r, copy, (slot+1)%g.Slots), got(g, r, copy, (slot+g.Slots-1)%g.Slots))
	for _, other := range others(random, addr, 65535) {
		l = append(l, api.Got{Bytes: sealed(other, r.Seq, body(r))})
	}
	for _, other := range others(random, r.Seq, api.MaxNum) {
		l = append(l, api.Got{Bytes: sealed(addr, other, body(r))})
	}
	for _, wrong := range wrongBodies(g, r) {
		l = append(l, api.Got{Bytes: sealed(addr, r.Seq, wrong)})
	}
	return l
}

// aSpoilt is a reading of the cell in this slot of this copy that contains no record, though all but one thing of it is right for r.
func aSpoilt(random *rand.Rand, g api.Geometry, r api.Rec, copy, slot int) api.Got {
	good := cell(g, r, copy, slot)
	switch random.Intn(7) {
	case 0:
		return api.Got{Err: api.ErrRead, Bytes: good}
	case 1:
		return api.Got{Bytes: good[:random.Intn(len(good))]}
	case 2:
		return api.Got{Bytes: append(good, anyBytes(random, 1+random.Intn(9))...)}
	case 3:
		return api.Got{Bytes: seal.Flip(good, random.Intn(8*len(good)), int(random.Uint32()))}
	case 4:
		return got(g, r, 1-copy, slot)
	case 5:
		return api.Got{Bytes: sealed(address(g, copy, slot), r.Seq^1, body(r))}
	}
	return api.Got{Bytes: sealed(address(g, copy, slot), r.Seq, append(body(r), 0))}
}

// P18.1: the chapter's example: in a log of blank records there are no transactions.
func TestExample(t *testing.T) {
	random := rand.New(rand.NewSource(1))
	for _, g := range geometries() {
		blank(g, from(t, g, random.Intn(g.Slots), max(1, anyNum(random)))).scans(t, nil)
	}
	for _, g := range someGeometries() {
		for pos := range g.Slots {
			for _, seq := range nums[1:] {
				blank(g, from(t, g, pos, seq)).scans(t, nil)
			}
		}
	}
}

// P18.1: cells by hand, in the last slot of the log and in the two behind it. The checksums were computed bit by bit beside the project.
func TestByHand(t *testing.T) {
	g := geo(2, 3, 1, 14, 2)
	images := [2][]byte{
		{22, 1, 7, 1, 0, 0, 5, 0, 0, 0, 0, 2, 1, 254, 8, 11, 12, 13, 14, 15, 16, 17, 18, 15, 0, 7, 1, 0, 0, 248, 70, 14, 173},
		{22, 1, 7, 1, 0, 0, 5, 0, 0, 0, 0, 2, 1, 254, 8, 11, 12, 13, 14, 15, 16, 17, 18, 29, 0, 7, 1, 0, 0, 5, 214, 142, 182},
	}
	commits := [2][]byte{
		{11, 2, 7, 1, 0, 0, 5, 0, 0, 0, 1, 2, 2, 0, 7, 1, 0, 0, 150, 121, 44, 164},
		{11, 2, 7, 1, 0, 0, 5, 0, 0, 0, 1, 2, 16, 0, 7, 1, 0, 0, 107, 233, 172, 191},
	}
	blanks := [2][]byte{
		{11, 0, 0, 0, 0, 0, 0, 0, 0, 0, 0, 0, 3, 0, 0, 0, 0, 0, 219, 17, 106, 151},
		{11, 0, 0, 0, 0, 0, 0, 0, 0, 0, 0, 0, 17, 0, 0, 0, 0, 0, 38, 129, 234, 140},
	}
	txns := []api.Txn{{Seq: 263, Pos: 13, N: 2, Images: []api.Image{{Zone: 1, What: api.Parity, Bytes: []byte{11, 12, 13, 14, 15, 16, 17, 18}}}}}
	// Of no other slot can anything be read.
	l := nowhere(g, from(t, g, 13, 263))
	for copy := range 2 {
		l.copies[copy][13], l.copies[copy][0], l.copies[copy][1] = api.Got{Bytes: images[copy]}, api.Got{Bytes: commits[copy]}, api.Got{Bytes: blanks[copy]}
	}
	l.scans(t, txns)
	bad := api.Got{Err: api.ErrRead}
	firstImage, secondImage := api.Write{Addr: 15, Bytes: images[0]}, api.Write{Addr: 29, Bytes: images[1]}
	firstCommit, secondCommit := api.Write{Addr: 2, Bytes: commits[0]}, api.Write{Addr: 16, Bytes: commits[1]}
	l.with(0, 13, bad).scans(t, txns, firstImage)
	l.with(1, 13, bad).scans(t, txns, secondImage)
	l.with(0, 0, bad).scans(t, txns, firstCommit)
	l.with(1, 0, bad).scans(t, txns, secondCommit)
	l.with(0, 13, bad).with(0, 0, bad).scans(t, txns, firstImage, firstCommit)
	l.with(1, 13, bad).with(0, 0, bad).scans(t, txns, secondImage, firstCommit)
	l.with(0, 1, bad).scans(t, txns)
	l.with(1, 1, bad).scans(t, txns)
	l.with(0, 13, bad).with(1, 13, bad).fails(t, api.ErrLogDamaged)
	l.with(0, 0, bad).with(1, 0, bad).fails(t, api.ErrLogDamaged)
	l.with(0, 1, bad).with(1, 1, bad).fails(t, api.ErrLogDamaged)
	// The commit is blank, or the second image: the transaction does not count.
	l.withBoth(0, api.Rec{}).scans(t, nil)
	l.with(0, 0, bad).withRec(1, 0, api.Rec{}).scans(t, nil)
	l.withBoth(0, api.Rec{Kind: 1, Seq: 263, Epoch: 5, At: 1, Of: 3, Image: txns[0].Images[0]}).scans(t, nil)
	l.a.Last = 263
	l.scans(t, txns)
	l.withBoth(0, api.Rec{}).fails(t, api.ErrLogDamaged)
	l.a.Last = 264
	l.fails(t, api.ErrLogDamaged)
	l.a.Seq = 262
	l.fails(t, api.ErrLogDamaged)
	l.a.Seq, l.a.Last = 262, 261
	l.scans(t, nil)
	l.a.Seq, l.a.Last, l.a.Epoch = 263, 262, 6
	l.scans(t, nil)
	l.a.Last = 263
	l.scans(t, txns)
}

// P18.1: one transaction, of each number of records, from each slot on.
func TestOneTransaction(t *testing.T) {
	random := rand.New(rand.NewSource(2))
	for _, g := range someGeometries() {
		for pos := range g.Slots {
			for n := 2; n <= g.Slots; n++ {
				l, txns := filled(random, g, from(t, g, pos, 9), n)
				l.scans(t, txns)
				l.isRight(t)
			}
		}
	}
}

// P18.1: many transactions, from each slot on, that leave each number of slots, and none.
func TestManyTransactions(t *testing.T) {
	random := rand.New(rand.NewSource(3))
	for _, g := range someGeometries() {
		for pos := range g.Slots {
			for used := 4; used <= g.Slots; used++ {
				ns := parts(random, used, 2+random.Intn(6))
				l, txns := filled(random, g, from(t, g, pos, max(1, anyNum(random)-20)), ns...)
				l.scans(t, txns)
				l.isRight(t)
			}
			// As many as there can be.
			ns := slices.Repeat([]int{2}, g.Slots/2)
			l, txns := filled(random, g, from(t, g, pos, 9), ns...)
			l.scans(t, txns)
			l, txns = filled(random, g, from(t, g, pos, 9), ns[:len(ns)-1]...)
			l.scans(t, txns)
		}
	}
}

// P18.1: logs of each geometry, with records of one copy alone among them.
func TestEachGeometry(t *testing.T) {
	random := rand.New(rand.NewSource(4))
	for _, g := range geometries() {
		l, txns := filled(random, g, from(t, g, random.Intn(g.Slots), 9), parts(random, random.Intn(g.Slots+1), 8)...)
		l.scans(t, txns)
		l, writes := l.halved(random, txns)
		l.scans(t, txns, writes...)
	}
}

// halved is l with one copy spoilt of some records, and what is to be written then.
func (l log) halved(random *rand.Rand, txns []api.Txn) (halved log, writes []api.Write) {
	halved = l.clone()
	for _, x := range txns {
		for at, r := range recordsOf(x, l.a.Epoch) {
			if random.Intn(2) == 0 {
				continue
			}
			copy, slot := random.Intn(2), l.slot(x.Pos, at)
			halved.copies[copy][slot] = aSpoilt(random, l.g, r, copy, slot)
			writes = append(writes, writing(l.g, r, copy, slot))
		}
	}
	return halved, writes
}

// P18.1: the log is full: nothing is looked for behind the last slot, though its records are there once more.
func TestFullLog(t *testing.T) {
	random := rand.New(rand.NewSource(5))
	for _, g := range someGeometries() {
		for pos := range g.Slots {
			l, txns := filled(random, g, from(t, g, pos, 9), parts(random, g.Slots, 5)...)
			if sum(ns(txns)) < g.Slots {
				continue
			}
			l.scans(t, txns)
			l.a.Last = 9 + len(txns) - 1
			l.scans(t, txns)
			l.a.Last++
			l.fails(t, api.ErrLogDamaged)
		}
		// The last transaction has one more record than there is room for, which is where the first one's first record was.
		for pos := range g.Slots {
			l, txns := filled(random, g, from(t, g, pos, 9), g.Slots-3)
			last := l.slot(pos, g.Slots-3)
			records := recordsOf(txnOf(random, g, 10, last, 4), epoch)
			l.put(last, records[:3])
			l.scans(t, txns)
			l.withBoth(pos, records[3]).scans(t, nil)
		}
	}
}

// ns are the N of all transactions.
func ns(txns []api.Txn) (l []int) {
	for _, x := range txns {
		l = append(l, x.N)
	}
	return l
}

// P18.1: as long as a slot is left, the next transaction is looked for: with one slot left it cannot be there, but what is in the slot counts.
func TestOneSlotLeft(t *testing.T) {
	random := rand.New(rand.NewSource(6))
	for _, g := range someGeometries() {
		for pos := range g.Slots {
			ns := parts(random, g.Slots-1, 4)
			l, txns := filled(random, g, from(t, g, pos, 9), ns...)
			if sum(ns) < g.Slots-1 {
				continue
			}
			slot, seq := l.slot(pos, g.Slots-1), 9+len(txns)
			l.scans(t, txns)
			for _, of := range []int{2, 3, 30} {
				first := member(random, g, seq, epoch, 0, of)
				l.withBoth(slot, first).scans(t, txns)
				l.withRec(0, slot, first).scans(t, txns)
				l.withRec(1, slot, first).scans(t, txns)
				l.withRec(random.Intn(2), slot, first).with(random.Intn(2), slot, api.Got{Err: api.ErrRead}).isRight(t)
			}
			l.with(0, slot, api.Got{Err: api.ErrRead}).scans(t, txns)
			l.with(1, slot, api.Got{Err: api.ErrRead}).scans(t, txns)
			l.with(0, slot, api.Got{Err: api.ErrRead}).with(1, slot, api.Got{}).fails(t, api.ErrLogDamaged)
		}
	}
}

// P18.1: a transaction that has more records than slots are left is not one, even if there is one copy alone of its first record; one that has
// as many is.
func TestTooManyRecords(t *testing.T) {
	random := rand.New(rand.NewSource(7))
	for _, g := range someGeometries() {
		for _, used := range []int{0, 2, 5, g.Slots - 3, g.Slots - 2} {
			for _, pos := range starts(g) {
				l, txns := filled(random, g, from(t, g, pos, 9), parts(random, used, 4)...)
				used := sum(ns(txns))
				left, seq, next := g.Slots-used, 9+len(txns), l.slot(pos, used)
				for of := left + 1; of <= api.MaxSlots; of++ {
					records := recordsOf(txnOf(random, g, seq, next, of), epoch)
					whole := l.clone()
					whole.put(next, records[:left])
					whole.scans(t, txns)
					l.withBoth(next, records[0]).scans(t, txns)
					for copy := range 2 {
						l.withRec(copy, next, records[0]).scans(t, txns)
						whole.with(copy, next, api.Got{Err: api.ErrRead}).scans(t, txns)
					}
				}
				x := txnOf(random, g, seq, next, left)
				l.put(next, recordsOf(x, epoch))
				l.scans(t, append(txns, x))
			}
		}
	}
}

// P18.1, P18.2: a transaction of which each record is in the first copy, in the second one, in both, or in none, in all ways at once, over a log
// that was blank, over older transactions, and over itself of an older epoch: it is found if no record is in none, and what is not there is
// written.
func TestCut(t *testing.T) {
	random := rand.New(rand.NewSource(8))
	for _, g := range someGeometries() {
		for n := 2; n <= 4; n++ {
			for _, pos := range []int{3, g.Slots - 2 - n/2} {
				l, txns := filled(random, g, from(t, g, pos, 9), 2)
				next := l.slot(pos, 2)
				x := txnOf(random, g, 10, next, n)
				older := l.clone()
				older.put(next, recordsOf(txnOf(random, g, 4, next, 3), epoch))
				older.put(l.slot(next, 3), recordsOf(txnOf(random, g, 5, l.slot(next, 3), 4), epoch))
				same := l.clone()
				same.put(next, recordsOf(txnOf(random, g, 10, next, n), epoch-1))
				for way := range 1 << (2 * n) {
					for _, over := range []log{l, older, same} {
						cutOff(t, over, txns, x, way)
					}
				}
			}
		}
	}
}

// cutOff scans l, in which there are txns, with the records of x behind them in the copies that way says: two bits for each record.
func cutOff(t *testing.T, l log, txns []api.Txn, x api.Txn, way int) {
	t.Helper()
	l = l.clone()
	isWhole := true
	var writes []api.Write
	for at, r := range recordsOf(x, l.a.Epoch) {
		slot := l.slot(x.Pos, at)
		copies := way >> (2 * at) & 3
		isWhole = isWhole && copies > 0
		for copy := range 2 {
			if copies>>copy&1 == 1 {
				l.copies[copy][slot] = got(l.g, r, copy, slot)
			} else {
				writes = append(writes, writing(l.g, r, copy, slot))
			}
		}
	}
	if isWhole {
		l.scans(t, append(slices.Clone(txns), x), writes...)
		return
	}
	l.scans(t, txns)
	// It had been found when the volume was mounted: it is damaged now, unless what is there of an older epoch is of the same transaction.
	l.a.Last = x.Seq
	l.isRight(t)
}

// damaged calls f with logs of transactions of one record too few to many, each slot and what is expected there, the one behind the last too.
func damaged(t *testing.T, seed int64, f func(random *rand.Rand, l log, txns []api.Txn, r api.Rec, slot int)) {
	t.Helper()
	random := rand.New(rand.NewSource(seed))
	for _, g := range someGeometries() {
		for _, pos := range []int{0, g.Slots - 4} {
			l, txns := filled(random, g, from(t, g, pos, 9), 2, 3, 4)
			eachSlot(l, txns, func(i, at, slot int) {
				f(random, l, txns, recordsOf(txns[i], epoch)[at], slot)
			})
			f(random, l, txns, member(random, g, 12, epoch, 0, 4), l.slot(pos, 9))
		}
	}
}

// P18.1: if both copies of a slot contain no record, of the first record of a transaction, of a further one, or of the slot behind the last one,
// the log is damaged.
func TestBothSpoilt(t *testing.T) {
	damaged(t, 9, func(random *rand.Rand, l log, txns []api.Txn, r api.Rec, slot int) {
		first, second := spoilt(random, l.g, r, 0, slot), spoilt(random, l.g, r, 1, slot)
		for range 60 {
			x, y := first[random.Intn(len(first))], second[random.Intn(len(second))]
			l.with(0, slot, x).with(1, slot, y).fails(t, api.ErrLogDamaged)
		}
		l.with(0, slot, api.Got{Err: api.ErrRead}).with(1, slot, api.Got{Err: api.ErrRead}).fails(t, api.ErrLogDamaged)
		l.with(0, slot, api.Got{}).with(1, slot, api.Got{}).fails(t, api.ErrLogDamaged)
		// What is there is of other slots: of the same one of the other copy, of the one before, of the one behind.
		l.with(0, slot, got(l.g, r, 1, slot)).with(1, slot, got(l.g, r, 0, slot)).fails(t, api.ErrLogDamaged)
		for _, by := range []int{1, l.g.Slots - 1} {
			other := l.slot(slot, by)
			l.with(0, slot, l.copies[0][other]).with(1, slot, l.copies[1][other]).fails(t, api.ErrLogDamaged)
			l.with(0, slot, got(l.g, r, 0, other)).with(1, slot, got(l.g, r, 1, other)).fails(t, api.ErrLogDamaged)
		}
		l.a.Last = 12
		l.with(0, slot, api.Got{Err: api.ErrRead}).with(1, slot, api.Got{Err: api.ErrRead}).fails(t, api.ErrLogDamaged)
	})
}

// P18.1, P18.2: if one copy of a slot contains no record, the transaction is found by the other one, and the record is written to that copy; to
// the slot behind the last one nothing is written.
func TestOneSpoilt(t *testing.T) {
	damaged(t, 10, func(random *rand.Rand, l log, txns []api.Txn, r api.Rec, slot int) {
		for copy := range 2 {
			all := spoilt(random, l.g, r, copy, slot)
			for range 60 {
				bad := l.with(copy, slot, all[random.Intn(len(all))])
				if r.Seq < 12 {
					bad.scans(t, txns, writing(l.g, r, copy, slot))
				} else {
					bad.scans(t, txns)
				}
			}
		}
	})
	// Each of them, for the first record of a transaction and for the last one.
	random := rand.New(rand.NewSource(11))
	g := someGeometries()[0]
	l, txns := filled(random, g, from(t, g, 12, 9), 2, 3)
	for at, r := range recordsOf(txns[1], epoch) {
		slot := l.slot(txns[1].Pos, at)
		for copy := range 2 {
			for _, x := range spoilt(random, g, r, copy, slot) {
				l.with(copy, slot, x).answers(t, answer{txns: txns, writes: []api.Write{writing(g, r, copy, slot)}})
				l.with(copy, slot, x).with(1-copy, slot, api.Got{Err: api.ErrRead}).fails(t, api.ErrLogDamaged)
			}
		}
	}
}

// P18.1: slots that are nobody's do not matter, but for the one behind the last transaction, and nothing is written to them.
func TestSlotsOfNobody(t *testing.T) {
	random := rand.New(rand.NewSource(12))
	for _, g := range someGeometries() {
		for pos := range g.Slots {
			l, txns := filled(random, g, from(t, g, pos, 9), 2, 3)
			end := l.slot(pos, 5)
			for n := 6; n < g.Slots; n++ {
				slot := l.slot(pos, n)
				l.copies[0][slot], l.copies[1][slot] = anyReading(random, l, 0, slot), anyReading(random, l, 1, slot)
			}
			l.scans(t, txns)
			l.with(0, end, api.Got{Err: api.ErrRead}).scans(t, txns)
			l.with(1, end, api.Got{Bytes: []byte{1}}).scans(t, txns)
		}
	}
}

// anyReading is one of the cell in this slot of this copy: of a record that may be expected there or near, or spoilt.
func anyReading(random *rand.Rand, l log, copy, slot int) api.Got {
	of := 2 + random.Intn(4)
	r := member(random, l.g, min(l.a.Seq+random.Intn(4), api.MaxNum), max(0, l.a.Epoch-random.Intn(2)), random.Intn(of), of)
	switch random.Intn(6) {
	case 0:
		return api.Got{Err: api.ErrRead}
	case 1:
		return aSpoilt(random, l.g, r, copy, slot)
	case 2:
		return got(l.g, api.Rec{}, copy, slot)
	case 3:
		return api.Got{Bytes: anyBytes(random, random.Intn(120))}
	}
	return got(l.g, r, copy, slot)
}

// strangers are records that are not the expected one where r is, which is of the anchor's epoch, with nothing else in the log than what Last
// says: blank, of another number, of another index, of a later epoch and, if the number is above Last, of an older one.
func strangers(random *rand.Rand, g api.Geometry, a api.Anchor, r api.Rec) (l []api.Rec) {
	l = append(l, api.Rec{})
	for _, seq := range others(random, r.Seq, api.MaxNum) {
		l = append(l, member(random, g, seq, r.Epoch, r.At, r.Of))
	}
	for at := range r.Of {
		if at != r.At {
			l = append(l, member(random, g, r.Seq, r.Epoch, at, r.Of))
		}
	}
	for _, other := range others(random, r.Epoch, api.MaxNum) {
		if other > r.Epoch || r.Seq > a.Last {
			l = append(l, member(random, g, r.Seq, other, r.At, r.Of))
		}
	}
	return l
}

// P18.1: records that are not the expected one, in the place of the first record of a transaction and of each further one: in one copy the
// expected one is written over it; in both, or in one beside what is no record, the log ends ahead of the transaction.
func TestStrangers(t *testing.T) {
	random := rand.New(rand.NewSource(13))
	for _, g := range someGeometries() {
		for _, pos := range []int{0, g.Slots - 4} {
			for _, last := range []int{8, 9, 10, 11} {
				l, txns := filled(random, g, from(t, g, pos, 9), 2, 4, 3)
				l.a.Last = last
				eachSlot(l, txns, func(i, at, slot int) {
					r := recordsOf(txns[i], epoch)[at]
					for _, x := range strangers(random, g, l.a, r) {
						copy := random.Intn(2)
						l.withRec(copy, slot, x).scans(t, txns, writing(g, r, copy, slot))
						for _, both := range []log{l.withBoth(slot, x), l.withRec(copy, slot, x).with(1-copy, slot, api.Got{Err: api.ErrRead})} {
							if last > 8+i {
								both.fails(t, api.ErrLogDamaged)
							} else {
								both.scans(t, txns[:i])
							}
						}
					}
				})
			}
		}
	}
}

// P18.1: further records of another number of records than the first one has are not expected; of the first one each number is that fits, and
// that of the copy that is looked at first counts.
func TestOtherNumbersOfRecords(t *testing.T) {
	random := rand.New(rand.NewSource(14))
	for _, g := range someGeometries() {
		for _, pos := range starts(g) {
			l, txns := filled(random, g, from(t, g, pos, 9), 2, 4, 3)
			eachSlot(l, txns, func(i, at, slot int) {
				r := recordsOf(txns[i], epoch)[at]
				for of := max(2, at+1); of <= api.MaxSlots; of++ {
					if of == r.Of {
						continue
					}
					x := member(random, g, r.Seq, epoch, at, of)
					l.withBoth(slot, x).scans(t, txns[:i])
					used := sum(ns(txns[:i]))
					switch {
					case at > 0 || of > g.Slots-used:
						l.withRec(0, slot, x).scans(t, txns, writing(g, r, 0, slot))
						l.withRec(1, slot, x).scans(t, txns, writing(g, r, 1, slot))
					default:
						// What of the second copy is expected, too, is not written over.
						l.withRec(0, slot, x).scans(t, txns[:i])
						l.withRec(1, slot, x).scans(t, txns)
					}
				}
			})
		}
	}
}

// P18.1: if both copies contain an expected record, and not the same one, the first one counts, and nothing is written.
func TestTwoThatDiffer(t *testing.T) {
	random := rand.New(rand.NewSource(15))
	for _, g := range someGeometries() {
		for pos := range g.Slots {
			l, txns := filled(random, g, from(t, g, pos, 9), 4)
			l.a.Last = 9
			for at := range 3 {
				slot := l.slot(pos, at)
				for _, other := range []int{epoch, epoch - 1, 0} {
					x := member(random, g, 9, other, at, 4)
					l.withRec(1, slot, x).scans(t, txns)
					changed := []api.Txn{{Seq: 9, Pos: pos, N: 4, Images: slices.Clone(txns[0].Images)}}
					changed[0].Images[at] = x.Image
					l.withRec(0, slot, x).scans(t, changed)
					l.withRec(0, slot, x).with(1, slot, api.Got{}).scans(t, changed, writing(g, x, 1, slot))
				}
			}
		}
	}
}

// P18.1: records of older epochs, of each transaction an epoch of its own or of each record: they are found if the number is at most Last, and
// what is written is of the epoch that was read.
func TestOlderEpochs(t *testing.T) {
	random := rand.New(rand.NewSource(16))
	for _, g := range someGeometries() {
		for _, pos := range starts(g) {
			for old := range 4 {
				for last := 8; last <= 12; last++ {
					for _, epochs := range [][]int{{4, 4, 4}, {0, 3, 4}, {4, 0, 4}, {3, 5, 2}} {
						l, txns := filled(random, g, from(t, g, pos, 9), 2, 4, 3)
						l.a.Last = last
						var writes []api.Write
						for i, x := range txns[:old] {
							for at, r := range recordsOf(x, epochs[i]) {
								if random.Intn(8) == 0 {
									r.Epoch = random.Intn(5)
								}
								slot := l.slot(x.Pos, at)
								l = l.withBoth(slot, r)
								if copy := random.Intn(3); copy < 2 {
									l = l.with(copy, slot, aSpoilt(random, g, r, copy, slot))
									writes = append(writes, writing(g, r, copy, slot))
								}
							}
						}
						found := l.isRight(t)
						if old+8 <= last && last <= 11 && (found.e != api.OK || len(found.txns) != 3 || len(found.writes) != len(writes)) {
							t.Fatalf("%d transactions of older epochs, Last is %d: %+v", old, last, found)
						}
					}
				}
			}
		}
	}
}

// P18.1: a log of fewer transactions than Last says is damaged; of as many, and of more, it is not.
func TestLast(t *testing.T) {
	random := rand.New(rand.NewSource(17))
	for _, g := range someGeometries() {
		for _, seq := range []int{1, 2, 9, 256, 1 << 31, api.MaxNum - 20} {
			for count := range g.Slots/2 + 1 {
				l, txns := filled(random, g, from(t, g, random.Intn(g.Slots), seq), slices.Repeat([]int{2}, count)...)
				l.a.Seq = seq
				for last := seq - 1; last <= min(seq+count+2, api.MaxNum); last++ {
					l.a.Last = last
					if last < seq+count {
						l.scans(t, txns)
					} else {
						l.fails(t, api.ErrLogDamaged)
					}
				}
				l.a.Last = api.MaxNum
				if seq+count-1 < api.MaxNum {
					l.fails(t, api.ErrLogDamaged)
				}
			}
		}
		l := blank(g, from(t, g, 3, 1))
		l.scans(t, nil)
		l.a.Last = 1
		l.fails(t, api.ErrLogDamaged)
		l.a.Seq, l.a.Last = api.MaxNum, api.MaxNum
		l.fails(t, api.ErrLogDamaged)
		l.a.Last--
		l.scans(t, nil)
	}
}

// P18.1: with the greatest number the scan ends: what is in the slots behind that transaction does not matter, even if nothing can be read. With
// a number that is lower by one it does.
func TestMaxNum(t *testing.T) {
	random := rand.New(rand.NewSource(18))
	for _, g := range someGeometries() {
		for pos := range g.Slots {
			for _, ns := range [][]int{{2}, {5}, {2, 3}, {3, 2, 4}, {g.Slots}, {g.Slots - 1}, {g.Slots - 4, 3}} {
				seq := api.MaxNum - len(ns) + 1
				for _, last := range []int{seq - 1, seq, api.MaxNum} {
					_, txns := filled(random, g, from(t, g, pos, seq), ns...)
					l := nowhere(g, from(t, g, pos, seq))
					l.a.Last = last
					for _, x := range txns {
						l.put(x.Pos, recordsOf(x, epoch))
					}
					l.scans(t, txns)
					behind := l.slot(pos, sum(ns))
					if sum(ns) > g.Slots-2 {
						continue
					}
					for _, next := range []int{0, 1, api.MaxNum} {
						r := member(random, g, next, epoch, 0, 2)
						l.withBoth(behind, r).withBoth(l.slot(behind, 1), member(random, g, next, epoch, 1, 2)).scans(t, txns)
					}
				}
				l, _ := filled(random, g, from(t, g, pos, seq-1), ns...)
				if sum(ns) < g.Slots {
					behind := l.slot(pos, sum(ns))
					l.with(0, behind, api.Got{Err: api.ErrRead}).with(1, behind, api.Got{Err: api.ErrRead}).fails(t, api.ErrLogDamaged)
				}
			}
		}
	}
}

// P18.1: what is written is in the order of the transactions, of their records, and not in that of the slots or of the copies; and nothing is
// written for a transaction that does not count.
func TestWrites(t *testing.T) {
	random := rand.New(rand.NewSource(19))
	for _, g := range someGeometries() {
		for pos := range g.Slots {
			for range 5 {
				l, txns := filled(random, g, from(t, g, pos, 9), parts(random, random.Intn(g.Slots-3), 5)...)
				l, writes := l.halved(random, txns)
				l.scans(t, txns, writes...)
				used := sum(ns(txns))
				next := l.slot(pos, used)
				x := txnOf(random, g, 9+len(txns), next, 2+random.Intn(g.Slots-used-1))
				for at, r := range recordsOf(x, epoch) {
					slot := l.slot(next, at)
					l = l.withRec(random.Intn(2), slot, r)
				}
				missing := l.slot(next, random.Intn(x.N))
				l.withBoth(missing, api.Rec{}).scans(t, txns, writes...)
				l.a.Last = x.Seq
				l.withBoth(missing, api.Rec{}).fails(t, api.ErrLogDamaged)
				l.with(0, missing, api.Got{Err: api.ErrRead}).with(1, missing, api.Got{Err: api.ErrRead}).fails(t, api.ErrLogDamaged)
				if all := l.isRight(t); len(all.writes) != len(writes)+x.N {
					t.Fatalf("%d writes of %d and %d", len(all.writes), len(writes), x.N)
				}
			}
		}
	}
}

// P18.1: all records of a log are in the first copy alone, or in the second one alone: the other copy is written.
func TestOneCopyAlone(t *testing.T) {
	random := rand.New(rand.NewSource(20))
	for _, g := range someGeometries() {
		for pos := range g.Slots {
			for _, used := range []int{2, 9, g.Slots - 1, g.Slots} {
				l, txns := filled(random, g, from(t, g, pos, 9), parts(random, used, 5)...)
				for copy := range 2 {
					var writes []api.Write
					eachSlot(l, txns, func(i, at, slot int) {
						writes = append(writes, writing(g, recordsOf(txns[i], epoch)[at], copy, slot))
					})
					for _, x := range []log{blank(g, l.a), nowhere(g, l.a)} {
						one := l.clone()
						one.copies[copy] = x.copies[copy]
						one.scans(t, txns, writes...)
					}
				}
			}
		}
	}
}

// P18.1: transactions that were in the log before it went round, and are no more: what is left of them behind the last one is not found.
func TestWhatIsLeftOver(t *testing.T) {
	random := rand.New(rand.NewSource(21))
	for _, g := range someGeometries() {
		for range 200 {
			a := from(t, g, random.Intn(g.Slots), 100)
			pos := a.Pos
			l := blank(g, a)
			for seq := 60; seq < 100; seq++ {
				n := 2 + random.Intn(5)
				l.put(pos, recordsOf(txnOf(random, g, seq, pos, n), epoch))
				pos = l.slot(pos, n)
			}
			l.a.Pos = pos
			l.scans(t, nil)
			var txns []api.Txn
			for used := 0; ; {
				x := txnOf(random, g, 100+len(txns), pos, 2+random.Intn(5))
				if used += x.N; used > g.Slots {
					break
				}
				l.put(pos, recordsOf(x, epoch))
				txns = append(txns, x)
				pos = l.slot(pos, x.N)
				l.scans(t, txns)
			}
			l, writes := l.halved(random, txns)
			l.scans(t, txns, writes...)
		}
	}
}

// P18.1: with an anchor that is not valid it is ErrArg, whatever the readings.
func TestWrongAnchors(t *testing.T) {
	random := rand.New(rand.NewSource(22))
	for _, g := range someGeometries() {
		good, txns := filled(random, g, from(t, g, 3, 9), 2, 3)
		good.scans(t, txns)
		for _, a := range wrongAnchors(g, good.a) {
			for _, l := range []log{good, blank(g, a), nowhere(g, a), {g: g}} {
				l.a = a
				l.fails(t, api.ErrArg)
				l.copies[1] = nil
				l.fails(t, api.ErrArg)
			}
		}
		// Valid ones at the edges.
		good.a.Gen, good.a.Label = api.MaxNum, "seven"
		good.a.Homes[0].Root = api.MaxNum
		good.scans(t, txns)
		good.a.Gen, good.a.Label = 0, ""
		good.scans(t, txns)
		for _, n := range []int{0, api.MaxNum} {
			good.a.Epoch = n
			for _, x := range txns {
				good.put(x.Pos, recordsOf(x, n))
			}
			good.scans(t, txns)
		}
	}
}

// P18.1: with a geometry that is not valid it is ErrArg, whatever the anchor and the readings, as many as it says too.
func TestWrongGeometries(t *testing.T) {
	random := rand.New(rand.NewSource(23))
	for _, base := range someGeometries() {
		good, _ := filled(random, base, from(t, base, 3, 9), 2, 3)
		for _, g := range wrongGeometries(base) {
			l := good
			l.g = g
			l.fails(t, api.ErrArg)
			count := max(0, min(g.Slots, 1000))
			l.copies = [2][]api.Got{make([]api.Got, count), make([]api.Got, count)}
			l.fails(t, api.ErrArg)
			l.copies = [2][]api.Got{}
			l.fails(t, api.ErrArg)
			l.a = api.Anchor{}
			l.fails(t, api.ErrArg)
		}
	}
}

// P18.1: an anchor of another geometry is one of this geometry too, or it is ErrArg.
func TestAnchorsOfOtherGeometries(t *testing.T) {
	random := rand.New(rand.NewSource(24))
	all := geometries()
	for range 3000 {
		g, other := all[random.Intn(len(all))], all[random.Intn(len(all))]
		l := blank(g, from(t, other, random.Intn(other.Slots), 9))
		if g.Zones == other.Zones && g.Data == other.Data && l.a.Pos < g.Slots {
			l.scans(t, nil)
		} else {
			l.fails(t, api.ErrArg)
		}
	}
}

// P18.1: of each copy there is the reading of each slot: one less or one more of the first, of the second, and of both, is ErrLen, also if what
// there is would do, and ahead of what the scan comes to.
func TestNumberOfReadings(t *testing.T) {
	random := rand.New(rand.NewSource(25))
	for _, g := range someGeometries() {
		full, _ := filled(random, g, from(t, g, 0, 9), 2, 3)
		for _, l := range []log{full, blank(g, full.a), nowhere(g, full.a)} {
			for n := range 2*g.Slots + 2 {
				for m := range 2*g.Slots + 2 {
					if n == g.Slots && m == g.Slots {
						continue
					}
					x := l
					x.copies = [2][]api.Got{resized(l.copies[0], n), resized(l.copies[1], m)}
					x.fails(t, api.ErrLen)
				}
			}
			for _, n := range []int{255, 256, 1 << 16} {
				x := l
				x.copies[0] = make([]api.Got, n)
				x.fails(t, api.ErrLen)
				x.copies = [2][]api.Got{l.copies[0], make([]api.Got, n)}
				x.fails(t, api.ErrLen)
			}
			x := l
			x.copies[0] = slices.Concat(l.copies[0], l.copies[1])
			x.copies[1] = []api.Got{}
			x.fails(t, api.ErrLen)
		}
		// The readings behind the length are none.
		full.copies[0] = full.copies[0][:g.Slots-1]
		full.fails(t, api.ErrLen)
	}
}

// resized is l with n elements, the last ones zero if there are too few.
func resized(l []api.Got, n int) []api.Got {
	if n <= len(l) {
		return l[:n:n]
	}
	return append(slices.Clip(l), make([]api.Got, n-len(l))...)
}

// P18.1: the errors in their order: that of the anchor, that of the readings' number, that of the scan.
func TestOrderOfErrors(t *testing.T) {
	random := rand.New(rand.NewSource(26))
	for _, g := range someGeometries() {
		good, txns := filled(random, g, from(t, g, 3, 9), 2, 3)
		for n := range 8 {
			l := good
			want := api.OK
			if n&4 != 0 {
				l = l.with(0, 6, api.Got{Err: api.ErrDead}).with(1, 6, api.Got{})
				want = api.ErrLogDamaged
			}
			if n&2 != 0 {
				copy := random.Intn(2)
				l = l.clone()
				l.copies[copy] = l.copies[copy][:g.Slots-1]
				want = api.ErrLen
			}
			if n&1 != 0 {
				l.a = wrongAnchors(g, l.a)[random.Intn(20)]
				want = api.ErrArg
			}
			if want == api.OK {
				l.scans(t, txns)
			} else {
				l.fails(t, want)
			}
			l.g.Slots = 31
			l.fails(t, api.ErrArg)
		}
	}
}

// P18.1: a log that is damaged behind transactions of which copies are missing tells neither them nor what is to be written.
func TestNothingBesideErrors(t *testing.T) {
	random := rand.New(rand.NewSource(27))
	for _, g := range someGeometries() {
		for pos := range g.Slots {
			l, txns := filled(random, g, from(t, g, pos, 9), 3, 2, 4)
			l, _ = l.halved(random, txns)
			behind := l.slot(pos, 9)
			l.with(0, behind, api.Got{}).with(1, behind, api.Got{}).fails(t, api.ErrLogDamaged)
			l.a.Last = 12
			l.fails(t, api.ErrLogDamaged)
		}
	}
}

// P18.1: of the readings that are looked at the error counts, whichever it is, and bytes beside it do not.
func TestReadingsWithErrors(t *testing.T) {
	random := rand.New(rand.NewSource(28))
	for _, g := range someGeometries() {
		l, txns := filled(random, g, from(t, g, 5, 9), 2)
		for at, r := range recordsOf(txns[0], epoch) {
			slot := 5 + at
			for copy := range 2 {
				for _, x := range withErrors(cell(g, r, copy, slot)) {
					bad := l.with(copy, slot, x)
					bad.scans(t, txns, writing(g, r, copy, slot))
					bad.with(1-copy, slot, api.Got{Err: api.ErrRead, Bytes: cell(g, r, 1-copy, slot)}).fails(t, api.ErrLogDamaged)
				}
			}
		}
	}
}

// P18.1: both lists of readings are one: the records of the first copy are not those of the second one.
func TestReadingsThatShareMemory(t *testing.T) {
	random := rand.New(rand.NewSource(29))
	for _, g := range someGeometries() {
		l, txns := filled(random, g, from(t, g, 5, 9), 2, 4)
		for copy := range 2 {
			one := l
			one.copies[1-copy] = l.copies[copy]
			var writes []api.Write
			eachSlot(l, txns, func(i, at, slot int) {
				writes = append(writes, writing(g, recordsOf(txns[i], epoch)[at], 1-copy, slot))
			})
			one.answers(t, answer{txns: txns, writes: writes})
			one.isRight(t)
		}
	}
}

// scripted changes l as the steps say, each of six bytes, and is as likely as not to keep what was there.
func (l log) scripted(random *rand.Rand, steps []byte) log {
	l = l.clone()
	for ; len(steps) >= 6; steps = steps[6:] {
		slot, copies := int(steps[1])%l.g.Slots, 1+int(steps[2])%3
		of := 2 + int(steps[3])%5
		seq, of2 := min(l.a.Seq+int(steps[4])%4, api.MaxNum), of+int(steps[4])/4%2
		r := member(random, l.g, seq, max(0, min(l.a.Epoch-1+int(steps[5])%3, api.MaxNum)), int(steps[3])/5%of, of2)
		for copy := range 2 {
			if copies>>copy&1 == 0 {
				continue
			}
			was := &l.copies[copy][slot]
			switch steps[0] % 8 {
			case 0:
				*was = api.Got{Err: api.ErrRead}
			case 1:
				*was = got(l.g, api.Rec{}, copy, slot)
			case 2:
				*was = api.Got{Bytes: seal.Flip(was.Bytes, int(steps[3]), int(steps[4]))}
			case 3:
				*was = l.copies[1-copy][slot]
			case 4:
				*was = l.copies[copy][l.slot(slot, int(steps[3]))]
			case 5:
				for i, x := range recordsOf(txnOf(random, l.g, seq, slot, of), r.Epoch) {
					l.copies[copy][l.slot(slot, i)] = got(l.g, x, copy, l.slot(slot, i))
				}
			default:
				*was = got(l.g, r, copy, slot)
			}
		}
	}
	return l
}

// P18.1: any logs, near to such as are whole, in any geometry, against the second program.
func TestRandom(t *testing.T) {
	random := rand.New(rand.NewSource(30))
	all := geometries()
	var found, damaged, written, ended int
	for range 15000 {
		g := all[random.Intn(len(all))]
		a := from(t, g, random.Intn(g.Slots), 1+random.Intn(20))
		if random.Intn(8) == 0 {
			a.Seq = api.MaxNum - random.Intn(4)
		}
		a.Epoch = random.Intn(6)
		ns := parts(random, random.Intn(g.Slots+1), 2+random.Intn(5))
		ns = ns[:min(len(ns), api.MaxNum-a.Seq+1)]
		l, _ := filled(random, g, a, ns...)
		l.a.Last = min(a.Seq-1+random.Intn(len(ns)+2)*random.Intn(2), api.MaxNum)
		l = l.scripted(random, anyBytes(random, 6*random.Intn(8)))
		want := l.isRight(t)
		switch {
		case want.e != api.OK:
			damaged++
		case len(want.txns) < len(ns):
			ended++
		case len(want.txns) > 0:
			found++
		}
		if len(want.writes) > 0 {
			written++
		}
	}
	if found < 1000 || damaged < 1000 || written < 1000 || ended < 1000 {
		t.Errorf("%d found, %d damaged, %d written, %d ended", found, damaged, written, ended)
	}
}

// P18.2: what was flushed to both copies is found, even if one copy of each slot is damaged; what was not begun is not found.

// work ends the test unless e is OK.
func work(t *testing.T, d api.Disk, e api.Errno) api.Disk {
	t.Helper()
	if e != api.OK {
		t.Fatalf("the disk answers %v", e)
	}
	return d
}

// flushed is d with all writes carried out.
func flushed(t *testing.T, d api.Disk) api.Disk {
	t.Helper()
	d, e := disk.Flush(d)
	return work(t, d, e)
}

// logged is d with r written to this slot of both copies, not flushed.
func logged(t *testing.T, d api.Disk, g api.Geometry, r api.Rec, slot int) api.Disk {
	t.Helper()
	for copy := range 2 {
		a, e := geom.Log(g, copy, slot)
		b, f := rec.Cell(g, r, copy, slot)
		if e != api.OK || f != api.OK {
			t.Fatal(e, f)
		}
		d, e = disk.Write(d, a, b)
		work(t, d, e)
	}
	return d
}

// loggedTxn is d with all records of x written, not flushed.
func loggedTxn(t *testing.T, d api.Disk, g api.Geometry, x api.Txn, epoch int) api.Disk {
	t.Helper()
	l, e := rec.Txn(g, x.Seq, epoch, x.Images)
	if e != api.OK {
		t.Fatal(e)
	}
	for i, r := range l {
		d = logged(t, d, g, r, (x.Pos+i)%g.Slots)
	}
	return d
}

// blankDisk is a disk of g with blank records in each slot of both copies, flushed.
func blankDisk(t *testing.T, g api.Geometry) api.Disk {
	t.Helper()
	n, e := geom.Cells(g)
	if e != api.OK {
		t.Fatal(e)
	}
	d, e := disk.New(n)
	work(t, d, e)
	for slot := range g.Slots {
		d = logged(t, d, g, api.Rec{}, slot)
	}
	return flushed(t, d)
}

// read is the log that the readings of d are.
func read(t *testing.T, d api.Disk, g api.Geometry, a api.Anchor) log {
	t.Helper()
	l := log{g: g, a: a}
	for copy := range 2 {
		for slot := range g.Slots {
			addr, e := geom.Log(g, copy, slot)
			if e != api.OK {
				t.Fatal(e)
			}
			var x api.Got
			_, x.Bytes, x.Err = disk.Read(d, addr)
			l.copies[copy] = append(l.copies[copy], x)
		}
	}
	return l
}

// kinds are those of faults.
var kinds = []int{api.StepLatent, api.StepSticky, api.StepFlip, api.StepStale, api.StepMove}

// faulty is d with a fault of this kind in this slot of this copy.
func faulty(t *testing.T, random *rand.Rand, d api.Disk, g api.Geometry, kind, copy, slot int) api.Disk {
	t.Helper()
	addr := address(g, copy, slot)
	other := (addr + 1 + random.Intn(len(d.Cells)-1)) % len(d.Cells)
	d, e := disk.Fault(d, kind, addr, other, random.Intn(2000), int(random.Uint32()))
	return work(t, d, e)
}

// halfDamaged is d with a fault of any kind in one copy of each slot.
func halfDamaged(t *testing.T, random *rand.Rand, d api.Disk, g api.Geometry) api.Disk {
	t.Helper()
	copy := random.Intn(4)
	for slot := range g.Slots {
		c := copy
		if copy > 1 {
			c = random.Intn(2)
		}
		d = faulty(t, random, d, g, kinds[random.Intn(len(kinds))], c, slot)
	}
	return d
}

// found tells an error unless the log on d has these transactions, and the writes that are asked for make it whole.
func found(t *testing.T, d api.Disk, g api.Geometry, a api.Anchor, txns []api.Txn) {
	t.Helper()
	l := read(t, d, g, a)
	want := l.isRight(t)
	l.scans(t, txns, want.writes...)
	for _, w := range want.writes {
		next, e := disk.Write(d, w.Addr, w.Bytes)
		if e != api.OK && e != api.ErrWrite {
			t.Fatal(e)
		}
		d = next
	}
	d = flushed(t, d)
	for i := range d.Cells {
		if d.Cells[i].State == api.Sticky {
			return
		}
	}
	read(t, d, g, a).scans(t, txns)
}

// history is a disk in whose log transactions were written one after the other, all flushed, and of which the anchor is the one with which the
// last of them, txns, are in the log. It has gone round, so that what is older is in other slots.
func history(t *testing.T, random *rand.Rand, g api.Geometry) (d api.Disk, a api.Anchor, txns []api.Txn) {
	t.Helper()
	d = blankDisk(t, g)
	pos, seq := random.Intn(g.Slots), 40
	for range random.Intn(12) {
		x := txnOf(random, g, seq, pos, 2+random.Intn(6))
		d = flushed(t, loggedTxn(t, d, g, x, epoch-random.Intn(2)))
		pos, seq = (pos+x.N)%g.Slots, seq+1
	}
	a = from(t, g, pos, seq)
	for _, n := range parts(random, random.Intn(g.Slots+1), 7) {
		x := txnOf(random, g, seq, pos, n)
		d = flushed(t, loggedTxn(t, d, g, x, epoch))
		txns = append(txns, x)
		pos, seq = (pos+n)%g.Slots, seq+1
	}
	a.Last += random.Intn(len(txns) + 1)
	return d, a, txns
}

// P18.2: with a fault of each kind in one copy of one slot, and of any kinds in one copy of each.
func TestFoundOnDamagedDisk(t *testing.T) {
	random := rand.New(rand.NewSource(31))
	for _, g := range someGeometries() {
		for range 3 {
			d, a, txns := history(t, random, g)
			found(t, d, g, a, txns)
			for slot := range g.Slots {
				for _, kind := range kinds {
					found(t, faulty(t, random, d, g, kind, random.Intn(2), slot), g, a, txns)
				}
			}
			for range 20 {
				found(t, halfDamaged(t, random, d, g), g, a, txns)
			}
		}
	}
}

// P18.2: in each geometry.
func TestFoundInEachGeometry(t *testing.T) {
	random := rand.New(rand.NewSource(32))
	for i, g := range geometries() {
		if i%7 == 0 {
			d, a, txns := history(t, random, g)
			found(t, halfDamaged(t, random, d, g), g, a, txns)
		}
	}
}

// P18.2: if the disk is cut off while a transaction is written, those that were flushed are found, and it is found if of each of its records one
// copy was kept; then another volume is mounted, and what it writes in its place is found.
func TestDiskThatWasCutOff(t *testing.T) {
	random := rand.New(rand.NewSource(33))
	for _, g := range someGeometries() {
		for range 12 {
			d, a, txns := history(t, random, g)
			used := sum(ns(txns))
			pos, seq := (a.Pos+used)%g.Slots, a.Seq+len(txns)
			if g.Slots-used < 2 {
				found(t, d, g, a, txns)
				continue
			}
			n := 2 + random.Intn(min(4, g.Slots-used-1))
			x := txnOf(random, g, seq, pos, n)
			d = loggedTxn(t, d, g, x, epoch)
			for range 15 {
				keep := random.Intn(1<<(2*n)) | random.Intn(1<<(2*n))
				kept, e := disk.Crash(d, keep)
				work(t, kept, e)
				isWhole := true
				for i := range n {
					isWhole = isWhole && keep>>(2*i)&3 != 0
				}
				if isWhole {
					found(t, kept, g, a, append(slices.Clone(txns), x))
					continue
				}
				found(t, kept, g, a, txns)
				// What is left of it is not taken for what is written later, whose number and places are the same.
				later := a
				later.Epoch, later.Last = epoch+1, seq-1
				found(t, kept, g, later, txns)
				y := txnOf(random, g, seq, pos, 2+random.Intn(g.Slots-used-1))
				// Of what is written last, the commit, neither copy is kept.
				last := 2*y.N - 1
				cut, e := disk.Crash(loggedTxn(t, kept, g, y, epoch+1), math.MaxInt&^(1<<(last%31)|1<<((last-1)%31)))
				found(t, work(t, cut, e), g, later, txns)
				kept = flushed(t, loggedTxn(t, kept, g, y, epoch+1))
				found(t, halfDamaged(t, random, kept, g), g, later, append(slices.Clone(txns), y))
			}
		}
	}
}

// P18.2: transactions of what packages stripe, rec and ring make are found as they were written, with one copy of each slot damaged.
func TestWrittenBlocks(t *testing.T) {
	random := rand.New(rand.NewSource(34))
	for _, g := range someGeometries() {
		for range 10 {
			entries, e := table.First(g)
			if e != api.OK {
				t.Fatal(e)
			}
			had := slices.Repeat([][]byte{make([]byte, 8)}, g.Data+1)
			d, a := blankDisk(t, g), from(t, g, random.Intn(g.Slots), 9)
			var txns []api.Txn
			for ring.Used(txns)+4 <= g.Slots {
				pos, seq, e := ring.Next(g, a, txns)
				if e != api.OK {
					t.Fatal(e)
				}
				index, news := []int{random.Intn(g.Data)}, [][]byte{anyBytes(random, 8)}
				next, parity, e := stripe.Write(g, entries, had, index, news, seq)
				if e != api.OK {
					t.Fatal(e)
				}
				images, e := stripe.Images(g, g.Zones-1, next, parity, index, news)
				if e != api.OK {
					t.Fatal(e)
				}
				had[index[0]], had[g.Data], entries = news[0], parity, next
				x := api.Txn{Seq: seq, Pos: pos, N: len(images) + 1, Images: images}
				d, txns = flushed(t, loggedTxn(t, d, g, x, epoch)), append(txns, x)
				found(t, halfDamaged(t, random, d, g), g, a, txns)
			}
			block, e := zone.Block(g, entries, had, 0)
			if e != api.OK || !bytes.Equal(block, had[0]) {
				t.Fatalf("zone.Block = %v, %v, want %v", block, e, had[0])
			}
		}
	}
}

// Memory.

// spare returns a copy of l with x behind its length, three times.
func spare[T any](l []T, x T) []T {
	return append(slices.Clone(l), x, x, x)[:len(l)]
}

// whole is a copy of l with all memory behind its length too.
func whole[T any](l []T) []T {
	return slices.Clone(l[:cap(l)])
}

// fill writes x over all memory of l.
func fill[T any](l []T, x T) {
	for i := range l[:cap(l)] {
		l[:cap(l)][i] = x
	}
}

// copied is all that is handed in, what is behind each length too, in other memory.
func (l log) copied() log {
	for copy := range 2 {
		l.copies[copy] = whole(l.copies[copy])
		for slot := range l.copies[copy] {
			l.copies[copy][slot].Bytes = whole(l.copies[copy][slot].Bytes)
		}
	}
	l.a.Homes = whole(l.a.Homes)
	for i := range l.a.Homes {
		l.a.Homes[i].Places = whole(l.a.Homes[i].Places)
	}
	return l
}

// isAs tells whether all that is handed in is what was copied.
func (l log) isAs(was log) bool {
	now := l.copied()
	isSameHome := func(x, y api.Home) bool {
		return slices.Equal(x.Places, y.Places) && x.Next == y.Next && x.Root == y.Root
	}
	isSameGot := func(x, y api.Got) bool {
		return x.Err == y.Err && bytes.Equal(x.Bytes, y.Bytes)
	}
	for copy := range 2 {
		if !slices.EqualFunc(now.copies[copy], was.copies[copy], isSameGot) {
			return false
		}
	}
	return slices.EqualFunc(now.a.Homes, was.a.Homes, isSameHome)
}

// roomy is l with n behind each length.
func (l log) roomy(n byte) log {
	for copy := range 2 {
		l.copies[copy] = spare(l.copies[copy], api.Got{Err: api.Errno(n), Bytes: []byte{n}})
		for slot, x := range l.copies[copy] {
			l.copies[copy][slot].Bytes = spare(x.Bytes, n)
		}
	}
	l.a.Homes = spare(l.a.Homes, api.Home{Places: []int{int(n)}, Next: int(n), Root: int(n)})
	for i := range l.a.Homes {
		l.a.Homes[i].Places = spare(l.a.Homes[i].Places, int(n))
	}
	return l
}

// logs are such as succeed and such as fail. Behind each length is n; what has been cut off is behind the length, too.
func logs(t *testing.T, n byte) (l []log) {
	random := rand.New(rand.NewSource(35))
	for _, g := range someGeometries() {
		x, txns := filled(random, g, from(t, g, g.Slots-4, 9), 2, 5, 3)
		half, _ := x.halved(random, txns)
		full, _ := filled(random, g, from(t, g, 2, 9), parts(random, g.Slots, 4)...)
		wrong, short, cut, fewer := x.roomy(n), x.roomy(n), x.roomy(n), x.roomy(n)
		wrong.a.Pos = 30
		short.copies[1] = short.copies[1][:g.Slots-1]
		for copy := range 2 {
			bytes := &cut.copies[copy][1].Bytes
			*bytes = (*bytes)[:len(*bytes)-1]
		}
		fewer.a.Last = 12
		l = append(l, x.roomy(n), half.roomy(n), full.roomy(n), x.with(0, 0, api.Got{}).with(1, 0, got(g, api.Rec{}, 1, 0)).roomy(n), wrong, short, cut, fewer)
	}
	return l
}

// lists are all lists of bytes in a.
func (a answer) lists() (l [][]byte) {
	for _, x := range a.txns {
		for _, image := range x.Images {
			l = append(l, image.Bytes)
		}
	}
	for _, w := range a.writes {
		l = append(l, w.Bytes)
	}
	return l
}

// whole is a copy of a with all memory of its lists, that behind their lengths too.
func (a answer) whole() answer {
	a.txns, a.writes = whole(a.txns), whole(a.writes)
	for i := range a.txns {
		a.txns[i].Images = whole(a.txns[i].Images)
		for j := range a.txns[i].Images {
			a.txns[i].Images[j].Bytes = whole(a.txns[i].Images[j].Bytes)
		}
	}
	for i := range a.writes {
		a.writes[i].Bytes = whole(a.writes[i].Bytes)
	}
	return a
}

// P18.1 under R2: what is handed in stays as it was, its spare capacity too, also when all memory of the answers is written to, which they do
// not share with each other either, nor do the lists of one answer.
func TestMemory(t *testing.T) {
	for _, l := range logs(t, 3) {
		was := l.copied()
		answers := []answer{l.ask(), l.ask()}
		var lists [][]byte
		var images [][]api.Image
		for _, a := range answers {
			lists = append(lists, a.lists()...)
			for _, x := range a.txns {
				images = append(images, x.Images)
			}
		}
		for i, b := range lists {
			fill(b, byte(i))
		}
		for i, x := range images {
			fill(x, api.Image{Zone: 1000 + i})
		}
		for i, a := range answers {
			fill(a.txns, api.Txn{Seq: 2000 + i})
			fill(a.writes, api.Write{Addr: 3000 + i})
		}
		for i, b := range lists {
			if slices.ContainsFunc(b[:cap(b)], func(c byte) bool { return c != byte(i) }) {
				t.Fatal("two lists of bytes that were returned share memory")
			}
		}
		for i, x := range images {
			if slices.ContainsFunc(x[:cap(x)], func(y api.Image) bool { return y.Zone != 1000+i }) {
				t.Fatal("two transactions share their Images")
			}
		}
		for i, a := range answers {
			if slices.ContainsFunc(a.txns[:cap(a.txns)], func(x api.Txn) bool { return x.Seq != 2000+i }) {
				t.Fatal("two answers share their transactions")
			}
			if slices.ContainsFunc(a.writes[:cap(a.writes)], func(w api.Write) bool { return w.Addr != 3000+i }) {
				t.Fatal("two answers share their writes")
			}
		}
		if !l.isAs(was) {
			t.Fatalf("%+v has become %+v", was, l.copied())
		}
	}
}

// P18.1 under R2: the answers stay as they were when all memory of what was handed in is written to.
func TestMemoryHandedIn(t *testing.T) {
	for _, l := range logs(t, 3) {
		a := l.ask()
		was := a.whole()
		for _, readings := range l.copies {
			for _, x := range readings {
				fill(x.Bytes, 77)
			}
			fill(readings, api.Got{Err: 78})
		}
		for _, home := range l.a.Homes {
			fill(home.Places, 79)
		}
		fill(l.a.Homes, api.Home{Next: 79})
		if !a.whole().isSame(was) {
			t.Fatalf("%+v has become %+v", was, a)
		}
	}
}

// P18.1 under R3 and R6: what is behind a length does not matter and is not returned, not even behind the length of an answer, and a call that
// is made again answers the same.
func TestAgain(t *testing.T) {
	var times [][]answer
	for _, n := range []byte{3, 3, 0, 255} {
		var l []answer
		for _, x := range logs(t, n) {
			x.isRightOrFails(t)
			l = append(l, x.ask().whole())
		}
		times = append(times, l)
	}
	for i, l := range times {
		if !slices.EqualFunc(l, times[0], answer.isSame) {
			t.Errorf("the answers of the time %d are other ones", i)
		}
	}
}

// isRightOrFails tells an error unless Scan answers as it is to, for a geometry that is valid.
func (l log) isRightOrFails(t *testing.T) {
	t.Helper()
	switch {
	case anchor.Check(l.g, l.a) != api.OK:
		l.fails(t, api.ErrArg)
	case len(l.copies[0]) != l.g.Slots || len(l.copies[1]) != l.g.Slots:
		l.fails(t, api.ErrLen)
	default:
		l.isRight(t)
	}
}

// P18.1 under R2: behind the lengths of an answer there is nothing of what was read, neither of a transaction that does not count.
func TestBehindLengths(t *testing.T) {
	random := rand.New(rand.NewSource(36))
	for _, g := range someGeometries() {
		l, txns := filled(random, g, from(t, g, 3, 9), 2, 2, 2, 5)
		l, _ = l.halved(random, txns)
		l.copies[0][13], l.copies[1][13] = got(g, api.Rec{}, 0, 13), got(g, api.Rec{}, 1, 13)
		a := l.ask()
		for _, x := range a.txns[len(a.txns):cap(a.txns)] {
			if !isSameTxn(x, api.Txn{}) {
				t.Errorf("behind the transactions is %+v", x)
			}
		}
		for _, w := range a.writes[len(a.writes):cap(a.writes)] {
			if !isSameWrite(w, api.Write{}) {
				t.Errorf("behind the writes is %+v", w)
			}
		}
	}
}

// P18.1: any readings, in any geometry, from any anchor.
func FuzzScan(f *testing.F) {
	f.Add(2, 3, 1, 14, 2, 12, 9, 5, 8, []byte{2, 3, 4}, []byte{0, 13, 0, 0, 0, 0}, 3, []byte{})
	f.Add(1, 1, 0, 14, 1, 0, 1, 0, 0, []byte{}, []byte{}, 0, make([]byte, 11))
	f.Add(4, 4, 2, 30, 3, 29, api.MaxNum, api.MaxNum, api.MaxNum, []byte{7}, []byte{5, 3, 2, 1, 4, 2, 6, 7, 1, 0, 3, 1}, 31, []byte{1})
	f.Add(0, 5, 3, 13, 4, -1, math.MinInt, -1, math.MaxInt, []byte{2, 2, 2, 2, 2, 2, 2}, []byte{7, 7, 7, 7, 7, 7}, -1, make([]byte, 200))
	f.Fuzz(func(t *testing.T, zones, data, spares, slots, anchors, pos, seq, epoch, last int, sizes, steps []byte, slot int, b []byte) {
		g := geo(1+zones&3, 1+data&3, spares&1+spares>>1&1, 14+slots&15, 1+anchors&1)
		a := from(t, g, int(uint(pos)%uint(g.Slots)), max(1, seq&api.MaxNum))
		a.Epoch = epoch & api.MaxNum
		var ns []int
		for _, n := range sizes {
			if n := 2 + int(n)%g.Slots; sum(ns)+n <= g.Slots && a.Seq+len(ns) <= api.MaxNum {
				ns = append(ns, n)
			}
		}
		random := rand.New(rand.NewSource(int64(slot)))
		l, txns := filled(random, g, a, ns...)
		l.scans(t, txns)
		l.a.Last = min(a.Seq-1+last&7, api.MaxNum)
		l.isRight(t)
		l = l.scripted(random, steps[:min(len(steps), 60)])
		l.isRight(t)
		at := int(uint(slot) % uint(g.Slots))
		l = l.with(slot&1, at, api.Got{Bytes: sealed(address(g, slot&1, at), seq&api.MaxNum, b[:min(len(b), 96)])})
		l.isRight(t)
		l = l.with(slot&1, at, api.Got{Bytes: b})
		l.isRight(t)
		raw := l
		raw.a.Pos, raw.a.Seq, raw.a.Epoch, raw.a.Last = pos, seq, epoch, last
		raw.isRightOrFails(t)
		if n := int(uint(slot) % 50); n != g.Slots {
			l.copies[last&1] = resized(l.copies[last&1], n)
			l.fails(t, api.ErrLen)
		}
		if wrong := geo(zones, data, spares, slots, anchors); !slices.Contains(geometries(), wrong) {
			l.g = wrong
			l.fails(t, api.ErrArg)
		}
	})
}
