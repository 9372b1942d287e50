package ring_test

import (
	"bytes"
	"math"
	"math/rand"
	"slices"
	"testing"

	"casemate/anchor"
	"casemate/api"
	"casemate/rec"
	"casemate/ring"
	"casemate/stripe"
	"casemate/table"
)

// geo is a geometry.
func geo(zones, data, spares, slots, anchors int) api.Geometry {
	return api.Geometry{Zones: zones, Data: data, Spares: spares, Slots: slots, Anchors: anchors}
}

// someGeometries are one for each number of blocks, the smallest and the greatest valid one among them.
func someGeometries() []api.Geometry {
	return []api.Geometry{geo(1, 1, 0, 14, 1), geo(3, 2, 2, 20, 3), geo(2, 3, 1, 15, 2), geo(4, 4, 2, 30, 3)}
}

// geometries are all valid ones.
func geometries() (l []api.Geometry) {
	for n := range 4 * 4 * 3 * 17 * 3 {
		l = append(l, geo(1+n%4, 1+n/4%4, n/16%3, 14+n/48%17, 1+n/816))
	}
	return l
}

// wrongGeometries are such as are not valid: base with each of its numbers one beyond each bound and far out, and with all of them at once.
func wrongGeometries(base api.Geometry) (l []api.Geometry) {
	change := func(number func(g *api.Geometry) *int, wrong ...int) {
		for _, n := range append(wrong, -1, math.MinInt, math.MaxInt) {
			g := base
			*number(&g) = n
			l = append(l, g)
		}
	}
	change(func(g *api.Geometry) *int { return &g.Zones }, 0, 5)
	change(func(g *api.Geometry) *int { return &g.Data }, 0, 5)
	change(func(g *api.Geometry) *int { return &g.Spares }, 3)
	change(func(g *api.Geometry) *int { return &g.Slots }, 0, 13, 31)
	change(func(g *api.Geometry) *int { return &g.Anchors }, 0, 4)
	return append(l, api.Geometry{}, geo(-1, -1, -1, -1, -1), geo(5, 5, 3, 31, 4))
}

// The document's words, as a second program that is to answer the same.

// isImage tells whether x is a valid image of the valid geometry g.
func isImage(g api.Geometry, x api.Image) bool {
	if x.Zone < 0 || x.Zone >= g.Zones {
		return false
	}
	if x.What != 255 {
		return x.What >= -1 && x.What < g.Data && len(x.Bytes) == 8
	}
	for i := range x.Bytes {
		if i%9 == 8 && x.Bytes[i] > 1 {
			return false
		}
	}
	return len(x.Bytes) == 9*g.Data+9 && x.Bytes[len(x.Bytes)-1] == 0
}

// isLog tells whether l is a valid log for the geometry and the anchor, both of which are valid: each transaction by itself, with what the
// anchor and all those ahead of it say.
func isLog(g api.Geometry, a api.Anchor, l []api.Txn) bool {
	records := 0
	for i, t := range l {
		slots := records
		records += len(t.Images) + 1
		switch {
		case t.Seq != a.Seq+i || t.Seq > 4294967295:
			return false
		case t.Pos != (a.Pos+slots)%g.Slots:
			return false
		case t.N != len(t.Images)+1 || t.N < 2:
			return false
		case slices.ContainsFunc(t.Images, func(x api.Image) bool { return !isImage(g, x) }):
			return false
		}
	}
	return records <= g.Slots
}

// wantUsed is the sum of all N that count.
func wantUsed(l []api.Txn) (n int) {
	for _, t := range l {
		for k := range 31 {
			if k == t.N {
				n += k
			}
		}
	}
	return n
}

// wantNext is the slot behind all records of a valid log, and the number behind its last one.
func wantNext(g api.Geometry, a api.Anchor, l []api.Txn) (pos, seq int) {
	pos, seq = a.Pos, a.Seq
	for _, t := range l {
		seq = t.Seq + 1
		for range t.N {
			if pos++; pos == g.Slots {
				pos = 0
			}
		}
	}
	return pos, seq
}

// wantWho goes through the slots of each transaction, record by record, for a valid geometry.
func wantWho(g api.Geometry, l []api.Txn, slot int) (at, record int, ok bool) {
	for i, t := range l {
		if t.Pos < 0 || t.Pos >= g.Slots || t.N < 0 || t.N > g.Slots {
			continue
		}
		s := t.Pos
		for k := range t.N {
			if s == slot {
				return i, k, true
			}
			if s++; s == g.Slots {
				s = 0
			}
		}
	}
	return 0, 0, false
}

// wantNeed looks for each block and for each zone of a valid geometry in the list.
func wantNeed(g api.Geometry, lbas []int) (int, api.Errno) {
	n, known := 0, 0
	for zone := range g.Zones {
		blocks := 0
		for at := range g.Data {
			for _, lba := range lbas {
				if lba == zone*g.Data+at {
					blocks++
				}
			}
			if slices.Contains(lbas, zone*g.Data+at) {
				known++
			}
		}
		if n += blocks; blocks > 0 {
			n += 2
		}
	}
	switch {
	case known != len(lbas):
		return 0, api.ErrBadLBA
	case n == 0:
		return 0, api.OK
	}
	return n + 1, api.OK
}

// Calls, held against what they are to answer.

// isRight tells an error unless Check and Next answer of l that it is a valid log, or that it is not, and all other functions as the second
// program does, for a geometry and an anchor that are valid.
func isRight(t *testing.T, g api.Geometry, a api.Anchor, l []api.Txn, valid bool) {
	t.Helper()
	if isLog(g, a, l) != valid {
		t.Fatalf("the test says of %+v, of %+v and of %+v: valid is %v", g, a, l, valid)
	}
	counts(t, g, l)
	if !valid {
		refuses(t, g, a, l)
		return
	}
	if e := ring.Check(g, a, l); e != api.OK {
		t.Fatalf("Check(%+v, %+v, %+v) = %v", g, a, l, e)
	}
	apart(t, g, l)
	pos, seq := wantNext(g, a, l)
	if seq > 4294967295 {
		nextFails(t, g, a, l)
		return
	}
	if p, s, e := ring.Next(g, a, l); p != pos || s != seq || e != api.OK {
		t.Fatalf("Next(%+v, %+v, %+v) = %d, %d, %v, want %d, %d", g, a, l, p, s, e, pos, seq)
	}
}

// refuses tells an error unless Check and Next answer ErrArg, and nothing beside it.
func refuses(t *testing.T, g api.Geometry, a api.Anchor, l []api.Txn) {
	t.Helper()
	if e := ring.Check(g, a, l); e != api.ErrArg {
		t.Fatalf("Check(%+v, %+v, %+v) = %v", g, a, l, e)
	}
	nextFails(t, g, a, l)
}

// nextFails tells an error unless Next answers ErrArg, and nothing beside it.
func nextFails(t *testing.T, g api.Geometry, a api.Anchor, l []api.Txn) {
	t.Helper()
	if pos, seq, e := ring.Next(g, a, l); pos != 0 || seq != 0 || e != api.ErrArg {
		t.Fatalf("Next(%+v, %+v, %+v) = %d, %d, %v, not ErrArg alone", g, a, l, pos, seq, e)
	}
}

// counts tells an error unless Used, and Who of each slot, of a valid geometry, answer of l as the second program does.
func counts(t *testing.T, g api.Geometry, l []api.Txn) {
	t.Helper()
	if n := ring.Used(l); n != wantUsed(l) {
		t.Fatalf("Used(%+v) = %d, want %d", l, n, wantUsed(l))
	}
	for slot := -2; slot <= g.Slots+2; slot++ {
		who(t, g, l, slot)
	}
}

// who tells an error unless Who answers of this slot of a valid geometry as the second program does.
func who(t *testing.T, g api.Geometry, l []api.Txn, slot int) {
	t.Helper()
	at, record, ok := ring.Who(g, l, slot)
	if i, k, want := wantWho(g, l, slot); at != i || record != k || ok != want {
		t.Fatalf("Who(%+v, %+v, %d) = %d, %d, %v, want %d, %d, %v", g, l, slot, at, record, ok, i, k, want)
	}
}

// nobody tells an error unless Who answers that there is none.
func nobody(t *testing.T, g api.Geometry, l []api.Txn, slot int) {
	t.Helper()
	if at, record, ok := ring.Who(g, l, slot); at != 0 || record != 0 || ok {
		t.Fatalf("Who(%+v, %+v, %d) = %d, %d, %v, not false alone", g, l, slot, at, record, ok)
	}
}

// apart tells an error unless each slot is occupied by one transaction of the valid log l at most, and as many slots are occupied as Used says.
func apart(t *testing.T, g api.Geometry, l []api.Txn) {
	t.Helper()
	occupied := 0
	for slot := range g.Slots {
		owners := 0
		for i := range l {
			if _, _, ok := ring.Who(g, l[i:i+1], slot); ok {
				owners++
			}
		}
		if owners > 1 {
			t.Fatalf("%+v: %d transactions of %+v occupy the slot %d", g, owners, l, slot)
		}
		occupied += owners
	}
	if occupied != ring.Used(l) || occupied > g.Slots {
		t.Fatalf("%+v: %d slots are occupied by %+v, of which Used is %d", g, occupied, l, ring.Used(l))
	}
}

// needs tells an error unless Need answers of these blocks of a valid geometry as the second program does.
func needs(t *testing.T, g api.Geometry, lbas []int) {
	t.Helper()
	want, e := wantNeed(g, lbas)
	if n, f := ring.Need(g, lbas); n != want || f != e {
		t.Fatalf("Need(%+v, %v) = %d, %v, want %d, %v", g, lbas, n, f, want, e)
	}
}

// needFails tells an error unless Need answers the error want, and nothing beside it.
func needFails(t *testing.T, g api.Geometry, lbas []int, want api.Errno) {
	t.Helper()
	if n, e := ring.Need(g, lbas); n != 0 || e != want {
		t.Fatalf("Need(%+v, %v) = %d, %v, not the error %v alone", g, lbas, n, e, want)
	}
}

// Logs to ask of.

// from is a valid anchor whose log begins with the number seq in the slot pos.
func from(t testing.TB, g api.Geometry, pos, seq int) api.Anchor {
	t.Helper()
	a, e := anchor.First(g, "né")
	if e != api.OK {
		t.Fatal(e)
	}
	a.Pos, a.Seq, a.Last = pos, seq, seq-1
	return a
}

// imageOf is a valid image, of the blocks, of the parity and of the table of each zone in turn.
func imageOf(g api.Geometry, n int) api.Image {
	x := api.Image{Zone: n % g.Zones, What: n%(g.Data+2) - 1, Bytes: bytes.Repeat([]byte{byte(n)}, 8)}
	if x.What == g.Data {
		x.What, x.Bytes = 255, make([]byte, 9*g.Data+9)
		x.Bytes[0], x.Bytes[8] = byte(n), 1
	}
	return x
}

// logOf is the log whose transactions have these N, of which none is less than 1, as it is to be behind the anchor.
func logOf(g api.Geometry, a api.Anchor, ns ...int) (l []api.Txn) {
	records := 0
	for i, n := range ns {
		t := api.Txn{Seq: a.Seq + i, Pos: (a.Pos + records) % g.Slots, N: n}
		for k := range n - 1 {
			t.Images = append(t.Images, imageOf(g, records+k))
		}
		l = append(l, t)
		records += n
	}
	return l
}

// clone is l in other memory.
func clone(l []api.Txn) []api.Txn {
	l = slices.Clone(l)
	for i := range l {
		l[i].Images = slices.Clone(l[i].Images)
		for k := range l[i].Images {
			l[i].Images[k].Bytes = bytes.Clone(l[i].Images[k].Bytes)
		}
	}
	return l
}

// parts are numbers from 2 on whose sum is n, of which none is greater than most, in some order.
func parts(random *rand.Rand, n, most int) (l []int) {
	for n > 0 {
		k := 2 + random.Intn(most-1)
		if k > n || n-k == 1 {
			k = n
		}
		l = append(l, k)
		n -= k
	}
	return l
}

// sizes are the N of logs with so many records: one transaction, as many as there can be, two, and some.
func sizes(random *rand.Rand, n int) [][]int {
	most := slices.Repeat([]int{2}, n/2)
	most[len(most)-1] += n % 2
	l := [][]int{{n}, most, parts(random, n, 4), parts(random, n, n)}
	if n >= 4 {
		l = append(l, []int{2, n - 2}, []int{n - 2, 2}, []int{n / 2, n - n/2})
	}
	return l
}

// starts are the first slot, some in the middle and the last one.
func starts(g api.Geometry) []int {
	return []int{0, 1, g.Slots / 2, g.Slots - 2, g.Slots - 1}
}

// each calls f with valid logs in some geometries, with their anchors: of no, of one and of more transactions.
func each(t *testing.T, seed int64, f func(random *rand.Rand, g api.Geometry, a api.Anchor, l []api.Txn)) {
	random := rand.New(rand.NewSource(seed))
	for _, g := range someGeometries() {
		for _, pos := range starts(g) {
			for _, seq := range []int{1, api.MaxNum - 50} {
				a := from(t, g, pos, seq)
				f(random, g, a, nil)
				for _, n := range []int{2, 3, 5, 9, g.Slots - 1, g.Slots} {
					for _, ns := range sizes(random, n) {
						f(random, g, a, logOf(g, a, ns...))
					}
				}
			}
		}
	}
}

// eachTxn calls f with copies of valid logs, and with each index of a transaction of them.
func eachTxn(t *testing.T, seed int64, f func(random *rand.Rand, g api.Geometry, a api.Anchor, l []api.Txn, i int)) {
	each(t, seed, func(random *rand.Rand, g api.Geometry, a api.Anchor, l []api.Txn) {
		for i := range l {
			f(random, g, a, clone(l), i)
		}
	})
}

// farOut are numbers that are no slot, no N and no Seq, such as a conversion or an overflow could make one of among them.
func farOut() []int {
	return []int{-1, -2, -14, -15, -30, -256, math.MinInt32, math.MinInt + 1, math.MinInt, -1 << 32, 1 << 32, 1<<32 + 2, 1 << 62, math.MaxInt - 1, math.MaxInt}
}

// P16.1: the chapter's example: two blocks of one zone need 5 records.
func TestExample(t *testing.T) {
	for _, g := range geometries() {
		if g.Data == 1 {
			continue
		}
		for zone := range g.Zones {
			first := zone * g.Data
			for _, lbas := range [][]int{{first, first + 1}, {first + g.Data - 1, first}} {
				if n, e := ring.Need(g, lbas); n != 5 || e != api.OK {
					t.Fatalf("Need(%+v, %v) = %d, %v", g, lbas, n, e)
				}
			}
		}
	}
}

// P16.1, P16.2: a log by hand, that goes round.
func TestByHand(t *testing.T) {
	g := geo(2, 3, 1, 14, 2)
	a := from(t, g, 11, 9)
	block := api.Image{Zone: 1, What: 2, Bytes: []byte("8 bytes.")}
	parity := api.Image{Zone: 0, What: api.Parity, Bytes: []byte{1, 2, 3, 4, 5, 6, 7, 8}}
	tab := api.Image{Zone: 1, What: 255, Bytes: make([]byte, 36)}
	l := []api.Txn{
		{Seq: 9, Pos: 11, N: 2, Images: []api.Image{block}},
		{Seq: 10, Pos: 13, N: 4, Images: []api.Image{block, parity, tab}},
		{Seq: 11, Pos: 3, N: 3, Images: []api.Image{tab, tab}},
	}
	if e := ring.Check(g, a, l); e != api.OK || ring.Used(l) != 9 {
		t.Error(e, ring.Used(l))
	}
	ends := [][2]int{{11, 9}, {13, 10}, {3, 11}, {6, 12}}
	for n, end := range ends {
		if pos, seq, e := ring.Next(g, a, l[:n]); pos != end[0] || seq != end[1] || e != api.OK {
			t.Errorf("behind %d transactions Next is %d, %d, %v", n, pos, seq, e)
		}
	}
	owners := [][2]int{{1, 1}, {1, 2}, {1, 3}, {2, 0}, {2, 1}, {2, 2}, {}, {}, {}, {}, {}, {0, 0}, {0, 1}, {1, 0}}
	for slot, want := range owners {
		at, record, ok := ring.Who(g, l, slot)
		if isFree := slot >= 6 && slot <= 10; at != want[0] || record != want[1] || ok == isFree {
			t.Errorf("the slot %d has %d, %d, %v", slot, at, record, ok)
		}
	}
	// 5 slots are left.
	full := append(l, api.Txn{Seq: 12, Pos: 6, N: 5, Images: []api.Image{block, block, block, block}})
	if pos, seq, e := ring.Next(g, a, full); pos != 11 || seq != 13 || e != api.OK {
		t.Error(pos, seq, e)
	}
	full[3].N, full[3].Images = 6, append(full[3].Images, block)
	refuses(t, g, a, full)
	// Each transaction fits by itself, and 2 more do not.
	refuses(t, g, a, append(l, logOf(g, from(t, g, 6, 12), 2, 2, 2)...))
}

// P16.1, P16.2: logs of each number of records up to one more than there are slots, from each slot on.
func TestLogs(t *testing.T) {
	random := rand.New(rand.NewSource(1))
	for _, g := range someGeometries() {
		for pos := range g.Slots {
			a := from(t, g, pos, 1+random.Intn(1000))
			isRight(t, g, a, nil, true)
			isRight(t, g, a, []api.Txn{}, true)
			for n := 2; n <= g.Slots; n++ {
				for _, ns := range sizes(random, n) {
					isRight(t, g, a, logOf(g, a, ns...), true)
				}
			}
			for _, ns := range sizes(random, g.Slots+1) {
				isRight(t, g, a, logOf(g, a, ns...), false)
			}
		}
	}
}

// P16.1, P16.2: logs with one slot left, with none left, and with one record too many, in each geometry.
func TestLogsOfEachGeometry(t *testing.T) {
	random := rand.New(rand.NewSource(2))
	for _, g := range geometries() {
		for _, pos := range starts(g) {
			a := from(t, g, pos, 1+random.Intn(1000))
			isRight(t, g, a, nil, true)
			for n := g.Slots - 1; n <= g.Slots+1; n++ {
				isRight(t, g, a, logOf(g, a, parts(random, n, 5)...), n <= g.Slots)
			}
		}
	}
}

// P16.1: the sum of all N is at most Slots, however far it goes beyond.
func TestTooManyRecords(t *testing.T) {
	for _, g := range someGeometries() {
		a := from(t, g, 3, 5)
		for _, n := range []int{g.Slots + 1, g.Slots + 2, 2 * g.Slots, 2*g.Slots + 1, 31, 62, 255, 256, 257, 258, 1 << 12} {
			isRight(t, g, a, logOf(g, a, n), n <= g.Slots)
			isRight(t, g, a, logOf(g, a, 2, n), n+2 <= g.Slots)
			isRight(t, g, a, logOf(g, a, slices.Repeat([]int{2}, n)...), false)
			isRight(t, g, a, logOf(g, a, append(slices.Repeat([]int{2}, g.Slots/2), n)...), false)
		}
	}
}

// P16.1: the first number is that of the anchor.
func TestFirstSeq(t *testing.T) {
	each(t, 3, func(_ *rand.Rand, g api.Geometry, a api.Anchor, l []api.Txn) {
		isRight(t, g, a, l, true)
		for _, by := range []int{-1, 1, 2, -2, -7, 1 << 32, -1 << 32} {
			moved := clone(l)
			for i := range moved {
				moved[i].Seq += by
			}
			isRight(t, g, a, moved, len(l) == 0)
		}
	})
}

// P16.1: each number is greater by one than the one ahead of it: none is left out, none stands twice.
func TestSeqs(t *testing.T) {
	eachTxn(t, 4, func(_ *rand.Rand, g api.Geometry, a api.Anchor, l []api.Txn, i int) {
		was := l[i].Seq
		for _, n := range append(farOut(), 0, was-2, was-1, was+1, was+2, was+len(l), a.Seq-1, a.Seq, a.Last, api.MaxNum, api.MaxNum+1) {
			l[i].Seq = n
			isRight(t, g, a, l, n == was)
		}
		// The number that stands there is left out, and what follows goes on from the next one.
		for k := i; k < len(l); k++ {
			l[k].Seq = a.Seq + k + 1
		}
		isRight(t, g, a, l, false)
		// It stands twice.
		for k := i; k < len(l); k++ {
			l[k].Seq = a.Seq + k - 1
		}
		isRight(t, g, a, l, false)
	})
}

// P16.1: the first number is the anchor's Seq, not its Last or what is behind that.
func TestLastDoesNotMatter(t *testing.T) {
	for _, g := range someGeometries() {
		for _, last := range []int{6, 7, 8, 9, 100, api.MaxNum} {
			a := from(t, g, 2, 7)
			a.Last = last
			l := logOf(g, a, 2, 3, 4)
			isRight(t, g, a, nil, true)
			isRight(t, g, a, l, true)
			later := a
			later.Seq = 9
			isRight(t, g, a, logOf(g, later, 2, 3, 4), false)
		}
	}
}

// P16.1: no number is greater than MaxNum. Behind MaxNum nothing is next.
func TestMaxNum(t *testing.T) {
	for _, g := range someGeometries() {
		for _, pos := range starts(g) {
			for n := range 7 {
				for seq := api.MaxNum - 8; seq <= api.MaxNum; seq++ {
					a := from(t, g, pos, seq)
					l := logOf(g, a, slices.Repeat([]int{2}, n)...)
					last := seq + n - 1
					isRight(t, g, a, l, last <= api.MaxNum)
					_, next, e := ring.Next(g, a, l)
					if last >= api.MaxNum && e != api.ErrArg || last < api.MaxNum && (e != api.OK || next != last+1) {
						t.Fatalf("behind the number %d Next is %d, %v", last, next, e)
					}
				}
			}
		}
	}
}

// P16.1: the first Pos is that of the anchor, and each next one is behind what is ahead of it.
func TestPos(t *testing.T) {
	eachTxn(t, 5, func(_ *rand.Rand, g api.Geometry, a api.Anchor, l []api.Txn, i int) {
		was := l[i].Pos
		for pos := -2; pos <= g.Slots+2; pos++ {
			l[i].Pos = pos
			isRight(t, g, a, l, pos == was)
		}
		for _, pos := range append(farOut(), was-g.Slots, was+g.Slots, was+256, was+1<<32, was-1<<32) {
			l[i].Pos = pos
			isRight(t, g, a, l, false)
		}
		// All from there on are one off.
		for _, by := range []int{1, g.Slots - 1} {
			moved := logOf(g, a, ns(l)...)
			for k := i; k < len(l); k++ {
				moved[k].Pos = (moved[k].Pos + by) % g.Slots
			}
			isRight(t, g, a, moved, false)
		}
		// Not modulo Slots.
		straight := logOf(g, a, ns(l)...)
		goesRound := straight[i].Pos < a.Pos
		for k := i; k < len(l) && goesRound; k++ {
			straight[k].Pos += g.Slots
		}
		isRight(t, g, a, straight, !goesRound)
	})
}

// ns are the N of the log.
func ns(l []api.Txn) (ns []int) {
	for _, t := range l {
		ns = append(ns, t.N)
	}
	return ns
}

// P16.1: a Pos equal to Slots, or the slot before the first one, is none, though it is slot 0 or the last one modulo Slots.
func TestPosAtTheEdge(t *testing.T) {
	for _, g := range someGeometries() {
		a := from(t, g, g.Slots-2, 4)
		l := logOf(g, a, 2, 3)
		isRight(t, g, a, l, true)
		l[1].Pos = g.Slots
		isRight(t, g, a, l, false)
		a = from(t, g, g.Slots-3, 4)
		l = logOf(g, a, 2, 3)
		isRight(t, g, a, l, true)
		l[1].Pos = -1
		isRight(t, g, a, l, false)
	}
}

// P16.1: N is one more than the number of the images, and all slots between are occupied.
func TestN(t *testing.T) {
	eachTxn(t, 6, func(_ *rand.Rand, g api.Geometry, a api.Anchor, l []api.Txn, i int) {
		was := l[i].N
		for n := -2; n <= g.Slots+2; n++ {
			l[i].N = n
			isRight(t, g, a, l, n == was)
		}
		for _, n := range append(farOut(), was+256, was+1<<32, was-1<<32, -was) {
			l[i].N = n
			isRight(t, g, a, l, false)
		}
	})
}

// P16.1: what follows fits a wrong N, and is no valid log all the same.
func TestNThatWhatFollowsFits(t *testing.T) {
	for _, g := range someGeometries() {
		for _, pos := range starts(g) {
			a := from(t, g, pos, 4)
			for _, n := range []int{0, 1, 2, 3, 5, 6} {
				for i := range 3 {
					l := logOf(g, a, 4, 4, 4)
					l[i].N = n
					for k := i + 1; k < 3; k++ {
						l[k].Pos = (l[k].Pos + n - 4 + g.Slots) % g.Slots
					}
					isRight(t, g, a, l, false)
				}
			}
		}
	}
}

// P16.1: N is at least 2: a transaction without images is none, whether its N is 1 or 0 or another.
func TestNoImages(t *testing.T) {
	for _, g := range someGeometries() {
		for _, pos := range starts(g) {
			a := from(t, g, pos, 4)
			for i := range 3 {
				for _, n := range []int{-1, 0, 1, 2} {
					ns := []int{2, 3, 2}
					ns[i] = 1
					l := logOf(g, a, ns...)
					isRight(t, g, a, l, false)
					l[i].N = n
					for k := i + 1; k < 3; k++ {
						l[k].Pos = (l[k].Pos + n - 1 + g.Slots) % g.Slots
					}
					isRight(t, g, a, l, false)
					l[i].Images = []api.Image{}
					isRight(t, g, a, l, false)
				}
			}
		}
	}
}

// P16.1: numbers N that overflow when they are added up.
func TestSumsThatOverflow(t *testing.T) {
	for _, g := range someGeometries() {
		a := from(t, g, 0, 4)
		for _, ns := range [][2]int{{math.MaxInt, math.MaxInt}, {math.MinInt, math.MinInt}, {math.MaxInt, math.MinInt}, {1 << 62, 1 << 62}, {math.MaxInt, 3}, {3, math.MaxInt}, {-3, 3}, {math.MinInt, 2}} {
			l := logOf(g, a, 3, 3)
			l[0].N, l[1].N = ns[0], ns[1]
			for pos := range g.Slots {
				l[1].Pos = pos
				isRight(t, g, a, l, false)
			}
			l = append(l, l...)
			isRight(t, g, a, l, false)
		}
	}
}

// P16.1: an image that has one more or one fewer than N says, at the beginning, in the middle and at the end of its list.
func TestNumberOfImages(t *testing.T) {
	eachTxn(t, 7, func(_ *rand.Rand, g api.Geometry, a api.Anchor, l []api.Txn, i int) {
		images := l[i].Images
		for _, wrong := range [][]api.Image{images[1:], images[:len(images)-1], append(slices.Clone(images), images[0]), slices.Repeat(images, 2), nil} {
			l[i].Images = wrong
			isRight(t, g, a, l, false)
		}
		l[i].Images = append(slices.Clone(images), api.Image{Zone: -1})[:len(images)]
		isRight(t, g, a, l, true)
	})
}

// wrongImages are images that are not valid, of a geometry with these zones and blocks.
func wrongImages(g api.Geometry) []api.Image {
	block, tab := make([]byte, 8), make([]byte, 9*g.Data+9)
	lost := make([]byte, len(tab))
	lost[len(lost)-1] = 1
	two := make([]byte, len(tab))
	two[8] = 2
	return []api.Image{
		{}, {Zone: -1, Bytes: block}, {Zone: g.Zones, Bytes: block}, {Zone: math.MinInt, Bytes: block}, {Zone: math.MaxInt, Bytes: block},
		{What: -2, Bytes: block}, {What: g.Data, Bytes: block}, {What: 254, Bytes: block}, {What: 255, Bytes: block}, {What: 256, Bytes: block},
		{What: -1, Bytes: block[:7]}, {What: 0, Bytes: append(block, 0)}, {What: -1, Bytes: tab}, {What: 255},
		{What: 255, Bytes: tab[1:]}, {What: 255, Bytes: append(slices.Clone(tab), 0)}, {What: 255, Bytes: lost}, {What: 255, Bytes: two},
		{Zone: g.Zones, What: 255, Bytes: tab}, {Zone: -1, What: -1, Bytes: block},
	}
}

// P16.1: each image is valid, each one of each transaction.
func TestWrongImages(t *testing.T) {
	for _, g := range someGeometries() {
		for _, pos := range starts(g) {
			a := from(t, g, pos, 4)
			l := logOf(g, a, 2, 4, g.Slots-8, 2)
			isRight(t, g, a, l, true)
			for i := range l {
				for k, was := range l[i].Images {
					for _, wrong := range wrongImages(g) {
						l[i].Images[k] = wrong
						isRight(t, g, a, l, false)
					}
					l[i].Images[k] = was
				}
			}
			isRight(t, g, a, l, true)
		}
	}
}

// P16.1: a log of another geometry is one of this if it has the slots, and its images are valid in it.
func TestOtherGeometries(t *testing.T) {
	for _, other := range someGeometries() {
		l := logOf(other, from(t, other, other.Slots-3, 4), 5, 9)
		for _, g := range geometries() {
			a := from(t, g, (other.Slots-3)%g.Slots, 4)
			isRight(t, g, a, l, isLog(g, a, l))
			if e := ring.Check(g, a, l); e == api.OK && (g.Slots != other.Slots || g.Data != other.Data || g.Zones < other.Zones) {
				t.Fatalf("a log of %+v is one of %+v", other, g)
			}
		}
	}
}

// wrongAnchors are a with each of its numbers beyond its bounds, with another label, and with other Homes.
func wrongAnchors(g api.Geometry, a api.Anchor) (l []api.Anchor) {
	change := func(number func(a *api.Anchor) *int, wrong ...int) {
		for _, n := range append(wrong, -1, math.MinInt, math.MaxInt) {
			b := a
			*number(&b) = n
			l = append(l, b)
		}
	}
	change(func(a *api.Anchor) *int { return &a.Gen }, api.MaxNum+1)
	change(func(a *api.Anchor) *int { return &a.Epoch }, api.MaxNum+1)
	change(func(a *api.Anchor) *int { return &a.Pos }, g.Slots, g.Slots+1, 30)
	change(func(a *api.Anchor) *int { return &a.Seq }, 0, a.Last+2, api.MaxNum+1)
	change(func(a *api.Anchor) *int { return &a.Last }, a.Seq-2, api.MaxNum+1)
	for _, text := range []string{"seven r", "\xff"} {
		b := a
		b.Label = text
		l = append(l, b)
	}
	for _, homes := range [][]api.Home{nil, a.Homes[1:], append(slices.Clone(a.Homes), a.Homes[0])} {
		b := a
		b.Homes = homes
		l = append(l, b)
	}
	wrongHome := func(change func(h *api.Home)) {
		for zone := range a.Homes {
			b := a
			b.Homes = slices.Clone(a.Homes)
			b.Homes[zone].Places = slices.Clone(a.Homes[zone].Places)
			change(&b.Homes[zone])
			l = append(l, b)
		}
	}
	wrongHome(func(h *api.Home) { h.Places[0] = h.Places[1] })
	wrongHome(func(h *api.Home) { h.Places[0] = -1 })
	wrongHome(func(h *api.Home) { h.Places = h.Places[1:] })
	wrongHome(func(h *api.Home) { h.Next = g.Data })
	wrongHome(func(h *api.Home) { h.Next = g.Data + g.Spares + 2 })
	wrongHome(func(h *api.Home) { h.Root = api.MaxNum + 1 })
	return l
}

// P16.1, R4: an anchor that is not valid is ErrArg, with a log that would fit it, with none and with a wrong one.
func TestWrongAnchors(t *testing.T) {
	for _, g := range someGeometries() {
		a := from(t, g, 3, 4)
		for _, wrong := range wrongAnchors(g, a) {
			if anchor.Check(g, wrong) == api.OK {
				t.Fatalf("%+v is valid", wrong)
			}
			fitting := logOf(g, a, 2, 3)
			fitting[0].Pos, fitting[0].Seq = wrong.Pos, wrong.Seq
			for _, l := range [][]api.Txn{nil, {}, logOf(g, a, 2, 3), fitting, fitting[:1], {{}}} {
				refuses(t, g, wrong, l)
			}
		}
		refuses(t, g, api.Anchor{}, nil)
	}
}

// P16.1: other valid anchors with the same Pos and Seq have the same valid logs.
func TestOtherAnchors(t *testing.T) {
	for _, g := range someGeometries() {
		a := from(t, g, 3, 4)
		l := logOf(g, a, 2, 3)
		for _, n := range []int{0, 1, 4, api.MaxNum} {
			b := a
			b.Gen, b.Epoch, b.Label, b.Homes = n, n, "", slices.Clone(a.Homes)
			b.Homes[0].Root = n
			b.Last = max(n, 3)
			isRight(t, g, b, l, true)
			b.Pos = 4
			isRight(t, g, b, l, false)
		}
	}
}

// P16.1, R4: a geometry that is not valid is the error of all functions that have one, ahead of all else, and for Who there is none.
func TestWrongGeometries(t *testing.T) {
	for _, base := range someGeometries() {
		a := from(t, base, 3, 4)
		l := logOf(base, a, 2, 3)
		for _, g := range wrongGeometries(base) {
			for _, a := range []api.Anchor{a, {}} {
				refuses(t, g, a, nil)
				refuses(t, g, a, l)
				refuses(t, g, a, []api.Txn{{}})
			}
			for slot := -1; slot <= 31; slot++ {
				nobody(t, g, l, slot)
				nobody(t, g, []api.Txn{{Pos: 0, N: 14}}, slot)
			}
			for _, lbas := range [][]int{nil, {}, {0}, {0, 0}, {-1}, {99}, {math.MaxInt}} {
				needFails(t, g, lbas, api.ErrArg)
			}
		}
	}
}

// P16.1: Used is the sum of all N from 0 to MaxSlots of any list, whatever else stands in it.
func TestUsed(t *testing.T) {
	for _, test := range []struct{ n, want int }{
		{-1, 0}, {0, 0}, {1, 1}, {2, 2}, {14, 14}, {29, 29}, {30, 30}, {31, 0}, {32, 0}, {255, 0}, {256, 0}, {258, 0}, {1<<32 + 2, 0}, {-1 << 32, 0},
		{math.MinInt32, 0}, {math.MinInt, 0}, {math.MinInt + 1, 0}, {1 << 62, 0}, {math.MaxInt - 1, 0}, {math.MaxInt, 0},
	} {
		for _, x := range []api.Txn{{N: test.n}, {N: test.n, Seq: -1, Pos: math.MinInt}, {N: test.n, Images: make([]api.Image, 5)}} {
			if n := ring.Used([]api.Txn{x}); n != test.want {
				t.Errorf("Used of N = %d is %d", test.n, n)
			}
			if n := ring.Used([]api.Txn{x, {N: 7}, x, {N: 30}, x}); n != 3*test.want+37 {
				t.Errorf("Used of N = %d and others is %d", test.n, n)
			}
		}
	}
	if n := ring.Used(nil) + ring.Used([]api.Txn{}) + ring.Used(make([]api.Txn, 100)); n != 0 {
		t.Error(n)
	}
	if n := ring.Used(slices.Repeat([]api.Txn{{N: 30}}, 1<<16)); n != 30<<16 {
		t.Error(n)
	}
	if n := ring.Used(append([]api.Txn{{N: 4}}, api.Txn{N: 5})[:1]); n != 4 {
		t.Error(n)
	}
}

// P16.1: there is no such slot below nought, nor from Slots on, though it is one modulo Slots.
func TestSlotsThatThereAreNot(t *testing.T) {
	each(t, 8, func(_ *rand.Rand, g api.Geometry, _ api.Anchor, l []api.Txn) {
		for _, slot := range append(farOut(), g.Slots, g.Slots+1, 2*g.Slots, -g.Slots, 256, 1<<32+1) {
			nobody(t, g, l, slot)
			nobody(t, g, []api.Txn{{Pos: 0, N: g.Slots}}, slot)
			nobody(t, g, []api.Txn{{Pos: slot, N: g.Slots}}, slot)
		}
	})
}

// P16.1: transactions whose Pos or N is beyond its bounds are skipped: those behind them are found.
func TestSkipped(t *testing.T) {
	for _, g := range someGeometries() {
		var wrong []api.Txn
		for _, n := range append(farOut(), g.Slots+1, 31, 60) {
			wrong = append(wrong, api.Txn{Pos: 3, N: n}, api.Txn{Pos: n, N: 5}, api.Txn{Pos: n, N: g.Slots}, api.Txn{Pos: n, N: n})
		}
		wrong = append(wrong, api.Txn{Pos: g.Slots, N: g.Slots}, api.Txn{Pos: g.Slots, N: 1}, api.Txn{Pos: 3, N: 0})
		for _, x := range wrong {
			for slot := range g.Slots {
				nobody(t, g, []api.Txn{x}, slot)
				nobody(t, g, []api.Txn{x, x}, slot)
				l := []api.Txn{x, {Pos: slot, N: 1}, x}
				if at, record, ok := ring.Who(g, l, slot); at != 1 || record != 0 || !ok {
					t.Fatalf("Who(%+v, %+v, %d) = %d, %d, %v", g, l, slot, at, record, ok)
				}
			}
		}
		counts(t, g, wrong)
	}
}

// P16.1: Who of one transaction of each Pos and each N, of each slot: it goes round, and an N of Slots is all slots.
func TestWhoOfOne(t *testing.T) {
	for slots := 14; slots <= 30; slots++ {
		g := geo(2, 3, 1, slots, 2)
		for pos := -2; pos <= slots+2; pos++ {
			for n := -2; n <= slots+2; n++ {
				counts(t, g, []api.Txn{{Pos: pos, N: n}})
			}
		}
		for slot := range slots {
			at, record, ok := ring.Who(g, []api.Txn{{Pos: slot, N: slots}, {Pos: slot, N: 1}}, (slot+slots-1)%slots)
			if at != 0 || record != slots-1 || !ok {
				t.Fatalf("%d slots: the one ahead of %d has %d, %d, %v", slots, slot, at, record, ok)
			}
		}
	}
}

// P16.1: of two transactions that overlap the first one is told.
func TestOverlap(t *testing.T) {
	for _, g := range someGeometries() {
		for first := range g.Slots {
			for second := range g.Slots {
				counts(t, g, []api.Txn{{Pos: first, N: 4}, {Pos: second, N: 6}})
				counts(t, g, []api.Txn{{Pos: first, N: g.Slots}, {Pos: second, N: 6}})
			}
			l := []api.Txn{{Seq: 9, Pos: first, N: 4}, {Seq: 3, Pos: first, N: 5}, {Pos: first, N: 5}}
			at, record, ok := ring.Who(g, l, (first+3)%g.Slots)
			next, behind, found := ring.Who(g, l, (first+4)%g.Slots)
			if at != 0 || record != 3 || !ok || next != 1 || behind != 4 || !found {
				t.Fatal(at, record, ok, next, behind, found)
			}
		}
	}
}

// P16.1: Who and Used of lists that are any.
func TestAnyLists(t *testing.T) {
	random := rand.New(rand.NewSource(9))
	all := geometries()
	number := func() int {
		if random.Intn(6) == 0 {
			return farOut()[random.Intn(len(farOut()))]
		}
		return random.Intn(34) - 2
	}
	for range 20000 {
		l := make([]api.Txn, random.Intn(8))
		for i := range l {
			l[i] = api.Txn{Seq: number(), Pos: number(), N: number(), Images: make([]api.Image, random.Intn(3))}
		}
		counts(t, all[random.Intn(len(all))], l)
	}
}

// P16.2: in a row of commits and checkpoints no record overwrites one of the log, and each is found in the slot where it was written.
func TestRecordsInSlots(t *testing.T) {
	random := rand.New(rand.NewSource(10))
	for _, g := range someGeometries() {
		a := from(t, g, g.Slots-1, 1)
		var l []api.Txn
		written := make([]api.Rec, g.Slots)
		for range 200 {
			n := 2 + random.Intn(6)
			for ring.Used(l)+n > g.Slots {
				a.Seq, a.Pos = l[0].Seq+1, (l[0].Pos+l[0].N)%g.Slots
				a.Last, l = a.Seq-1, l[1:]
			}
			pos, seq, e := ring.Next(g, a, l)
			next := api.Txn{Seq: seq, Pos: pos, N: n, Images: logOf(g, a, n)[0].Images}
			records, f := rec.Txn(g, seq, 5, next.Images)
			if e != api.OK || f != api.OK {
				t.Fatal(e, f)
			}
			for k, r := range records {
				slot := (pos + k) % g.Slots
				nobody(t, g, l, slot)
				written[slot] = r
			}
			l = append(l, next)
			isRight(t, g, a, l, true)
			inSlots(t, g, l, written)
		}
	}
}

// inSlots tells an error unless in each slot there is the record of the log that Who names.
func inSlots(t *testing.T, g api.Geometry, l []api.Txn, written []api.Rec) {
	t.Helper()
	for slot, r := range written {
		at, record, ok := ring.Who(g, l, slot)
		if ok && (r.Seq != l[at].Seq || r.At != record || r.Of != l[at].N) {
			t.Fatalf("the slot %d has the record %d of %+v, but there is %+v", slot, record, l[at], r)
		}
	}
}

// P16.1: Need by hand.
func TestNeedByHand(t *testing.T) {
	small, greatest := geo(2, 3, 1, 14, 2), geo(4, 4, 2, 30, 3)
	for _, test := range []struct {
		g    api.Geometry
		lbas []int
		want int
	}{
		{small, nil, 0}, {small, []int{}, 0}, {small, []int{0}, 4}, {small, []int{5}, 4}, {small, []int{0, 1}, 5}, {small, []int{0, 1, 2}, 6},
		{small, []int{2, 3}, 7}, {small, []int{3, 2}, 7}, {small, []int{0, 3, 1}, 8}, {small, []int{5, 4, 3, 2, 1, 0}, 11},
		{geo(1, 1, 0, 14, 1), []int{0}, 4}, {geo(4, 1, 0, 14, 1), []int{3, 1, 0, 2}, 13},
		{greatest, []int{0, 4, 8, 12}, 13}, {greatest, []int{15, 0}, 7}, {greatest, []int{12, 13, 14, 15}, 7},
		{greatest, []int{0, 1, 2, 3, 4, 5, 6, 7, 8, 9, 10, 11, 12, 13, 14, 15}, 25},
	} {
		if n, e := ring.Need(test.g, test.lbas); n != test.want || e != api.OK {
			t.Errorf("Need(%+v, %v) = %d, %v, want %d", test.g, test.lbas, n, e, test.want)
		}
		needs(t, test.g, test.lbas)
	}
}

// P16.1: each set of blocks of each small volume, in order, the other way round and in any order.
func TestNeedOfEachSet(t *testing.T) {
	random := rand.New(rand.NewSource(11))
	for zones := 1; zones <= 4; zones++ {
		for data := 1; data <= 4 && zones*data <= 9; data++ {
			g := geo(zones, data, zones%3, 14+data, 1)
			for set := range 1 << (zones * data) {
				var lbas []int
				for lba := range zones * data {
					if set>>lba&1 == 1 {
						lbas = append(lbas, lba)
					}
				}
				needs(t, g, lbas)
				slices.Reverse(lbas)
				needs(t, g, lbas)
				random.Shuffle(len(lbas), func(i, k int) { lbas[i], lbas[k] = lbas[k], lbas[i] })
				needs(t, g, lbas)
			}
		}
	}
}

// P16.1: all blocks, each one, and one more, of each geometry.
func TestNeedOfEachGeometry(t *testing.T) {
	for _, g := range geometries() {
		var all []int
		for lba := range g.Zones * g.Data {
			all = append(all, lba)
			needs(t, g, []int{lba})
			needs(t, g, all)
			needFails(t, g, append(slices.Clone(all), lba), api.ErrBadLBA)
			needFails(t, g, append([]int{lba}, all...), api.ErrBadLBA)
		}
		for _, wrong := range []int{-1, len(all)} {
			needFails(t, g, append(slices.Clone(all), wrong), api.ErrBadLBA)
			needFails(t, g, []int{wrong}, api.ErrBadLBA)
		}
	}
}

// P16.1: no block stands twice, wherever, and each is one that there is.
func TestWrongBlocks(t *testing.T) {
	for _, g := range someGeometries() {
		blocks := g.Zones * g.Data
		for _, wrong := range append(farOut(), -blocks, blocks, blocks+1, 2*blocks, 16, 256, 1<<32+1) {
			needFails(t, g, []int{wrong}, api.ErrBadLBA)
			needFails(t, g, []int{0, wrong}, api.ErrBadLBA)
			needFails(t, g, []int{wrong, 0}, api.ErrBadLBA)
			needFails(t, g, []int{wrong, wrong}, api.ErrBadLBA)
		}
		for first := range blocks {
			needFails(t, g, []int{first, first}, api.ErrBadLBA)
			for second := range blocks {
				needFails(t, g, []int{first, second, first}, api.ErrBadLBA)
				needFails(t, g, []int{second, first, first}, api.ErrBadLBA)
				needFails(t, g, []int{first, first, second}, api.ErrBadLBA)
			}
		}
		needFails(t, g, make([]int, 1<<16), api.ErrBadLBA)
		needs(t, g, make([]int, 1, 99))
	}
}

// P16.1: Need is the number of records of the transaction that package rec makes of the images that package stripe makes.
func TestNeedOfWritings(t *testing.T) {
	for _, g := range someGeometries() {
		for set := 1; set < 1<<(g.Zones*g.Data); set++ {
			var images []api.Image
			var lbas []int
			for zone := range g.Zones {
				var indices []int
				for at := range g.Data {
					if set>>(zone*g.Data+at)&1 == 1 {
						indices, lbas = append(indices, at), append(lbas, zone*g.Data+at)
					}
				}
				if len(indices) > 0 {
					images = append(images, imagesOf(t, g, zone, indices)...)
				}
			}
			records, e := rec.Txn(g, 1, 2, images)
			if n, f := ring.Need(g, lbas); e != api.OK || f != api.OK || n != len(records) {
				t.Fatalf("Need(%+v, %v) = %d, %v, but there are %d records, %v", g, lbas, n, f, len(records), e)
			}
		}
	}
}

// imagesOf are the images of writing these blocks of a zone.
func imagesOf(t *testing.T, g api.Geometry, zone int, indices []int) []api.Image {
	t.Helper()
	x, e := table.First(g)
	if e != api.OK {
		t.Fatal(e)
	}
	blocks := slices.Repeat([][]byte{make([]byte, 8)}, len(indices))
	images, e := stripe.Images(g, zone, x, make([]byte, 8), indices, blocks)
	if e != api.OK {
		t.Fatal(e)
	}
	return images
}

// P16.1, R4: of several errors the first one in the chapter's order is returned. Those of Check and of Next are all ErrArg, so that nothing
// but the ErrArg of the geometry ahead of the ErrBadLBA can be told.
func TestOrderOfErrors(t *testing.T) {
	for _, base := range someGeometries() {
		for wrong := 1; wrong < 32; wrong++ {
			g, a := base, from(t, base, 3, api.MaxNum)
			l, lbas := logOf(g, a, 2), []int{0}
			spoil := func(bit int, spoilt func()) {
				if wrong>>bit&1 == 1 {
					spoilt()
				}
			}
			spoil(0, func() { g.Anchors = 0 })
			spoil(1, func() { a.Last = -1 })
			spoil(2, func() { l[0].Seq-- })
			spoil(3, func() { l = append(l, api.Txn{Seq: api.MaxNum + 1, N: -1}) })
			spoil(4, func() { lbas = []int{0, 99, 0} })
			// The number next to MaxNum is the error of Next alone.
			nextFails(t, g, a, l)
			if wrong != 16 {
				refuses(t, g, a, l)
			}
			if wrong&1 == 1 {
				needFails(t, g, lbas, api.ErrArg)
				nobody(t, g, l, 3)
			} else if wrong>>4 == 1 {
				needFails(t, g, lbas, api.ErrBadLBA)
			}
		}
	}
}

// P16.1, P16.2: valid logs with some things changed, against the second program.
func TestRandom(t *testing.T) {
	random := rand.New(rand.NewSource(12))
	all := geometries()
	for range 30000 {
		g := all[random.Intn(len(all))]
		a := from(t, g, random.Intn(g.Slots), 1+random.Intn(9))
		if random.Intn(4) == 0 {
			a.Seq = api.MaxNum - random.Intn(5)
			a.Last = a.Seq
		}
		l := logOf(g, a, parts(random, 2+random.Intn(g.Slots+1), 9)...)
		for range random.Intn(3) {
			x := &l[random.Intn(len(l))]
			switch random.Intn(6) {
			case 0, 1, 2:
				*[]*int{&x.Seq, &x.Pos, &x.N}[random.Intn(3)] += random.Intn(5) - 2
			case 3:
				x.Images = x.Images[:random.Intn(len(x.Images)+1)]
			case 4:
				x.Images = append(x.Images, imageOf(g, random.Intn(99)))
			case 5:
				x.Images = slices.Clone(append(x.Images, wrongImages(g)[random.Intn(20)]))
				x.Images = x.Images[1:]
			}
		}
		isRight(t, g, a, l, isLog(g, a, l))
	}
}

// P16.1: lists that are long are told from valid logs.
func TestLongLists(t *testing.T) {
	g := geo(4, 4, 2, 30, 3)
	a := from(t, g, 29, 1)
	long := logOf(g, a, slices.Repeat([]int{2}, 1<<16)...)
	refuses(t, g, a, long)
	if n := ring.Used(long); n != 2<<16 {
		t.Error(n)
	}
	images := []api.Txn{{Seq: 1, Pos: 29, N: 1<<20 + 1, Images: slices.Repeat([]api.Image{imageOf(g, 1)}, 1<<20)}}
	refuses(t, g, a, images)
	nobody(t, g, images, 29)
	counts(t, g, long[:30])
}

// spare returns a copy of l with x behind its length, three times.
func spare[T any](l []T, x T) []T {
	return append(slices.Clone(l), x, x, x)[:len(l)]
}

// whole is a copy of l with all memory behind its length too.
func whole[T any](l []T) []T {
	return slices.Clone(l[:cap(l)])
}

// question is what the calls are asked with.
type question struct {
	g    api.Geometry
	a    api.Anchor
	l    []api.Txn
	lbas []int
}

// copied is all that is handed in, what is behind each length too, in other memory.
func (q question) copied() question {
	q.a.Homes, q.l, q.lbas = whole(q.a.Homes), whole(q.l), whole(q.lbas)
	for i := range q.a.Homes {
		q.a.Homes[i].Places = whole(q.a.Homes[i].Places)
	}
	for i := range q.l {
		q.l[i].Images = whole(q.l[i].Images)
		for k := range q.l[i].Images {
			q.l[i].Images[k].Bytes = whole(q.l[i].Images[k].Bytes)
		}
	}
	return q
}

func isSameHome(h, i api.Home) bool {
	return slices.Equal(h.Places, i.Places) && h.Next == i.Next && h.Root == i.Root
}

func isSameImage(x, y api.Image) bool {
	return x.Zone == y.Zone && x.What == y.What && bytes.Equal(x.Bytes, y.Bytes)
}

func isSameTxn(x, y api.Txn) bool {
	return x.Seq == y.Seq && x.Pos == y.Pos && x.N == y.N && slices.EqualFunc(x.Images, y.Images, isSameImage)
}

// isAs tells whether all that is handed in is what was copied.
func (q question) isAs(was question) bool {
	now := q.copied()
	sameLists := slices.EqualFunc(now.l, was.l, isSameTxn) && slices.Equal(now.lbas, was.lbas)
	return sameLists && slices.EqualFunc(now.a.Homes, was.a.Homes, isSameHome)
}

// ask makes all calls, and returns all numbers that they answer.
func (q question) ask() []int {
	pos, seq, e := ring.Next(q.g, q.a, q.l)
	need, f := ring.Need(q.g, q.lbas)
	answers := []int{int(ring.Check(q.g, q.a, q.l)), ring.Used(q.l), pos, seq, int(e), need, int(f)}
	for slot := -1; slot <= 30; slot++ {
		at, record, ok := ring.Who(q.g, q.l, slot)
		answers = append(answers, at, record)
		if ok {
			answers = append(answers, 1)
		}
	}
	return answers
}

// roomy is the question with n behind each length.
func roomy(g api.Geometry, a api.Anchor, l []api.Txn, lbas []int, n int) question {
	for i := range a.Homes {
		a.Homes[i].Places = spare(a.Homes[i].Places, n)
	}
	a.Homes = spare(a.Homes, api.Home{Places: []int{n}, Next: n, Root: n})
	for i := range l {
		for k := range l[i].Images {
			l[i].Images[k].Bytes = spare(l[i].Images[k].Bytes, byte(n))
		}
		l[i].Images = spare(l[i].Images, api.Image{Zone: n, What: n, Bytes: bytes.Repeat([]byte{byte(n)}, 8)})
	}
	more := api.Txn{Seq: a.Seq + len(l), Pos: (a.Pos + ring.Used(l)) % g.Slots, N: n, Images: []api.Image{imageOf(g, n)}}
	return question{g: g, a: a, l: spare(l, more), lbas: spare(lbas, n)}
}

// questions are such as succeed and such as fail. Behind each length is n.
func questions(t *testing.T, n int) (l []question) {
	random := rand.New(rand.NewSource(13))
	for _, g := range someGeometries() {
		for _, pos := range starts(g) {
			for _, size := range []int{2, 5, g.Slots - 1, g.Slots, g.Slots + 1} {
				for _, ns := range sizes(random, size) {
					a := from(t, g, pos, 5)
					right := roomy(g, a, logOf(g, a, ns...), random.Perm(g.Zones * g.Data)[:1], n)
					cut := right
					cut.l, cut.lbas = cut.l[:len(cut.l)-1], cut.lbas[:0]
					wrong := roomy(g, from(t, g, pos, 6), logOf(g, a, ns...), []int{0, 0}, n)
					l = append(l, right, cut, wrong)
				}
			}
		}
	}
	return l
}

// P16.1 under R2: what is handed in stays as it was, its spare capacity too.
func TestMemory(t *testing.T) {
	for _, q := range questions(t, 3) {
		was := q.copied()
		q.ask()
		if !q.isAs(was) {
			t.Fatalf("%+v has become %+v", was, q.copied())
		}
	}
}

// P16.1 under R3 and R6: what is behind a length does not matter, and a call that is made again answers the same.
func TestAgain(t *testing.T) {
	var times [][]int
	for _, n := range []int{3, 3, 2, 0, -1, 255} {
		var answers []int
		for _, q := range questions(t, n) {
			answers = append(answers, q.ask()...)
		}
		times = append(times, answers)
	}
	for i, answers := range times {
		if !slices.Equal(answers, times[0]) {
			t.Errorf("the answers of the time %d are other ones", i)
		}
	}
}

// P16.1: images, and transactions, that are the same memory are read as others are.
func TestElementsThatShareMemory(t *testing.T) {
	for _, g := range someGeometries() {
		a := from(t, g, 3, 4)
		x := imageOf(g, 0)
		same := slices.Repeat([]api.Image{x}, 6)
		l := []api.Txn{{Seq: 4, Pos: 3, N: 7, Images: same}, {Seq: 5, Pos: 10, N: 3, Images: same[1:3]}}
		isRight(t, g, a, l, true)
		same[2].Zone = -1
		isRight(t, g, a, l, false)
	}
}

// P16.1, P16.2: any logs, any lists, any blocks.
func FuzzRing(f *testing.F) {
	f.Add(2, 3, 1, 14, 2, 11, 9, []byte{2, 4, 3}, 0, 0, 0, []byte{0, 2})
	f.Add(1, 1, 0, 14, 1, 0, api.MaxNum, []byte{14}, 0, 1, 1, []byte{0})
	f.Add(4, 4, 2, 30, 3, 29, 1, []byte{2, 2, 2, 2, 2, 2, 2, 2, 2, 2, 2, 2, 2, 2, 2}, 14, 2, -1, []byte{15, 0, 7, 7})
	f.Add(0, 5, 3, 13, 4, -1, math.MinInt, []byte{0, 1}, 1, 3, math.MaxInt, []byte{255})
	f.Fuzz(func(t *testing.T, zones, data, spares, slots, anchors, pos, seq int, ns []byte, i, field, by int, blocks []byte) {
		g := geo(1+zones&3, 1+data&3, spares&1+spares>>1&1, 14+slots&15, 1+anchors&1)
		a := from(t, g, int(uint(pos)%uint(g.Slots)), 1+int(uint(seq)%api.MaxNum))
		var sizes []int
		for _, n := range ns[:min(len(ns), 40)] {
			sizes = append(sizes, 1+int(n&31))
		}
		l := logOf(g, a, sizes...)
		isRight(t, g, a, l, isLog(g, a, l))
		if len(l) > 0 {
			x := &l[int(uint(i)%uint(len(l)))]
			*[]*int{&x.Seq, &x.Pos, &x.N}[uint(field)%3] = by
			isRight(t, g, a, l, isLog(g, a, l))
		}
		lbas := []int{by}
		for _, b := range blocks[:min(len(blocks), 40)] {
			lbas = append(lbas, int(int8(b)))
		}
		needs(t, g, lbas)
		needs(t, g, lbas[1:])
		if wrong := geo(zones, data, spares, slots, anchors); !slices.Contains(geometries(), wrong) {
			refuses(t, wrong, a, l)
			nobody(t, wrong, l, pos)
			needFails(t, wrong, lbas, api.ErrArg)
		}
	})
}
