package disk_test

import (
	"bytes"
	"fmt"
	"math"
	"math/rand"
	"slices"
	"testing"

	"casemate/api"
	"casemate/disk"
	"casemate/seal"
)

// answer is what a call answers.
type answer struct {
	d api.Disk
	b []byte
	e api.Errno
}

// call is a call of the package with a disk: its name and its other arguments.
type call struct {
	f                     string
	a                     int
	b                     []byte
	keep                  int
	kind, from, bit, bits int
}

func read(a int) call            { return call{f: "Read", a: a} }
func write(a int, b []byte) call { return call{f: "Write", a: a, b: b} }
func crash(keep int) call        { return call{f: "Crash", keep: keep} }

var flush = call{f: "Flush"}

func fault(kind, a, from, bit, bits int) call {
	return call{f: "Fault", kind: kind, a: a, from: from, bit: bit, bits: bits}
}

// do makes the call c with d.
func (c call) do(d api.Disk) (r answer) {
	switch c.f {
	case "Check":
		r.e = disk.Check(d)
	case "Read":
		r.d, r.b, r.e = disk.Read(d, c.a)
	case "Write":
		r.d, r.e = disk.Write(d, c.a, c.b)
	case "Flush":
		r.d, r.e = disk.Flush(d)
	case "Crash":
		r.d, r.e = disk.Crash(d, c.keep)
	case "Fault":
		r.d, r.e = disk.Fault(d, c.kind, c.a, c.from, c.bit, c.bits)
	}
	return r
}

func sameCell(x, y api.Cell) bool {
	return x.State == y.State && bytes.Equal(x.Bytes, y.Bytes) && bytes.Equal(x.Old, y.Old)
}

func sameWrite(x, y api.Write) bool {
	return x.Addr == y.Addr && bytes.Equal(x.Bytes, y.Bytes)
}

func sameDisk(x, y api.Disk) bool {
	return x.Reqs == y.Reqs && x.Left == y.Left && slices.EqualFunc(x.Cells, y.Cells, sameCell) && slices.EqualFunc(x.Cache, y.Cache, sameWrite)
}

// told is a text of d that does not grow without end.
func told(d api.Disk) string {
	return fmt.Sprintf("%d cells %.300s, %d writes %.300s, Reqs %d, Left %d", len(d.Cells), fmt.Sprint(d.Cells), len(d.Cache), fmt.Sprint(d.Cache), d.Reqs, d.Left)
}

// answers tells an error unless the call c with d answers want.
func answers(t *testing.T, d api.Disk, c call, want answer) {
	t.Helper()
	got := c.do(d)
	if !sameDisk(got.d, want.d) || !bytes.Equal(got.b, want.b) || got.e != want.e {
		t.Fatalf("%+v of %s:\n%s, % x, %d, want\n%s, % x, %d", c, told(d), told(got.d), got.b, got.e, told(want.d), want.b, want.e)
	}
}

// changed is a copy of d that f has been at.
func changed(d api.Disk, f func(d *api.Disk)) api.Disk {
	next := copied(d)
	f(&next)
	return next
}

func copied(d api.Disk) api.Disk {
	next := api.Disk{Reqs: d.Reqs, Left: d.Left}
	for _, c := range d.Cells {
		next.Cells = append(next.Cells, api.Cell{State: c.State, Bytes: slices.Clone(c.Bytes), Old: slices.Clone(c.Old)})
	}
	for _, w := range d.Cache {
		next.Cache = append(next.Cache, api.Write{Addr: w.Addr, Bytes: slices.Clone(w.Bytes)})
	}
	return next
}

// The document's words, as a second program that is to answer the same. It goes through the cells and asks for each which writes it
// gets, where the package goes through the writes.

// isOf tells whether d is a valid disk.
func isOf(d api.Disk) bool {
	wrong := 0
	count := func(n, from, to int) {
		if n < from || n > to {
			wrong++
		}
	}
	count(len(d.Cells), 1, 300)
	count(len(d.Cache), 0, 2000)
	count(d.Reqs, 0, 1<<20)
	count(d.Left, -1, 1<<20)
	for _, c := range d.Cells {
		count(c.State, 0, 2)
		count(len(c.Bytes), 0, 200)
		count(len(c.Old), 0, 200)
	}
	for _, w := range d.Cache {
		count(w.Addr, 0, len(d.Cells)-1)
		count(len(w.Bytes), 0, 200)
	}
	return wrong == 0
}

// requested is d after a request, and the request's error.
func requested(d api.Disk) (api.Disk, api.Errno) {
	if d.Left == 0 {
		return d, api.ErrDead
	}
	return changed(d, func(d *api.Disk) {
		if d.Reqs < 1<<20 {
			d.Reqs++
		}
		if d.Left != -1 {
			d.Left--
		}
	}), api.OK
}

// writesOf are the bytes of the writes in Cache to the cell a, but for those whose index is not kept.
func writesOf(d api.Disk, a int, kept func(i int) bool) (l [][]byte) {
	for i, w := range d.Cache {
		if w.Addr == a && kept(i) {
			l = append(l, w.Bytes)
		}
	}
	return l
}

func all(int) bool { return true }

// carried is d once those writes are carried out whose index is kept, without Cache.
func carried(d api.Disk, kept func(i int) bool) api.Disk {
	return changed(d, func(next *api.Disk) {
		next.Cache = nil
		for a, c := range d.Cells {
			l := append([][]byte{c.Bytes}, writesOf(d, a, kept)...)
			if n := len(l); n > 1 && c.State != api.Sticky {
				next.Cells[a] = api.Cell{Bytes: l[n-1], Old: l[n-2]}
			}
		}
	})
}

// faulted is d with the fault that c names, and the error that is left once the address and Cache are seen to.
func faulted(d api.Disk, c call) (api.Disk, api.Errno) {
	next := copied(d)
	cell := &next.Cells[c.a]
	switch c.kind {
	case 11:
		cell.State = []int{1, 1, 2}[cell.State]
	case 12:
		cell.State = 2
	case 13:
		if c.bit < 0 || c.bits < 0 {
			return api.Disk{}, api.ErrArg
		}
		cell.Bytes = seal.Flip(cell.Bytes, c.bit, c.bits)
	case 14:
		cell.Bytes = cell.Old
	case 15:
		if c.from < 0 || c.from >= len(d.Cells) {
			return api.Disk{}, api.ErrArg
		}
		cell.Bytes = d.Cells[c.from].Bytes
	default:
		return api.Disk{}, api.ErrArg
	}
	return next, api.OK
}

// want is what the call c with d answers by the document.
func (c call) want(d api.Disk) answer {
	onDisk := c.a >= 0 && c.a < len(d.Cells)
	refused := answer{e: api.ErrArg}
	if !isOf(d) {
		return refused
	}
	next, e := requested(d)
	switch c.f {
	case "Read":
		if !onDisk {
			return refused
		} else if e != 0 {
			return answer{d: next, e: e}
		} else if l := writesOf(d, c.a, all); len(l) > 0 {
			return answer{d: next, b: l[len(l)-1]}
		} else if d.Cells[c.a].State != api.Good {
			return answer{d: next, e: api.ErrRead}
		}
		return answer{d: next, b: d.Cells[c.a].Bytes}
	case "Write":
		if !onDisk || len(c.b) > 200 {
			return refused
		} else if e != 0 {
			return answer{d: next, e: e}
		} else if d.Cells[c.a].State == api.Sticky || len(d.Cache) == 2000 {
			return answer{d: next, e: api.ErrWrite}
		}
		return answer{d: changed(next, func(d *api.Disk) { d.Cache = append(d.Cache, api.Write{Addr: c.a, Bytes: c.b}) })}
	case "Flush":
		if e != 0 {
			return answer{d: next, e: e}
		}
		return answer{d: carried(next, all)}
	case "Crash":
		if c.keep < 0 {
			return refused
		}
		digits := fmt.Sprintf("%0100b", c.keep)
		kept := carried(d, func(i int) bool { return digits[len(digits)-1-i%31] == '1' })
		kept.Left = -1
		return answer{d: kept}
	case "Fault":
		if !onDisk {
			return refused
		} else if len(d.Cache) > 0 {
			return answer{e: api.ErrPlace}
		}
		next, e := faulted(d, c)
		return answer{d: next, e: e}
	}
	return answer{}
}

// holds tells an error unless the call c with d answers what the document says.
func holds(t *testing.T, d api.Disk, c call) {
	t.Helper()
	answers(t, d, c, c.want(d))
}

// some is a disk: a good cell, a latent one, a sticky one, and a good one without bytes; nothing in Cache.
func some() api.Disk {
	return api.Disk{Cells: []api.Cell{
		{Bytes: []byte{10}, Old: []byte{20, 20}}, {State: api.Latent, Bytes: []byte{11}, Old: []byte{21}}, {State: api.Sticky, Bytes: []byte{12}, Old: []byte{22}}, {},
	}, Reqs: 5, Left: -1}
}

// cached is some with writes in Cache: each two numbers are the address and the one byte of a write.
func cached(numbers ...int) api.Disk {
	d := some()
	for i := 0; i < len(numbers); i += 2 {
		d.Cache = append(d.Cache, api.Write{Addr: numbers[i], Bytes: []byte{byte(numbers[i+1])}})
	}
	return d
}

// more is d with one more in Reqs.
func more(d api.Disk) api.Disk {
	return changed(d, func(d *api.Disk) { d.Reqs++ })
}

// cells is d without Cache and with these cells in place of its own.
func cells(d api.Disk, l ...api.Cell) api.Disk {
	return changed(d, func(d *api.Disk) { d.Cells, d.Cache = l, nil })
}

// many are n writes of no bytes to the first cell.
func many(n int) []api.Write {
	return make([]api.Write, n)
}

func filled(n int, c byte) []byte {
	return bytes.Repeat([]byte{c}, n)
}

// numbers that no list reaches and no count may be.
var extremes = []int{math.MinInt, math.MinInt + 1, -1 << 32, -1 << 31, -301, -2, -1, 1 << 31, 1 << 32, 1<<32 + 1, math.MaxInt - 1, math.MaxInt}

// P6.1, P6.2: the chapter's example.
func TestExample(t *testing.T) {
	d, e := disk.New(3)
	if e != api.OK {
		t.Fatal(e)
	}
	fresh := api.Disk{Cells: make([]api.Cell, 3), Left: -1}
	wrote := api.Disk{Cells: make([]api.Cell, 3), Cache: []api.Write{{Addr: 1, Bytes: []byte{7, 8}}}, Reqs: 1, Left: -1}
	answers(t, d, write(1, []byte{7, 8}), answer{d: wrote})
	answers(t, wrote, read(1), answer{d: more(wrote), b: []byte{7, 8}})
	lost := changed(fresh, func(d *api.Disk) { d.Reqs = 1 })
	answers(t, wrote, crash(0), answer{d: lost})
	answers(t, lost, read(1), answer{d: more(lost)})
}

// P6.1: disks of each number of cells.
func TestNew(t *testing.T) {
	for n := 1; n <= 300; n++ {
		d, e := disk.New(n)
		if want := (api.Disk{Cells: make([]api.Cell, n), Left: -1}); e != api.OK || !sameDisk(d, want) {
			t.Fatalf("New(%d): %s, %d", n, told(d), e)
		}
		answers(t, d, call{f: "Check"}, answer{})
		for _, a := range []int{0, n / 2, n - 1} {
			answers(t, d, read(a), answer{d: more(d)})
		}
	}
	for _, n := range append([]int{0, -1, -300, 301, 302, 556, 65537}, extremes...) {
		if d, e := disk.New(n); e != api.ErrArg || !sameDisk(d, api.Disk{}) {
			t.Fatalf("New(%d): %s, %d", n, told(d), e)
		}
	}
}

// edge is a condition of a valid disk at its edge (in), and beyond it (out).
type edge struct {
	in, out func(d *api.Disk)
}

// edges are of each condition, for the first and the last of several things, of a disk with 4 cells and 5 writes in Cache.
func edges() (l []edge) {
	number := func(set func(d *api.Disk, n int), in, out int) {
		l = append(l, edge{func(d *api.Disk) { set(d, in) }, func(d *api.Disk) { set(d, out) }})
	}
	// between is for a number that may be from least to most.
	between := func(least, most int, set func(d *api.Disk, n int)) {
		number(set, least, least-1)
		number(set, most, most+1)
		number(set, least, math.MinInt)
		number(set, most, math.MaxInt)
	}
	for _, i := range []int{0, 3} {
		between(api.Good, api.Sticky, func(d *api.Disk, n int) { d.Cells[i].State = n })
		number(func(d *api.Disk, n int) { d.Cells[i].Bytes = filled(n, 3) }, 200, 201)
		number(func(d *api.Disk, n int) { d.Cells[i].Old = filled(n, 3) }, 200, 201)
		number(func(d *api.Disk, n int) { d.Cells[i].Bytes = filled(n, 3) }, 200, 1<<16)
		number(func(d *api.Disk, n int) { d.Cells[i].Old = filled(n, 3) }, 200, 1<<16)
	}
	for _, i := range []int{0, 4} {
		between(0, 3, func(d *api.Disk, n int) { d.Cache[i].Addr = n })
		number(func(d *api.Disk, n int) { d.Cache[i].Bytes = filled(n, 3) }, 200, 201)
		number(func(d *api.Disk, n int) { d.Cache[i].Bytes = filled(n, 3) }, 200, 1<<16)
	}
	between(0, api.MaxReqs, func(d *api.Disk, n int) { d.Reqs = n })
	between(-1, api.MaxReqs, func(d *api.Disk, n int) { d.Left = n })
	number(func(d *api.Disk, n int) { d.Cells = make([]api.Cell, n) }, 300, 301)
	number(func(d *api.Disk, n int) { d.Cells = make([]api.Cell, n) }, 4, 3) // a write to the last cell is in Cache
	number(func(d *api.Disk, n int) { d.Cells, d.Cache = make([]api.Cell, n), nil }, 1, 0)
	number(func(d *api.Disk, n int) { d.Cells, d.Cache = make([]api.Cell, n), nil }, 300, 301)
	number(func(d *api.Disk, n int) { d.Cache = many(n) }, 2000, 2001)
	number(func(d *api.Disk, n int) { d.Cells, d.Cache = make([]api.Cell, n), many(1) }, 1, 0)
	return l
}

// calls are such as succeed with some disk, and such as fail with each.
func calls() []call {
	return []call{
		{f: "Check"}, read(0), read(3), read(-1), read(300), write(0, nil), write(3, filled(200, 7)), write(0, filled(201, 7)), write(-1, nil), write(301, nil),
		flush, crash(0), crash(1 << 30), crash(math.MaxInt), crash(-1), fault(api.StepLatent, 0, 0, 0, 0), fault(api.StepSticky, 3, 0, 0, 0),
		fault(api.StepFlip, 0, 0, 3, 5), fault(api.StepStale, 0, 0, 0, 0), fault(api.StepMove, 0, 3, 0, 0), fault(api.StepMove, 0, -1, 0, 0),
		fault(api.StepLatent, -1, 0, 0, 0), fault(0, 0, 0, 0, 0), fault(api.StepFlip, 0, 0, -1, 0),
	}
}

// P6.1, P6.2: each condition of a valid disk at its edge, and beyond it, where each call is refused with ErrArg and without a disk,
// even if it would be refused otherwise by another error.
func TestValid(t *testing.T) {
	base := cached(0, 1, 1, 2, 2, 3, 0, 4, 3, 5)
	for i, each := range edges() {
		in, out := changed(base, each.in), changed(base, each.out)
		if !isOf(in) || isOf(out) {
			t.Fatal("no edge", i)
		}
		dead := changed(out, func(d *api.Disk) { d.Left = 0 })
		for _, c := range calls() {
			holds(t, in, c)
			answers(t, out, c, answer{e: api.ErrArg})
			if !isOf(dead) {
				answers(t, dead, c, answer{e: api.ErrArg})
			}
		}
	}
	answers(t, api.Disk{}, call{f: "Check"}, answer{e: api.ErrArg})
	answers(t, api.Disk{Left: -1}, call{f: "Check"}, answer{e: api.ErrArg})
	answers(t, api.Disk{Cells: make([]api.Cell, 1)}, call{f: "Check"}, answer{})
	answers(t, api.Disk{Cells: make([]api.Cell, 1<<20)}, call{f: "Check"}, answer{e: api.ErrArg})
	answers(t, api.Disk{Cells: make([]api.Cell, 1), Cache: many(1 << 20)}, call{f: "Check"}, answer{e: api.ErrArg})
}

// requests are calls that come to a request, with the disks for which they do, and the error behind it.
func requests() []struct {
	d api.Disk
	c call
	e api.Errno
} {
	full := changed(some(), func(d *api.Disk) { d.Cache = many(2000) })
	return []struct {
		d api.Disk
		c call
		e api.Errno
	}{
		{some(), read(0), api.OK}, {cached(1, 5), read(1), api.OK}, {some(), read(1), api.ErrRead}, {some(), read(2), api.ErrRead},
		{some(), write(0, []byte{1}), api.OK}, {some(), write(1, []byte{1}), api.OK}, {some(), write(2, []byte{1}), api.ErrWrite},
		{full, write(0, []byte{1}), api.ErrWrite}, {full, write(2, nil), api.ErrWrite},
		{some(), flush, api.OK}, {cached(0, 1, 2, 3), flush, api.OK}, {full, flush, api.OK},
	}
}

// P6.1: what a request does to Reqs and Left, whatever the call returns then, and that a dead disk does not change.
func TestRequest(t *testing.T) {
	for _, test := range requests() {
		for _, left := range []struct{ was, is int }{{-1, -1}, {1, 0}, {2, 1}, {3, 2}, {api.MaxReqs - 1, api.MaxReqs - 2}, {api.MaxReqs, api.MaxReqs - 1}} {
			for _, reqs := range []struct{ was, is int }{{0, 1}, {1, 2}, {api.MaxReqs - 2, api.MaxReqs - 1}, {api.MaxReqs - 1, api.MaxReqs}, {api.MaxReqs, api.MaxReqs}} {
				d := changed(test.d, func(d *api.Disk) { d.Reqs, d.Left = reqs.was, left.was })
				got := test.c.do(d)
				if got.e != test.e || got.d.Reqs != reqs.is || got.d.Left != left.is {
					t.Fatalf("%+v with Reqs %d and Left %d: %d and %d, %d", test.c, reqs.was, left.was, got.d.Reqs, got.d.Left, got.e)
				}
				holds(t, d, test.c)
				if test.e != api.OK {
					answers(t, d, test.c, answer{d: changed(d, func(d *api.Disk) { d.Reqs, d.Left = reqs.is, left.is }), e: test.e})
				}
				dead := changed(d, func(d *api.Disk) { d.Left = 0 })
				answers(t, dead, test.c, answer{d: dead, e: api.ErrDead})
			}
		}
	}
}

// P6.1: a disk dies behind as many requests as Left says, those that fail among them, and stays as it is.
func TestUntilDead(t *testing.T) {
	for left := range 12 {
		d := changed(some(), func(d *api.Disk) { d.Left = left })
		for i := range 15 {
			c := []call{read(2), write(0, []byte{byte(i)}), write(2, nil), read(0), flush}[i%5]
			holds(t, d, c)
			got := c.do(d)
			if (got.e == api.ErrDead) != (i >= left) || got.d.Reqs != 5+min(i+1, left) || got.d.Left != max(left-i-1, 0) {
				t.Fatalf("request %d of %d: %s, %d", i, left, told(got.d), got.e)
			}
			d = got.d
		}
	}
}

// P6.1, P6.2: addresses below 0, 0, the last one and one more; ErrArg comes before the errors of the request and of Cache.
func TestAddress(t *testing.T) {
	for _, n := range []int{1, 2, 4, 299, 300} {
		fresh := api.Disk{Cells: make([]api.Cell, n), Left: -1}
		for _, d := range []api.Disk{fresh, changed(fresh, func(d *api.Disk) { d.Left = 0 }), changed(fresh, func(d *api.Disk) { d.Cache = many(2000) })} {
			for _, a := range append([]int{n, n + 1, 300, 301, 2 * n, n + 256}, extremes...) {
				if a < n && a >= 0 {
					continue
				}
				for _, c := range []call{
					read(a), write(a, nil), write(a, filled(201, 1)), fault(api.StepLatent, a, 0, 0, 0), fault(api.StepSticky, a, 0, 0, 0),
					fault(api.StepFlip, a, 0, 0, 0), fault(api.StepStale, a, 0, 0, 0), fault(api.StepMove, a, 0, 0, 0), fault(api.StepMove, a, a, 0, 0), fault(0, a, 0, 0, 0),
				} {
					answers(t, d, c, answer{e: api.ErrArg})
				}
			}
			for _, a := range []int{0, n - 1} {
				for _, c := range []call{read(a), write(a, []byte{1}), fault(api.StepLatent, a, 0, 0, 0), fault(api.StepMove, a, n-1, 0, 0)} {
					holds(t, d, c)
				}
				answers(t, d, write(a, filled(201, 1)), answer{e: api.ErrArg})
			}
		}
	}
}

// P6.1: cells of each State that are written once, twice and not at all in Cache.
func TestRead(t *testing.T) {
	for _, test := range []struct {
		d api.Disk
		a int
		b []byte
		e api.Errno
	}{
		{some(), 0, []byte{10}, api.OK}, {some(), 1, nil, api.ErrRead}, {some(), 2, nil, api.ErrRead}, {some(), 3, nil, api.OK},
		{cached(1, 50), 0, []byte{10}, api.OK}, {cached(0, 50), 1, nil, api.ErrRead}, {cached(0, 50), 2, nil, api.ErrRead}, {cached(2, 50), 3, nil, api.OK},
		{cached(0, 50), 0, []byte{50}, api.OK}, {cached(1, 50), 1, []byte{50}, api.OK}, {cached(2, 50), 2, []byte{50}, api.OK}, {cached(3, 50), 3, []byte{50}, api.OK},
		{cached(0, 50, 0, 51), 0, []byte{51}, api.OK}, {cached(1, 50, 1, 51), 1, []byte{51}, api.OK}, {cached(2, 50, 2, 51), 2, []byte{51}, api.OK},
		{cached(0, 50, 0, 51, 1, 52, 3, 53), 0, []byte{51}, api.OK}, {cached(0, 50, 1, 51, 0, 52, 2, 53), 1, []byte{51}, api.OK}, {cached(2, 50, 0, 51, 2, 52), 0, []byte{51}, api.OK},
	} {
		answers(t, test.d, read(test.a), answer{d: more(test.d), b: test.b, e: test.e})
	}
	// The last write counts though it is of no bytes.
	for a := range 4 {
		d := changed(cached(a, 50), func(d *api.Disk) { d.Cache = append(d.Cache, api.Write{Addr: a}) })
		answers(t, d, read(a), answer{d: more(d)})
	}
	long := changed(some(), func(d *api.Disk) { d.Cells[0].Bytes = filled(200, 9) })
	answers(t, long, read(0), answer{d: more(long), b: filled(200, 9)})
	longer := changed(long, func(d *api.Disk) { d.Cache = []api.Write{{Bytes: filled(200, 8)}} })
	answers(t, longer, read(0), answer{d: more(longer), b: filled(200, 8)})
}

// P6.1: writes of 0, 200 and 201 bytes to cells of each State, also where nothing is accepted any more.
func TestWrite(t *testing.T) {
	for _, was := range []api.Disk{some(), cached(0, 50, 2, 51, 1, 52)} {
		for _, n := range []int{0, 1, 199, 200} {
			for _, a := range []int{0, 1, 3} {
				want := changed(was, func(d *api.Disk) {
					d.Reqs, d.Cache = 6, append(d.Cache, api.Write{Addr: a, Bytes: filled(n, 7)})
				})
				answers(t, was, write(a, filled(n, 7)), answer{d: want})
			}
			answers(t, was, write(2, filled(n, 7)), answer{d: more(was), e: api.ErrWrite})
		}
		dead := changed(was, func(d *api.Disk) { d.Left = 0 })
		for _, n := range []int{201, 202, 256, 456, 65536 + 5} {
			for a := range 4 {
				answers(t, was, write(a, filled(n, 7)), answer{e: api.ErrArg})
				answers(t, dead, write(a, filled(n, 7)), answer{e: api.ErrArg})
			}
		}
		answers(t, dead, write(2, nil), answer{d: dead, e: api.ErrDead})
	}
}

// P6.1: with 1998, 1999 and 2000 writes in Cache.
func TestWriteToFullCache(t *testing.T) {
	d := changed(some(), func(d *api.Disk) { d.Cache = many(1998) })
	for range 2 {
		next := changed(more(d), func(d *api.Disk) { d.Cache = append(d.Cache, api.Write{Addr: 3, Bytes: []byte{7}}) })
		answers(t, d, write(3, []byte{7}), answer{d: next})
		d = next
	}
	if len(d.Cache) != 2000 {
		t.Fatal(len(d.Cache))
	}
	for a := range 4 {
		answers(t, d, write(a, []byte{7}), answer{d: more(d), e: api.ErrWrite})
		answers(t, d, write(a, filled(201, 7)), answer{e: api.ErrArg})
	}
	answers(t, d, write(4, nil), answer{e: api.ErrArg})
	dead := changed(d, func(d *api.Disk) { d.Left = 0 })
	answers(t, dead, write(3, nil), answer{d: dead, e: api.ErrDead})
	empty, _ := disk.Crash(d, 0)
	answers(t, empty, write(3, nil), answer{d: changed(more(empty), func(d *api.Disk) { d.Cache = []api.Write{{Addr: 3}} })})
}

// P6.1: what the cells are once nothing, one write, two, and more have been carried out, of each State; Old among it.
func TestFlush(t *testing.T) {
	zero, one, two, three := some().Cells[0], some().Cells[1], some().Cells[2], some().Cells[3]
	cell := func(b, old byte) api.Cell { return api.Cell{Bytes: []byte{b}, Old: []byte{old}} }
	for _, test := range []struct {
		d    api.Disk
		want []api.Cell
	}{
		{cached(), []api.Cell{zero, one, two, three}},
		{cached(0, 50), []api.Cell{cell(50, 10), one, two, three}},
		{cached(0, 50, 0, 51), []api.Cell{cell(51, 50), one, two, three}},
		{cached(0, 50, 0, 51, 0, 52), []api.Cell{cell(52, 51), one, two, three}},
		{cached(0, 50, 0, 51, 0, 52, 0, 53, 0, 50), []api.Cell{cell(50, 53), one, two, three}},
		{cached(0, 50, 0, 50), []api.Cell{cell(50, 50), one, two, three}},
		{cached(1, 50), []api.Cell{zero, cell(50, 11), two, three}},
		{cached(1, 50, 1, 51), []api.Cell{zero, cell(51, 50), two, three}},
		{cached(2, 50), []api.Cell{zero, one, two, three}},
		{cached(2, 50, 2, 51, 2, 52), []api.Cell{zero, one, two, three}},
		{cached(3, 50), []api.Cell{zero, one, two, {Bytes: []byte{50}}}},
		{cached(0, 50, 2, 51, 1, 52, 0, 53, 3, 54, 1, 55, 0, 56), []api.Cell{cell(56, 53), cell(55, 52), two, {Bytes: []byte{54}}}},
	} {
		answers(t, test.d, flush, answer{d: more(cells(test.d, test.want...))})
		for _, keep := range []int{1<<31 - 1, 1<<40 - 1, math.MaxInt} {
			answers(t, test.d, crash(keep), answer{d: cells(test.d, test.want...)})
		}
		dead := changed(test.d, func(d *api.Disk) { d.Left = 0 })
		answers(t, dead, flush, answer{d: dead, e: api.ErrDead})
	}
	// A write of no bytes is one too.
	none := changed(cached(0, 50), func(d *api.Disk) { d.Cache[0].Bytes = nil })
	answers(t, none, flush, answer{d: more(cells(none, api.Cell{Old: []byte{10}}, one, two, three))})
	// 2000 writes, the last two of which are seen.
	full := changed(some(), func(d *api.Disk) { d.Cache = many(2000) })
	full.Cache[1998].Bytes, full.Cache[1999].Bytes = filled(200, 1), filled(199, 2)
	answers(t, full, flush, answer{d: more(cells(full, api.Cell{Bytes: filled(199, 2), Old: filled(200, 1)}, one, two, three))})
}

// P6.1: Old over several flushes: it is what the cell was ahead of its last write, not of its last flush.
func TestOld(t *testing.T) {
	d, _ := disk.New(1)
	for i, test := range []struct{ writes, b, old []byte }{
		{[]byte{1}, []byte{1}, nil}, {[]byte{2}, []byte{2}, []byte{1}}, {nil, []byte{2}, []byte{1}}, {[]byte{3, 4}, []byte{4}, []byte{3}}, {[]byte{5, 6, 7}, []byte{7}, []byte{6}}, {[]byte{8}, []byte{8}, []byte{7}},
	} {
		for _, b := range test.writes {
			d, _ = disk.Write(d, 0, []byte{b})
		}
		d, _ = disk.Flush(d)
		if !sameCell(d.Cells[0], api.Cell{Bytes: test.b, Old: test.old}) || len(d.Cache) != 0 {
			t.Fatalf("flush %d: %s", i, told(d))
		}
	}
}

// P6.2: worked out by hand. Crash is no request and lets a dead disk live.
func TestCrash(t *testing.T) {
	zero, one, two, three := some().Cells[0], some().Cells[1], some().Cells[2], some().Cells[3]
	d := cached(0, 50, 1, 51, 2, 52, 0, 53, 3, 54)
	for _, test := range []struct {
		keep int
		want []api.Cell
	}{
		{0, []api.Cell{zero, one, two, three}},
		{1, []api.Cell{{Bytes: []byte{50}, Old: []byte{10}}, one, two, three}},
		{2, []api.Cell{zero, {Bytes: []byte{51}, Old: []byte{11}}, two, three}},
		{4, []api.Cell{zero, one, two, three}},
		{8, []api.Cell{{Bytes: []byte{53}, Old: []byte{10}}, one, two, three}},
		{9, []api.Cell{{Bytes: []byte{53}, Old: []byte{50}}, one, two, three}},
		{16, []api.Cell{zero, one, two, {Bytes: []byte{54}}}},
		{31, []api.Cell{{Bytes: []byte{53}, Old: []byte{50}}, {Bytes: []byte{51}, Old: []byte{11}}, two, {Bytes: []byte{54}}}},
		{32, []api.Cell{zero, one, two, three}},
		{1 << 30, []api.Cell{zero, one, two, three}},
		{1 << 31, []api.Cell{zero, one, two, three}},
		{1<<31 + 1, []api.Cell{{Bytes: []byte{50}, Old: []byte{10}}, one, two, three}},
		{1 << 62, []api.Cell{zero, one, two, three}},
		{math.MaxInt - 9, []api.Cell{zero, {Bytes: []byte{51}, Old: []byte{11}}, two, {Bytes: []byte{54}}}},
	} {
		for _, left := range []int{-1, 0, 1, api.MaxReqs} {
			for _, reqs := range []int{0, 5, api.MaxReqs} {
				was := changed(d, func(d *api.Disk) { d.Left, d.Reqs = left, reqs })
				want := cells(was, test.want...)
				want.Left = -1
				answers(t, was, crash(test.keep), answer{d: want})
			}
		}
	}
	for _, keep := range extremes {
		if keep < 0 {
			answers(t, d, crash(keep), answer{e: api.ErrArg})
			answers(t, some(), crash(keep), answer{e: api.ErrArg})
		}
	}
	dead := changed(some(), func(d *api.Disk) { d.Left = 0 })
	answers(t, dead, crash(0), answer{d: some()})
}

// P6.2: more writes than bits: 100, each to a cell of its own, so that it is seen which ones are kept.
func TestCrashBits(t *testing.T) {
	was := api.Disk{Cells: make([]api.Cell, 100), Left: 0}
	for i := range 100 {
		was.Cache = append(was.Cache, api.Write{Addr: 99 - i, Bytes: []byte{byte(i), 1}})
	}
	keeps := map[int]func(i int) bool{
		0: func(int) bool { return false }, 1<<31 - 1: all, math.MaxInt: all, 1<<62 - 1: all,
		1<<0 | 1<<30: func(i int) bool { return i%31 == 0 || i%31 == 30 },
		0x55555555:   func(i int) bool { return i%31%2 == 0 },
	}
	for bit := range 63 {
		keeps[1<<bit] = func(i int) bool { return bit < 31 && slices.Contains([]int{bit, bit + 31, bit + 62, bit + 93}, i) }
		keeps[1<<31-1-1<<bit] = func(i int) bool { return i%31 != bit }
		if bit >= 31 {
			delete(keeps, 1<<31-1-1<<bit)
		}
	}
	for keep, kept := range keeps {
		want := api.Disk{Cells: make([]api.Cell, 100), Left: -1}
		for i := range 100 {
			if kept(i) {
				want.Cells[99-i].Bytes = []byte{byte(i), 1}
			}
		}
		answers(t, was, crash(keep), answer{d: want})
	}
}

// damage is what a fault makes of a cell of some, worked out by hand, or its error.
type damage struct {
	c    call
	want api.Cell
	e    api.Errno
}

func damages() []damage {
	zero, one, two := some().Cells[0], some().Cells[1], some().Cells[2]
	with := func(c api.Cell, state int, b ...byte) api.Cell { return api.Cell{State: state, Bytes: b, Old: c.Old} }
	return []damage{
		{c: fault(api.StepLatent, 0, 0, 0, 0), want: with(zero, api.Latent, 10)}, {c: fault(api.StepLatent, 1, 0, 0, 0), want: one},
		{c: fault(api.StepLatent, 2, 0, 0, 0), want: two}, {c: fault(api.StepLatent, 3, -1, -1, -1), want: api.Cell{State: api.Latent}},
		{c: fault(api.StepSticky, 0, 0, 0, 0), want: with(zero, api.Sticky, 10)}, {c: fault(api.StepSticky, 1, 0, 0, 0), want: with(one, api.Sticky, 11)},
		{c: fault(api.StepSticky, 2, 0, 0, 0), want: two}, {c: fault(api.StepSticky, 3, 99, -9, -9), want: api.Cell{State: api.Sticky}},
		{c: fault(api.StepFlip, 0, 0, 0, 0), want: with(zero, api.Good, 11)}, {c: fault(api.StepFlip, 0, 0, 2, 3), want: with(zero, api.Good, 6)},
		{c: fault(api.StepFlip, 0, 4, 8, 1<<32), want: with(zero, api.Good, 11)}, {c: fault(api.StepFlip, 0, -1, 1, 1<<32-1), want: with(zero, api.Good, 0xf4)},
		{c: fault(api.StepFlip, 1, 0, 7, 0), want: with(one, api.Latent, 139)}, {c: fault(api.StepFlip, 2, 0, 0, 6), want: with(two, api.Sticky, 11)},
		{c: fault(api.StepFlip, 3, 0, 5, 5), want: api.Cell{}}, {c: fault(api.StepFlip, 0, 0, math.MaxInt, math.MaxInt), want: with(zero, api.Good, 138)},
		{c: fault(api.StepStale, 0, 0, 0, 0), want: with(zero, api.Good, 20, 20)}, {c: fault(api.StepStale, 1, -1, 0, 0), want: with(one, api.Latent, 21)},
		{c: fault(api.StepStale, 2, 9, -1, -1), want: with(two, api.Sticky, 22)}, {c: fault(api.StepStale, 3, 0, 0, 0), want: api.Cell{}},
		{c: fault(api.StepMove, 0, 1, 0, 0), want: with(zero, api.Good, 11)}, {c: fault(api.StepMove, 0, 2, -1, 0), want: with(zero, api.Good, 12)},
		{c: fault(api.StepMove, 0, 3, 0, -1), want: with(zero, api.Good)}, {c: fault(api.StepMove, 0, 0, 0, 0), want: zero},
		{c: fault(api.StepMove, 1, 0, 0, 0), want: with(one, api.Latent, 10)}, {c: fault(api.StepMove, 2, 0, 0, 0), want: with(two, api.Sticky, 10)},
		{c: fault(api.StepMove, 2, 2, 0, 0), want: two}, {c: fault(api.StepMove, 3, 0, 0, 0), want: api.Cell{Bytes: []byte{10}}},
		{c: fault(api.StepFlip, 0, 0, -1, 0), e: api.ErrArg}, {c: fault(api.StepFlip, 0, 0, 0, -1), e: api.ErrArg}, {c: fault(api.StepFlip, 3, 0, -1, -1), e: api.ErrArg},
		{c: fault(api.StepFlip, 0, 0, math.MinInt, 0), e: api.ErrArg}, {c: fault(api.StepFlip, 0, 0, 0, math.MinInt), e: api.ErrArg},
		{c: fault(api.StepMove, 0, -1, 0, 0), e: api.ErrArg}, {c: fault(api.StepMove, 0, 4, 0, 0), e: api.ErrArg}, {c: fault(api.StepMove, 3, 300, 0, 0), e: api.ErrArg},
		{c: fault(api.StepMove, 0, math.MinInt, 0, 0), e: api.ErrArg}, {c: fault(api.StepMove, 0, math.MaxInt, 0, 0), e: api.ErrArg},
	}
}

// P6.2: faults of each kind. Fault is no request, and a dead disk is damaged too. ErrPlace comes before the second ErrArg.
func TestFault(t *testing.T) {
	for _, test := range damages() {
		for _, left := range []int{-1, 0, 7} {
			was := changed(some(), func(d *api.Disk) { d.Left = left })
			want := answer{e: test.e}
			if test.e == api.OK {
				want.d = changed(was, func(d *api.Disk) { d.Cells[test.c.a] = test.want })
			}
			answers(t, was, test.c, want)
			for _, addr := range []int{test.c.a, 3 - test.c.a} {
				waiting := changed(was, func(d *api.Disk) { d.Cache = []api.Write{{Addr: addr}} })
				answers(t, waiting, test.c, answer{e: api.ErrPlace})
			}
		}
	}
}

// P6.2: of no kind, or of another step's.
func TestFaultOfNoKind(t *testing.T) {
	for _, kind := range slices.Concat(extremes, []int{0, 1, 2, 3, 4, 5, 6, 7, 8, 9, 10, 16, 17, 11 + 256, 15 + 1<<32}) {
		for a := range 4 {
			answers(t, some(), fault(kind, a, 0, 0, 0), answer{e: api.ErrArg})
			answers(t, cached(3, 1), fault(kind, a, 0, 0, 0), answer{e: api.ErrPlace})
			answers(t, cached(3, 1), fault(kind, a+4, 0, 0, 0), answer{e: api.ErrArg})
		}
	}
}

// P6.2: a cell can be read again once it is written, unless it is sticky; what a fault makes of bytes is read.
func TestFaultIsSeen(t *testing.T) {
	sector, _ := seal.Make(api.Sector{Addr: 1, Stamp: 2, Payload: filled(96, 3)})
	d, _ := disk.New(2)
	d, _ = disk.Write(d, 1, sector)
	d, _ = disk.Flush(d)
	for bit := range 8 * len(sector) {
		flipped, e := disk.Fault(d, api.StepFlip, 1, 0, bit, bit)
		if e != api.OK {
			t.Fatal(e)
		}
		answers(t, flipped, read(1), answer{d: more(flipped), b: seal.Flip(sector, bit, bit)})
	}
	latent, _ := disk.Fault(d, api.StepLatent, 1, 0, 0, 0)
	answers(t, latent, read(1), answer{d: more(latent), e: api.ErrRead})
	wrote, _ := disk.Write(latent, 1, []byte{5})
	answers(t, wrote, read(1), answer{d: more(wrote), b: []byte{5}})
	dropped, _ := disk.Crash(wrote, 0)
	answers(t, dropped, read(1), answer{d: more(dropped), e: api.ErrRead})
	kept, _ := disk.Crash(wrote, 1)
	answers(t, kept, read(1), answer{d: more(kept), b: []byte{5}})
	stale, _ := disk.Fault(kept, api.StepStale, 1, 0, 0, 0)
	answers(t, stale, read(1), answer{d: more(stale), b: sector})
	sticky, _ := disk.Fault(latent, api.StepSticky, 1, 0, 0, 0)
	answers(t, sticky, read(1), answer{d: more(sticky), e: api.ErrRead})
	answers(t, sticky, write(1, nil), answer{d: more(sticky), e: api.ErrWrite})
	// Who puts bytes into a sticky cell can't read them either.
	moved, _ := disk.Fault(sticky, api.StepMove, 1, 0, 0, 0)
	answers(t, moved, read(1), answer{d: more(moved), e: api.ErrRead})
}

// model is what the cells of a disk without faults hold once all writes are made, what was flushed, and the writes since then.
type model struct {
	now, flushed [][]byte
	since        []api.Write
}

// readsAll tells an error unless all cells of d are read to be want.
func readsAll(t *testing.T, d api.Disk, want [][]byte) {
	t.Helper()
	for a, b := range want {
		if _, got, e := disk.Read(d, a); e != api.OK || !bytes.Equal(got, b) {
			t.Fatalf("Read(%s, %d): % x, %d, want % x", told(d), a, got, e, b)
		}
	}
}

// crashesTo tells an error unless Crash with keep leaves what was flushed and of the rest exactly what keep says.
func (m model) crashesTo(t *testing.T, d api.Disk, keep int) (api.Disk, model) {
	t.Helper()
	want := slices.Clone(m.flushed)
	for i, w := range m.since {
		// Bit i modulo 31 of keep, with halves in place of shifts.
		half := keep
		for range i % 31 {
			half /= 2
		}
		if half%2 == 1 {
			want[w.Addr] = w.Bytes
		}
	}
	next, e := disk.Crash(d, keep)
	if e != api.OK {
		t.Fatalf("Crash(%s, %d): %d", told(d), keep, e)
	}
	readsAll(t, next, want)
	// Another crash finds nothing that it could drop or keep.
	for _, again := range []int{0, math.MaxInt} {
		twice, _ := disk.Crash(next, again)
		readsAll(t, twice, want)
	}
	return next, model{now: slices.Clone(want), flushed: want}
}

func (m *model) write(a int, b []byte) {
	m.now[a] = b
	m.since = append(m.since, api.Write{Addr: a, Bytes: b})
}

func (m *model) flush() {
	m.flushed, m.since = slices.Clone(m.now), nil
}

// P6.3: random writes, flushes and crashes, those with each pattern of 8 bits and random ones.
func TestFlushedIsThere(t *testing.T) {
	random := rand.New(rand.NewSource(1))
	for _, n := range []int{1, 3, 50} {
		d, _ := disk.New(n)
		m := model{now: make([][]byte, n), flushed: make([][]byte, n)}
		for range 200 {
			for range random.Intn(9) {
				a, b := random.Intn(n), filled(random.Intn(4), byte(random.Intn(256)))
				d, _ = disk.Write(d, a, b)
				m.write(a, b)
			}
			readsAll(t, d, m.now)
			for range 4 {
				m.crashesTo(t, d, int(random.Int63()))
			}
			switch random.Intn(6) {
			case 0:
				d, _ = disk.Flush(d)
				m.flush()
			case 1:
				d, m = m.crashesTo(t, d, random.Intn(256))
			case 2:
				d, m = m.crashesTo(t, d, int(random.Int63()))
			}
		}
	}
}

// P6.3: 8 writes behind a flush, with each pattern of what is kept of them; and 70, each pattern of 31 bits that has one bit, or all but one.
func TestKeptIsThere(t *testing.T) {
	for _, n := range []int{8, 70} {
		d, _ := disk.New(5)
		m := model{now: make([][]byte, 5), flushed: make([][]byte, 5)}
		for i := range n + 4 {
			b := []byte{byte(i)}
			d, _ = disk.Write(d, i*i%5, b)
			m.write(i*i%5, b)
			if i == 3 {
				d, _ = disk.Flush(d)
				m.flush()
			}
		}
		for keep := range 256 {
			m.crashesTo(t, d, keep)
			m.crashesTo(t, d, 1<<31-1-keep)
		}
		for bit := range 63 {
			m.crashesTo(t, d, 1<<bit)
			m.crashesTo(t, d, math.MaxInt-1<<bit)
		}
		flushed, _ := disk.Flush(d)
		m.flush()
		for _, keep := range []int{0, 1, 1<<31 - 1, math.MaxInt} {
			m.crashesTo(t, flushed, keep)
		}
	}
}

// anyDisk is a valid disk.
func anyDisk(random *rand.Rand) api.Disk {
	d := api.Disk{Reqs: random.Intn(9), Left: random.Intn(4) - 1, Cells: make([]api.Cell, 1+random.Intn(6))}
	text := func() []byte { return filled(random.Intn(5), byte(random.Intn(256))) }
	for i := range d.Cells {
		d.Cells[i] = api.Cell{State: random.Intn(3), Bytes: text(), Old: text()}
	}
	for range random.Intn(3) * random.Intn(6) {
		d.Cache = append(d.Cache, api.Write{Addr: random.Intn(len(d.Cells)), Bytes: text()})
	}
	return d
}

// anyCall is a call with a disk of up to 6 cells.
func anyCall(random *rand.Rand) call {
	c := call{f: []string{"Check", "Read", "Write", "Flush", "Crash", "Fault"}[random.Intn(6)], a: random.Intn(8) - 1, b: filled(random.Intn(5), byte(random.Intn(256)))}
	c.keep = int(random.Uint64()) >> random.Intn(60)
	c.kind, c.from, c.bit, c.bits = 10+random.Intn(7), random.Intn(8)-1, random.Intn(40)-1, random.Intn(40)-1
	return c
}

// P6.1, P6.2: any calls with any disks, and each call with what the one before it returned.
func TestAnyCalls(t *testing.T) {
	random := rand.New(rand.NewSource(2))
	for range 20000 {
		d := anyDisk(random)
		for range 10 {
			c := anyCall(random)
			holds(t, d, c)
			if r := c.do(d); len(r.d.Cells) > 0 {
				d = r.d
			}
		}
	}
}

// spare is b with other bytes behind its length.
func spare(b []byte) []byte {
	return slices.Concat(b, []byte{1, 2, 3})[:len(b)]
}

// spacious is d with other things behind the length of each of its lists.
func spacious(d api.Disk) api.Disk {
	next := copied(d)
	for i := range next.Cells {
		next.Cells[i].Bytes, next.Cells[i].Old = spare(next.Cells[i].Bytes), spare(next.Cells[i].Old)
	}
	for i := range next.Cache {
		next.Cache[i].Bytes = spare(next.Cache[i].Bytes)
	}
	next.Cells = append(next.Cells, api.Cell{State: 2, Bytes: spare([]byte{4}), Old: spare([]byte{5})}, api.Cell{State: 1})[:len(next.Cells)]
	next.Cache = append(next.Cache, api.Write{Addr: 1, Bytes: spare([]byte{6})}, api.Write{Addr: 2})[:len(next.Cache)]
	return next
}

// lists are all lists of bytes of d and of those behind its lengths, each with all its memory.
func lists(d api.Disk) (l [][]byte) {
	add := func(b []byte) { l = append(l, b[:cap(b)]) }
	for _, c := range d.Cells[:cap(d.Cells)] {
		add(c.Bytes)
		add(c.Old)
	}
	for _, w := range d.Cache[:cap(d.Cache)] {
		add(w.Bytes)
	}
	return l
}

// whole is a text of d with all that is behind its lengths.
func whole(d api.Disk) string {
	var states []int
	for _, c := range d.Cells[:cap(d.Cells)] {
		states = append(states, c.State, len(c.Bytes), len(c.Old))
	}
	for _, w := range d.Cache[:cap(d.Cache)] {
		states = append(states, w.Addr, len(w.Bytes))
	}
	return fmt.Sprint(d, states, lists(d))
}

// overwrite writes to all memory of d and b, and tells an error if a list shares memory with another one.
func overwrite(t *testing.T, d api.Disk, b []byte) {
	t.Helper()
	l := append(lists(d), b[:cap(b)])
	if len(l) > 256 {
		t.Fatal("more lists than bytes to tell them by")
	}
	for i, list := range l {
		copy(list, filled(len(list), byte(i)))
	}
	for i, list := range l {
		if !bytes.Equal(list, filled(len(list), byte(i))) {
			t.Fatalf("%s, % x: two lists share memory", told(d), b)
		}
	}
	for i := range d.Cells[:cap(d.Cells)] {
		d.Cells[:cap(d.Cells)][i] = api.Cell{State: 9, Bytes: []byte{9}}
	}
	for i := range d.Cache[:cap(d.Cache)] {
		d.Cache[:cap(d.Cache)][i] = api.Write{Addr: 9, Bytes: []byte{9}}
	}
}

// P6.1, P6.2 under R2: what is handed in stays as it was, its spare capacity too, also when all memory of the answer is written to,
// the lists of which share none with each other; and the call answers the same then.
func TestMemory(t *testing.T) {
	random := rand.New(rand.NewSource(3))
	for i := range 6000 {
		d, c := spacious(anyDisk(random)), anyCall(random)
		if i%3 == 0 {
			d.Cache = d.Cache[:0]
		}
		c.b = spare(c.b)
		was, wasB := whole(d), fmt.Sprint(c.b[:cap(c.b)])
		want := c.want(copied(d))
		for range 2 {
			answers(t, d, c, want)
			r := c.do(d)
			overwrite(t, r.d, r.b)
			if whole(d) != was || fmt.Sprint(c.b[:cap(c.b)]) != wasB {
				t.Fatalf("%+v: %s has become %s", c, was, whole(d))
			}
		}
	}
	first, _ := disk.New(3)
	overwrite(t, first, nil)
	if second, _ := disk.New(3); !sameDisk(second, api.Disk{Cells: make([]api.Cell, 3), Left: -1}) {
		t.Fatal("two disks share memory")
	}
}

// P6.1, P6.2 under R3 and R6: what is behind a length does not matter and is not returned, not even behind the length of an answer.
func TestSpare(t *testing.T) {
	random := rand.New(rand.NewSource(4))
	for range 4000 {
		d, c := spacious(anyDisk(random)), anyCall(random)
		c.b = spare(c.b)
		r := c.do(d)
		clear(c.b[len(c.b):cap(c.b)])
		for _, cell := range d.Cells {
			clear(cell.Bytes[len(cell.Bytes):cap(cell.Bytes)])
			clear(cell.Old[len(cell.Old):cap(cell.Old)])
		}
		for _, w := range d.Cache {
			clear(w.Bytes[len(w.Bytes):cap(w.Bytes)])
		}
		clear(d.Cells[len(d.Cells):cap(d.Cells)])
		clear(d.Cache[len(d.Cache):cap(d.Cache)])
		again := c.do(d)
		if whole(r.d) != whole(again.d) || !bytes.Equal(r.b[:cap(r.b)], again.b[:cap(again.b)]) || r.e != again.e {
			t.Fatalf("%+v: %s, then %s", c, whole(r.d), whole(again.d))
		}
	}
}

// P6.1, P6.2, P6.3: scripts of any calls; of each disk on the way the answers are those of the document.
func FuzzDisk(f *testing.F) {
	f.Add([]byte{2, 0, 5, 3, 0, 0, 1, 0, 0}, 3, -1, 0, 0)
	f.Add([]byte{2, 1, 5, 2, 2, 6, 4, 0, 2, 11, 1, 1, 1, 1, 0, 17, 2, 0, 2, 2, 1}, 300, 4, 7, 1)
	f.Add([]byte{2, 0, 200, 2, 0, 201, 3, 0, 0, 23, 0, 13, 29, 0, 14, 35, 0, 0, 35, 0, 1}, 1, 20, -1, -1)
	f.Fuzz(func(t *testing.T, script []byte, n, left, x, y int) {
		d, e := disk.New(n)
		if (e == api.OK) != (n >= 1 && n <= 300) {
			t.Fatalf("New(%d): %d", n, e)
		}
		d.Left = left
		for i := 0; i+3 <= min(len(script), 90); i += 3 {
			kind, a, c := int(script[i]), int(script[i+1]), int(script[i+2])
			asked := call{f: []string{"Check", "Read", "Write", "Flush", "Crash", "Fault"}[kind%6], a: a, b: filled(c, byte(i)), keep: x ^ c, kind: 10 + kind/6%7, from: c, bit: x + a, bits: y + c}
			holds(t, d, asked)
			if r := asked.do(d); len(r.d.Cells) > 0 {
				d = r.d
			}
		}
	})
}
