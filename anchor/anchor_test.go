package anchor_test

import (
	"bytes"
	"math"
	"math/rand"
	"slices"
	"strings"
	"testing"
	"unicode/utf8"
	"unsafe"

	"casemate/anchor"
	"casemate/api"
)

// geo is a geometry.
func geo(zones, data, spares, slots, anchors int) api.Geometry {
	return api.Geometry{Zones: zones, Data: data, Spares: spares, Slots: slots, Anchors: anchors}
}

// small is one between, least and greatest are the smallest and the greatest valid geometry.
var (
	small    = geo(2, 3, 1, 14, 2)
	least    = geo(1, 1, 0, 14, 1)
	greatest = geo(4, 4, 2, 30, 3)
)

// geometries are all valid ones.
func geometries() (l []api.Geometry) {
	for zones := 1; zones <= 4; zones++ {
		for data := 1; data <= 4; data++ {
			for spares := 0; spares <= 2; spares++ {
				for slots := 14; slots <= 30; slots++ {
					for anchors := 1; anchors <= 3; anchors++ {
						l = append(l, geo(zones, data, spares, slots, anchors))
					}
				}
			}
		}
	}
	return l
}

// wrongGeometries are such as are not valid: each number one beyond each of its bounds and far out, and all of them at once.
func wrongGeometries() (l []api.Geometry) {
	l = []api.Geometry{{}, geo(-1, -1, -1, -1, -1)}
	for _, g := range []api.Geometry{small, least, greatest} {
		for _, n := range []int{math.MinInt, -1, math.MaxInt} {
			l = append(l, geo(n, g.Data, g.Spares, g.Slots, g.Anchors), geo(g.Zones, n, g.Spares, g.Slots, g.Anchors), geo(g.Zones, g.Data, n, g.Slots, g.Anchors))
			l = append(l, geo(g.Zones, g.Data, g.Spares, n, g.Anchors), geo(g.Zones, g.Data, g.Spares, g.Slots, n))
		}
		l = append(l, geo(0, g.Data, g.Spares, g.Slots, g.Anchors), geo(5, g.Data, g.Spares, g.Slots, g.Anchors))
		l = append(l, geo(g.Zones, 0, g.Spares, g.Slots, g.Anchors), geo(g.Zones, 5, g.Spares, g.Slots, g.Anchors))
		l = append(l, geo(g.Zones, g.Data, 3, g.Slots, g.Anchors))
		l = append(l, geo(g.Zones, g.Data, g.Spares, 13, g.Anchors), geo(g.Zones, g.Data, g.Spares, 31, g.Anchors))
		l = append(l, geo(g.Zones, g.Data, g.Spares, g.Slots, 0), geo(g.Zones, g.Data, g.Spares, g.Slots, 4))
	}
	return l
}

// extremes are numbers far out, and such as a sum or a conversion could wrap round with. None is valid anywhere.
func extremes() []int {
	return []int{
		math.MinInt, math.MinInt + 1, math.MinInt / 2, -1 << 32, -1<<32 + 1, math.MinInt32, -1 << 16, -256, -255, -100, -2,
		1<<32 + 1, 1<<32 + 2, 1 << 33, 1 << 40, 1 << 62, math.MaxInt / 2, math.MaxInt - 1, math.MaxInt,
	}
}

// The document's words, as a second program that is to answer the same.

// number appends n in size bytes: each byte is the remainder by 256 of what is left.
func number(b []byte, n, size int) []byte {
	for range size {
		b = append(b, byte(n%256))
		n /= 256
	}
	return b
}

// wantBytes is the encoding of a, valid or not, as far as its numbers have that many bytes.
func wantBytes(a api.Anchor) (b []byte) {
	for _, n := range []int{a.Gen, a.Epoch, a.Seq, a.Last} {
		b = number(b, n, 4)
	}
	b = append(number(number(b, a.Pos, 1), len(a.Label), 1), a.Label...)
	for _, home := range a.Homes {
		for _, place := range home.Places {
			b = number(b, place, 1)
		}
		b = number(number(b, home.Next, 1), home.Root, 4)
	}
	return b
}

// hasBytes tells whether the numbers of a have as many bytes as an encoding gives them.
func hasBytes(a api.Anchor) bool {
	four, one := []int{a.Gen, a.Epoch, a.Seq, a.Last}, []int{a.Pos, len(a.Label)}
	for _, home := range a.Homes {
		four = append(four, home.Root)
		one = append(append(one, home.Next), home.Places...)
	}
	return !slices.ContainsFunc(four, func(n int) bool { return n < 0 || n > 0xffffffff }) &&
		!slices.ContainsFunc(one, func(n int) bool { return n < 0 || n > 0xff })
}

// wantLabel is what is to be told of a label.
func wantLabel(s string) api.Errno {
	switch {
	case !utf8.ValidString(s) || strings.ContainsFunc(s, func(r rune) bool { return r < 0x20 || r == 0x7f }):
		return api.ErrText
	case utf8.RuneCountInString(s) > 6:
		return api.ErrLen
	}
	return api.OK
}

// isValid tells whether a is a valid anchor of the valid geometry g.
func isValid(g api.Geometry, a api.Anchor) bool {
	for _, n := range []int{a.Gen, a.Epoch, a.Seq, a.Last} {
		if n < 0 || n > 4294967295 {
			return false
		}
	}
	if a.Seq == 0 || a.Seq-a.Last > 1 || a.Pos < 0 || a.Pos > g.Slots-1 {
		return false
	}
	return wantLabel(a.Label) == api.OK && len(a.Homes) == g.Zones && !slices.ContainsFunc(a.Homes, func(home api.Home) bool { return !isHome(g, home) })
}

// isHome tells it of a Home: it takes each place from the slots of the zone, where each is once, and Next from those that may be.
func isHome(g api.Geometry, home api.Home) bool {
	if len(home.Places) != g.Data+1 || home.Root < 0 || home.Root > 4294967295 {
		return false
	}
	left := map[int]int{}
	for slot := range g.Data + 1 + g.Spares {
		left[slot] = 1
	}
	for _, place := range home.Places {
		if left[place] == 0 {
			return false
		}
		left[place]--
	}
	for next := g.Data + 1; next <= g.Data+1+g.Spares; next++ {
		if next == home.Next && next > slices.Max(home.Places) {
			return true
		}
	}
	return false
}

// wantRead is the anchor of which b is the encoding, if there is one: its numbers and its label are taken from b one after the other,
// with zeros where b has ended, and its encoding then has to be b.
func wantRead(g api.Geometry, b []byte) (a api.Anchor, ok bool) {
	at := 0
	take := func(size int) (n int) {
		for i := range size {
			if at+i < len(b) {
				n += int(b[at+i]) << (8 * i)
			}
		}
		at += size
		return n
	}
	a = api.Anchor{Gen: take(4), Epoch: take(4), Seq: take(4), Last: take(4), Pos: take(1)}
	length := take(1)
	a.Label = string(b[min(at, len(b)):min(at+length, len(b))])
	at += length
	for range g.Zones {
		var home api.Home
		for range g.Data + 1 {
			home.Places = append(home.Places, take(1))
		}
		home.Next, home.Root = take(1), take(4)
		a.Homes = append(a.Homes, home)
	}
	return a, bytes.Equal(wantBytes(a), b) && isValid(g, a)
}

// wantFirst is the anchor of a new volume.
func wantFirst(g api.Geometry, text string) api.Anchor {
	a := api.Anchor{Gen: 1, Epoch: 0, Pos: 0, Seq: 1, Last: 0, Label: text}
	for range g.Zones {
		a.Homes = append(a.Homes, api.Home{Places: []int{0, 1, 2, 3, 4}[:g.Data+1], Next: g.Data + 1, Root: 0})
	}
	return a
}

// The answers, held against what they are to be.

// isSame tells whether two anchors are the same. Nil and empty mean the same.
func isSame(a, b api.Anchor) bool {
	if a.Gen != b.Gen || a.Epoch != b.Epoch || a.Pos != b.Pos || a.Seq != b.Seq || a.Last != b.Last || a.Label != b.Label {
		return false
	}
	return slices.EqualFunc(a.Homes, b.Homes, func(a, b api.Home) bool {
		return slices.Equal(a.Places, b.Places) && a.Next == b.Next && a.Root == b.Root
	})
}

// fails tells an error unless the answer is the error want and nothing beside it.
func fails(t *testing.T, what string, a api.Anchor, e, want api.Errno) {
	t.Helper()
	if e != want || !isSame(a, api.Anchor{}) {
		t.Fatalf("%s = %+v, %v, not the error %v alone", what, a, e, want)
	}
}

// firsts tells an error unless First answers as the document says, for a valid geometry.
func firsts(t *testing.T, g api.Geometry, text string) {
	t.Helper()
	a, e := anchor.First(g, text)
	if want := wantLabel(text); want != api.OK {
		fails(t, "First", a, e, want)
		return
	}
	if e != api.OK || !isSame(a, wantFirst(g, text)) {
		t.Fatalf("First(%+v, %q) = %+v, %v", g, text, a, e)
	}
	isRight(t, g, a, true)
}

// isRight tells an error unless Check and Bytes answer of a that it is valid, or that it is not, and Read of its encoding the same.
func isRight(t *testing.T, g api.Geometry, a api.Anchor, valid bool) {
	t.Helper()
	if isValid(g, a) != valid {
		t.Fatalf("the test says of %+v and of %+v: valid is %v", g, a, valid)
	}
	e := anchor.Check(g, a)
	b, bytesError := anchor.Bytes(g, a)
	if !valid {
		if e != api.ErrArg || b != nil || bytesError != api.ErrArg {
			t.Fatalf("%+v, %+v: Check = %v, Bytes = % x, %v, want ErrArg", g, a, e, b, bytesError)
		}
		if hasBytes(a) {
			reads(t, g, wantBytes(a))
		}
		return
	}
	if e != api.OK || bytesError != api.OK || !bytes.Equal(b, wantBytes(a)) {
		t.Fatalf("%+v, %+v: Check = %v, Bytes = % x, %v, want % x", g, a, e, b, bytesError, wantBytes(a))
	}
	if len(b) > 96 || len(b) != 16+1+1+len(a.Label)+g.Zones*(g.Data+1+1+4) {
		t.Fatalf("%+v, %+v: %d bytes", g, a, len(b))
	}
	readsAs(t, g, b, a)
}

// readsAs tells an error unless Read of b is the anchor want.
func readsAs(t *testing.T, g api.Geometry, b []byte, want api.Anchor) {
	t.Helper()
	if a, e := anchor.Read(g, b); e != api.OK || !isSame(a, want) {
		t.Fatalf("Read(%+v, % x) = %+v, %v, want %+v", g, b, a, e, want)
	}
}

// readsNot tells an error unless Read of b is ErrBytes and nothing beside it.
func readsNot(t *testing.T, g api.Geometry, b []byte) {
	t.Helper()
	a, e := anchor.Read(g, b)
	fails(t, "Read", a, e, api.ErrBytes)
}

// reads tells an error unless Read of b answers as the document says, for a valid geometry.
func reads(t *testing.T, g api.Geometry, b []byte) {
	t.Helper()
	if want, ok := wantRead(g, b); ok {
		readsAs(t, g, b, want)
	} else {
		readsNot(t, g, b)
	}
}

// Anchors to ask of.

// labels are valid labels: none, one rune and six, of one byte to four each.
func labels() []string {
	l := []string{"", "né", "disk 1", " ", "~", "\u0080", "\ufffd", "\U0010ffff"}
	for _, r := range []string{"a", "é", "水", "😀"} {
		l = append(l, r, strings.Repeat(r, 5), strings.Repeat(r, 6))
	}
	return l
}

// wrongLabels are labels that are not valid: no UTF-8, runes that may not be, too many runes, and both.
func wrongLabels() []string {
	l := []string{"\xff", "a\xc3", "\xe2\x82", "\xed\xa0\x80", "\xc0\x80", "\xf4\x90\x80\x80", "\x00", "\n", "\x1f", "\x7f", "abcde\n", "\nabcdef", "abcdefg\xff"}
	for _, r := range []string{"a", "é", "水", "😀"} {
		l = append(l, strings.Repeat(r, 7), strings.Repeat(r, 60), strings.Repeat(r, 256), strings.Repeat(r, 256+6))
	}
	return l
}

// clone is a copy of a that shares nothing with it.
func clone(a api.Anchor) api.Anchor {
	a.Homes = slices.Clone(a.Homes)
	for i := range a.Homes {
		a.Homes[i].Places = slices.Clone(a.Homes[i].Places)
	}
	return a
}

// anyAnchor returns a valid anchor of g.
func anyAnchor(random *rand.Rand, g api.Geometry) api.Anchor {
	nums := []int{0, 1, 255, 256, 65535, 65536, 1<<31 - 1, 1 << 31, api.MaxNum, int(random.Uint32())}
	num := func() int { return nums[random.Intn(len(nums))] }
	a := api.Anchor{Gen: num(), Epoch: num(), Pos: random.Intn(g.Slots), Seq: max(num(), 1), Label: labels()[random.Intn(len(labels()))]}
	a.Last = max(num(), a.Seq-1)
	for range g.Zones {
		places := random.Perm(g.Data + 1 + g.Spares)[:g.Data+1]
		low := max(g.Data+1, slices.Max(places)+1)
		a.Homes = append(a.Homes, api.Home{Places: places, Next: low + random.Intn(g.Data+1+g.Spares-low+1), Root: num()})
	}
	return a
}

// P8.1: the chapter's example, and the encodings of others by hand.
func TestBytesByHand(t *testing.T) {
	for _, test := range []struct {
		g    api.Geometry
		a    api.Anchor
		want []byte
	}{
		{
			least,
			api.Anchor{Gen: 1, Seq: 1, Homes: []api.Home{{Places: []int{0, 1}, Next: 2}}},
			[]byte{1, 0, 0, 0, 0, 0, 0, 0, 1, 0, 0, 0, 0, 0, 0, 0, 0, 0, 0, 1, 2, 0, 0, 0, 0},
		},
		{
			geo(2, 1, 2, 15, 3),
			api.Anchor{Gen: 0x04030201, Epoch: 0x08070605, Seq: 0x0c0b0a09, Last: 0x100f0e0d, Pos: 14, Label: "né", Homes: []api.Home{
				{Places: []int{3, 1}, Next: 4, Root: 0x14131211}, {Places: []int{1, 0}, Next: 3, Root: 0x18171615},
			}},
			[]byte{1, 2, 3, 4, 5, 6, 7, 8, 9, 10, 11, 12, 13, 14, 15, 16, 14, 3, 'n', 0xc3, 0xa9, 3, 1, 4, 17, 18, 19, 20, 1, 0, 3, 21, 22, 23, 24},
		},
		{
			geo(1, 4, 0, 30, 1),
			api.Anchor{Gen: 1<<32 - 1, Epoch: 255, Seq: 65536, Last: 65535, Pos: 29, Label: "水", Homes: []api.Home{{Places: []int{4, 0, 3, 1, 2}, Next: 5, Root: 1<<32 - 2}}},
			[]byte{255, 255, 255, 255, 255, 0, 0, 0, 0, 0, 1, 0, 255, 255, 0, 0, 29, 3, 0xe6, 0xb0, 0xb4, 4, 0, 3, 1, 2, 5, 254, 255, 255, 255},
		},
	} {
		if b, e := anchor.Bytes(test.g, test.a); e != api.OK || !bytes.Equal(b, test.want) {
			t.Errorf("Bytes(%+v) = % x, %v, want % x", test.a, b, e, test.want)
		}
		readsAs(t, test.g, test.want, test.a)
		isRight(t, test.g, test.a, true)
	}
	if b, _ := anchor.Bytes(least, wantFirst(least, "")); len(b) != 16+1+1+2+1+4 {
		t.Errorf("%d bytes, want 25", len(b))
	}
}

// bases are valid anchors, each with its geometry: small ones, the greatest, and such as leave room below and above each number.
func bases() (l []base) {
	random := rand.New(rand.NewSource(1))
	for _, g := range []api.Geometry{small, least, greatest, geo(3, 2, 0, 20, 1), geo(2, 1, 2, 15, 3)} {
		l = append(l, base{g, wantFirst(g, "né")})
		for range 8 {
			l = append(l, base{g, anyAnchor(random, g)})
		}
	}
	return l
}

type base struct {
	g api.Geometry
	a api.Anchor
}

// with tells an error unless the anchor of b in which change has made one change is valid, or is not.
func (b base) with(t *testing.T, valid bool, change func(a *api.Anchor)) {
	t.Helper()
	a := clone(b.a)
	change(&a)
	isRight(t, b.g, a, valid)
}

// P8.1: what the other tests set out from is valid.
func TestBases(t *testing.T) {
	for _, b := range bases() {
		b.with(t, true, func(*api.Anchor) {})
	}
}

// P8.1: Gen, Epoch and each Root are from 0 to MaxNum, in the last zone as in the first.
func TestNumbers(t *testing.T) {
	for _, b := range bases() {
		fields := []func(a *api.Anchor) *int{func(a *api.Anchor) *int { return &a.Gen }, func(a *api.Anchor) *int { return &a.Epoch }}
		for zone := range b.g.Zones {
			fields = append(fields, func(a *api.Anchor) *int { return &a.Homes[zone].Root })
		}
		for _, field := range fields {
			for _, n := range []int{0, 1, 1 << 31, api.MaxNum - 1, api.MaxNum} {
				b.with(t, true, func(a *api.Anchor) { *field(a) = n })
			}
			for _, n := range append(extremes(), -1, api.MaxNum+1) {
				b.with(t, false, func(a *api.Anchor) { *field(a) = n })
			}
		}
	}
}

// P8.1: Seq is from 1 to MaxNum, whatever Last is, and Last from Seq - 1 to MaxNum.
func TestSeqAndLast(t *testing.T) {
	for _, test := range []struct {
		seq, last int
		valid     bool
	}{
		{1, 0, true}, {1, 1, true}, {1, api.MaxNum, true}, {1, -1, false}, {1, api.MaxNum + 1, false},
		{2, 1, true}, {2, 2, true}, {2, 0, false}, {2, -1, false},
		{5, 4, true}, {5, 5, true}, {5, 9, true}, {5, 3, false}, {5, 0, false},
		{1 << 31, 1<<31 - 1, true}, {1 << 31, 1<<31 - 2, false},
		{api.MaxNum, api.MaxNum - 1, true}, {api.MaxNum, api.MaxNum, true}, {api.MaxNum, api.MaxNum - 2, false}, {api.MaxNum, 0, false}, {api.MaxNum, api.MaxNum + 1, false},
		{api.MaxNum + 1, api.MaxNum, false}, {api.MaxNum + 1, api.MaxNum + 1, false}, {api.MaxNum + 2, api.MaxNum, false},
		{0, 0, false}, {0, -1, false}, {0, api.MaxNum, false}, {-1, 0, false}, {-1, -2, false}, {-1, -1, false},
		{math.MinInt, math.MinInt, false}, {math.MinInt, math.MaxInt, false}, {math.MinInt, 0, false}, {math.MinInt, api.MaxNum, false},
		{math.MaxInt, math.MaxInt, false}, {math.MaxInt, math.MaxInt - 1, false}, {math.MaxInt, 0, false}, {math.MaxInt, math.MinInt, false},
	} {
		for _, b := range bases() {
			b.with(t, test.valid, func(a *api.Anchor) { a.Seq, a.Last = test.seq, test.last })
		}
	}
	for _, b := range bases() {
		for _, n := range extremes() {
			b.with(t, false, func(a *api.Anchor) { a.Seq = n })
			b.with(t, false, func(a *api.Anchor) { a.Last = n })
			b.with(t, false, func(a *api.Anchor) { a.Seq, a.Last = n, api.MaxNum })
		}
	}
}

// P8.1: Pos is a slot of the log.
func TestPos(t *testing.T) {
	for _, b := range bases() {
		for pos := range b.g.Slots {
			b.with(t, true, func(a *api.Anchor) { a.Pos = pos })
		}
		for _, pos := range append(extremes(), -1, b.g.Slots, b.g.Slots+1, 255, 256, 256+13) {
			b.with(t, false, func(a *api.Anchor) { a.Pos = pos })
		}
	}
}

// P8.1: the Label is valid.
func TestLabel(t *testing.T) {
	for _, b := range bases() {
		for _, text := range labels() {
			b.with(t, true, func(a *api.Anchor) { a.Label = text })
		}
		for _, text := range wrongLabels() {
			b.with(t, false, func(a *api.Anchor) { a.Label = text })
		}
	}
}

// P8.1: there is one Home for each zone.
func TestHomes(t *testing.T) {
	for _, b := range bases() {
		b.with(t, false, func(a *api.Anchor) { a.Homes = nil })
		b.with(t, false, func(a *api.Anchor) { a.Homes = []api.Home{} })
		b.with(t, false, func(a *api.Anchor) { a.Homes = a.Homes[:len(a.Homes)-1] })
		b.with(t, false, func(a *api.Anchor) { a.Homes = append(a.Homes, a.Homes[0]) })
		b.with(t, false, func(a *api.Anchor) { a.Homes = append(a.Homes, api.Home{}) })
		b.with(t, false, func(a *api.Anchor) { a.Homes = slices.Repeat(a.Homes, 1000) })
		for zone := range b.g.Zones {
			b.with(t, false, func(a *api.Anchor) { a.Homes[zone] = api.Home{} })
		}
	}
}

// P8.1: a Home has Data + 1 Places.
func TestNumberOfPlaces(t *testing.T) {
	for _, b := range bases() {
		for zone := range b.g.Zones {
			places := b.a.Homes[zone].Places
			free := 0
			for slices.Contains(places, free) {
				free++
			}
			for _, wrong := range [][]int{nil, {}, places[:1], places[:b.g.Data], places[1:], slices.Concat(places, places[:1]), slices.Concat(places, []int{free}), slices.Repeat(places, 1000)} {
				if len(wrong) != b.g.Data+1 {
					b.with(t, false, func(a *api.Anchor) { a.Homes[zone].Places = wrong })
				}
			}
			b.with(t, false, func(a *api.Anchor) {
				a.Homes[zone].Places, a.Homes[zone].Next = slices.Concat(places, []int{free}), b.g.Data+1+b.g.Spares
			})
		}
	}
}

// home tells an error unless the anchors of g in which one zone, the first or the last or any other, has this Home are valid, or are not.
func home(t *testing.T, g api.Geometry, places []int, next int, valid bool) {
	t.Helper()
	for zone := range g.Zones {
		a := wantFirst(g, "x")
		a.Homes[zone] = api.Home{Places: places, Next: next, Root: 7}
		isRight(t, g, a, valid)
	}
}

// P8.1: the Places of a Home and its Next at their edges, by hand.
func TestHomeByHand(t *testing.T) {
	for _, test := range []struct {
		places []int
		next   int
		valid  bool
	}{
		{[]int{0, 1, 2}, 3, true}, {[]int{0, 1, 2}, 4, true}, {[]int{0, 1, 2}, 5, true}, // from Data + 1 to Data + 1 + Spares
		{[]int{0, 1, 2}, 2, false}, {[]int{0, 1, 2}, 6, false}, {[]int{0, 1, 2}, 0, false}, {[]int{0, 1, 2}, -1, false}, {[]int{0, 1, 2}, 7, false},
		{[]int{2, 1, 0}, 3, true}, {[]int{1, 2, 0}, 3, true}, {[]int{1, 0, 2}, 5, true},
		{[]int{3, 1, 0}, 4, true}, {[]int{3, 1, 0}, 5, true}, {[]int{3, 1, 0}, 3, false}, {[]int{1, 3, 0}, 3, false}, {[]int{0, 1, 3}, 3, false}, {[]int{0, 1, 3}, 4, true},
		{[]int{4, 1, 0}, 5, true}, {[]int{4, 1, 0}, 4, false}, {[]int{0, 4, 1}, 4, false}, {[]int{1, 0, 4}, 4, false}, {[]int{1, 0, 4}, 5, true}, {[]int{1, 0, 4}, 3, false},
		{[]int{4, 3, 2}, 5, true}, {[]int{2, 3, 4}, 5, true}, {[]int{4, 3, 2}, 6, false},
		{[]int{5, 1, 0}, 5, false}, {[]int{5, 1, 0}, 6, false}, {[]int{0, 5, 1}, 5, false}, {[]int{0, 1, 5}, 5, false}, {[]int{0, 1, 5}, 6, false}, {[]int{0, 1, 6}, 7, false},
		{[]int{-1, 1, 2}, 3, false}, {[]int{0, -1, 2}, 3, false}, {[]int{0, 1, -1}, 5, false},
		{[]int{0, 0, 2}, 3, false}, {[]int{0, 1, 0}, 3, false}, {[]int{2, 1, 2}, 5, false}, {[]int{0, 4, 4}, 5, false}, {[]int{1, 1, 1}, 5, false}, {[]int{256, 1, 2}, 3, false},
		{[]int{math.MinInt, 1, 2}, 3, false}, {[]int{0, 1, math.MinInt}, 3, false}, {[]int{math.MaxInt, 1, 2}, 5, false}, {[]int{0, 1, math.MaxInt}, math.MaxInt, false},
		{[]int{0, 1, 2}, math.MinInt, false}, {[]int{0, 1, 2}, math.MaxInt, false}, {[]int{0, 1, 2}, 256 + 3, false},
	} {
		home(t, geo(4, 2, 2, 14, 1), test.places, test.next, test.valid)
		home(t, geo(1, 2, 2, 14, 1), test.places, test.next, test.valid)
	}
	for _, next := range []int{0, 1, 3, 4} {
		home(t, least, []int{0, 1}, next, false)
		home(t, least, []int{1, 0}, next, false)
	}
	home(t, least, []int{0, 1}, 2, true)
	home(t, least, []int{1, 0}, 2, true)
}

// homes calls f with Places and Next of any numbers about those that may be: from -1 to two more than the zone has slots.
func homes(g api.Geometry, f func(places []int, next int)) {
	top := g.Data + 1 + g.Spares + 1
	places := make([]int, 0, g.Data+1)
	var grow func()
	grow = func() {
		if len(places) == g.Data+1 {
			for next := -1; next <= top; next++ {
				f(places, next)
			}
			return
		}
		for place := -1; place <= top-1; place++ {
			places = append(places, place)
			grow()
			places = places[:len(places)-1]
		}
	}
	grow()
}

// P8.1: each Home there is, and many that are none, for each number of blocks and of spares.
func TestEachHome(t *testing.T) {
	for data := 1; data <= 4; data++ {
		for spares := range 3 {
			g := geo(1, data, spares, 14, 1)
			a := wantFirst(g, "")
			valid := 0
			homes(g, func(places []int, next int) {
				a.Homes[0].Places, a.Homes[0].Next = places, next
				want := api.ErrArg
				if isHome(g, a.Homes[0]) {
					want = api.OK
					valid++
				}
				if e := anchor.Check(g, a); e != want {
					t.Fatalf("%+v: Check(%+v) = %v, want %v", g, a, e, want)
				}
			})
			if want := homeCount(data, spares); valid != want {
				t.Fatalf("%+v: %d Homes, want %d", g, valid, want)
			}
		}
	}
}

// homeCount is how many Homes there are but for Root: for each Next, the ways to take Data + 1 places from those below it, one after the other.
func homeCount(data, spares int) (n int) {
	for next := data + 1; next <= data+1+spares; next++ {
		ways := 1
		for taken := range data + 1 {
			ways *= next - taken
		}
		n += ways
	}
	return n
}

// P8.1, R4: with a geometry that is not valid, each function answers ErrArg and nothing beside it, whatever else is wrong or right.
func TestWrongGeometries(t *testing.T) {
	for _, g := range wrongGeometries() {
		for _, b := range append(bases(), base{a: api.Anchor{}}, base{a: api.Anchor{Gen: -1, Label: "\n"}}) {
			if e := anchor.Check(g, b.a); e != api.ErrArg {
				t.Fatalf("Check(%+v) = %v", g, e)
			}
			if x, e := anchor.Bytes(g, b.a); e != api.ErrArg || x != nil {
				t.Fatalf("Bytes(%+v) = % x, %v", g, x, e)
			}
			for _, x := range [][]byte{nil, {}, {1, 2, 3}, wantBytes(b.a)} {
				a, e := anchor.Read(g, x)
				fails(t, "Read", a, e, api.ErrArg)
			}
		}
		for _, text := range append(labels(), wrongLabels()...) {
			a, e := anchor.First(g, text)
			fails(t, "First", a, e, api.ErrArg)
		}
	}
}

// P8.1: First by hand, and its errors in their order.
func TestFirstByHand(t *testing.T) {
	a, e := anchor.First(small, "né")
	want := api.Anchor{Gen: 1, Seq: 1, Label: "né", Homes: []api.Home{{Places: []int{0, 1, 2, 3}, Next: 4}, {Places: []int{0, 1, 2, 3}, Next: 4}}}
	if e != api.OK || !isSame(a, want) {
		t.Errorf("%+v, %v", a, e)
	}
	a, e = anchor.First(least, "")
	if want := (api.Anchor{Gen: 1, Seq: 1, Homes: []api.Home{{Places: []int{0, 1}, Next: 2}}}); e != api.OK || !isSame(a, want) {
		t.Errorf("%+v, %v", a, e)
	}
	for _, test := range []struct {
		text string
		want api.Errno
	}{
		{"\n", api.ErrText}, {"\xff", api.ErrText}, {"\x7f", api.ErrText}, {"abcdef\n", api.ErrText}, {"\nabcdef", api.ErrText}, {"abcdefg", api.ErrLen}, {"ééééééé", api.ErrLen},
	} {
		for _, g := range []api.Geometry{small, least, greatest} {
			a, e := anchor.First(g, test.text)
			fails(t, "First", a, e, test.want)
		}
		a, e := anchor.First(geo(0, 1, 1, 14, 1), test.text)
		fails(t, "First", a, e, api.ErrArg)
	}
}

// P8.1: First for each geometry and for labels of any kind. What it returns is valid (firsts holds that too).
func TestFirst(t *testing.T) {
	for i, g := range geometries() {
		firsts(t, g, labels()[i%len(labels())])
		firsts(t, g, wrongLabels()[i%len(wrongLabels())])
	}
	for _, g := range []api.Geometry{small, least, greatest} {
		for _, text := range append(labels(), wrongLabels()...) {
			firsts(t, g, text)
		}
	}
}

// P8.1: the length of an encoding: the shortest, the longest, and some between, by hand.
func TestLength(t *testing.T) {
	for _, test := range []struct {
		g    api.Geometry
		text string
		want int
	}{
		{least, "", 25}, {least, "a", 26}, {least, "né", 28}, {least, "😀😀😀😀😀😀", 49}, {geo(1, 1, 2, 30, 3), "", 25},
		{small, "", 36}, {small, "水水", 42}, {geo(4, 1, 0, 14, 1), "", 46}, {geo(1, 4, 0, 14, 1), "", 28}, {greatest, "", 58}, {greatest, "abcdef", 64}, {greatest, "😀😀😀😀😀😀", 82},
	} {
		b, e := anchor.Bytes(test.g, wantFirst(test.g, test.text))
		if len(b) != test.want || len(b) > api.MaxPayload || e != api.OK {
			t.Errorf("%+v, %q: %d bytes, %v, want %d", test.g, test.text, len(b), e, test.want)
		}
	}
}

// P8.2: Read returns what Bytes was given: anchors of each geometry.
func TestReadReturnsWhatBytesWasGiven(t *testing.T) {
	random := rand.New(rand.NewSource(2))
	for _, g := range geometries() {
		for range 10 {
			a := anyAnchor(random, g)
			b, e := anchor.Bytes(g, a)
			if e != api.OK {
				t.Fatalf("Bytes(%+v, %+v): %v", g, a, e)
			}
			readsAs(t, g, b, a)
			isRight(t, g, a, true)
		}
	}
}

// P8.1: an encoding with any number of its bytes cut off, at its end or at its beginning, or with bytes more, is none.
func TestReadOfAnotherLength(t *testing.T) {
	for _, b := range bases() {
		x := wantBytes(b.a)
		readsAs(t, b.g, x, b.a)
		for n := range x {
			readsNot(t, b.g, x[:n])
			readsNot(t, b.g, bytes.Clone(x[:n]))
			if n > 0 {
				reads(t, b.g, x[n:])
			}
		}
		for _, more := range [][]byte{{0}, {1}, {255}, {0, 0, 0, 0}, make([]byte, 7), x, make([]byte, 1<<20)} {
			readsNot(t, b.g, slices.Concat(x, more))
		}
		readsNot(t, b.g, nil)
		readsNot(t, b.g, []byte{})
		readsNot(t, b.g, make([]byte, 0, 99))
		readsNot(t, b.g, make([]byte, len(x)))
		readsNot(t, b.g, bytes.Repeat([]byte{255}, len(x)))
	}
}

// P8.1: encodings in which one byte is another, each byte and each other value of it.
func TestReadOfAnotherByte(t *testing.T) {
	for _, b := range bases() {
		x := wantBytes(b.a)
		for i, was := range x {
			for c := range 256 {
				x[i] = byte(c)
				reads(t, b.g, x)
			}
			x[i] = was
		}
	}
}

// P8.1: the encodings, written out by hand, of anchors of one zone of one block and a spare that are not valid: each condition by itself.
func TestReadOfWhatIsNotValid(t *testing.T) {
	g := geo(1, 1, 1, 14, 1)
	right := []byte{1, 0, 0, 0, 0, 0, 0, 0, 3, 0, 0, 0, 2, 0, 0, 0, 13, 3, 'n', 0xc3, 0xa9, 0, 1, 2, 0, 0, 0, 0}
	readsAs(t, g, right, api.Anchor{Gen: 1, Seq: 3, Last: 2, Pos: 13, Label: "né", Homes: []api.Home{{Places: []int{0, 1}, Next: 2}}})
	for _, test := range []struct {
		at int
		c  []byte
	}{
		{8, []byte{0}},                  // Seq 0
		{8, []byte{4}},                  // Last at Seq - 2
		{11, []byte{1}},                 // Seq far above Last
		{12, []byte{1}},                 // Last at Seq - 2
		{16, []byte{14}},                // Pos at Slots
		{16, []byte{255}},               // Pos
		{17, []byte{2}},                 // the label ends within a rune
		{17, []byte{4}},                 // the label is too long by a byte
		{17, []byte{255}},               // the label is longer than what is left
		{17, []byte{10}},                // the label takes all that is left
		{17, []byte{11}},                // the label takes one byte more than there is
		{17, []byte{0}},                 // the label leaves three bytes more
		{18, []byte{0x1f}},              // a rune that may not be
		{18, []byte{0x7f}},              // a rune that may not be
		{18, []byte{0xff}},              // no UTF-8
		{20, []byte{'a'}},               // no UTF-8
		{21, []byte{1}},                 // two places the same
		{22, []byte{0}},                 // two places the same
		{21, []byte{2}},                 // a place at Next
		{22, []byte{2}},                 // a place at Next
		{21, []byte{3, 1, 3}},           // a place beyond the last slot
		{22, []byte{255}},               // a place beyond the last slot
		{23, []byte{1}},                 // Next at Data
		{23, []byte{4}},                 // Next beyond Data + 1 + Spares
		{23, []byte{255}},               // Next
		{23, []byte{0}},                 // Next
		{21, []byte{2, 1, 2}},           // Next at the greatest place
		{17, []byte{3, 'n', '\n', 'x'}}, // a rune that may not be
	} {
		x := bytes.Clone(right)
		copy(x[test.at:], test.c)
		readsNot(t, g, x)
		reads(t, g, x)
	}
	for _, test := range []struct {
		at int
		c  []byte
	}{{0, []byte{0}}, {0, []byte{255, 255, 255, 255}}, {4, []byte{255, 255, 255, 255}}, {8, []byte{1}}, {12, []byte{255, 255, 255, 255}}, {16, []byte{0}}, {21, []byte{2, 1, 3}}, {21, []byte{1, 0, 2}}, {23, []byte{3}}, {24, []byte{255, 255, 255, 255}}} {
		x := bytes.Clone(right)
		copy(x[test.at:], test.c)
		if _, e := anchor.Read(g, x); e != api.OK {
			t.Errorf("Read(% x): %v", x, e)
		}
		reads(t, g, x)
	}
	seven := slices.Concat(right[:17], []byte{7}, []byte("abcdefg"), right[21:])
	readsNot(t, g, seven)
	six := slices.Concat(right[:17], []byte{6}, []byte("abcdef"), right[21:])
	readsAs(t, g, six, api.Anchor{Gen: 1, Seq: 3, Last: 2, Pos: 13, Label: "abcdef", Homes: []api.Home{{Places: []int{0, 1}, Next: 2}}})
}

// P8.1: an encoding of another geometry is one of this geometry only if the anchor is valid there.
func TestReadWithAnotherGeometry(t *testing.T) {
	random := rand.New(rand.NewSource(3))
	for _, from := range []api.Geometry{small, least, greatest, geo(3, 2, 1, 20, 1)} {
		a := anyAnchor(random, from)
		b := wantBytes(a)
		for _, g := range geometries() {
			if g.Zones == from.Zones && g.Data == from.Data && isValid(g, a) {
				readsAs(t, g, b, a)
			} else {
				readsNot(t, g, b)
			}
		}
	}
	// The spares, the slots of the log and Pos.
	a := wantFirst(geo(1, 2, 2, 30, 1), "")
	a.Homes[0].Next = 5
	readsAs(t, geo(1, 2, 2, 14, 3), wantBytes(a), a)
	readsNot(t, geo(1, 2, 1, 30, 1), wantBytes(a))
	a.Pos = 14
	readsAs(t, geo(1, 2, 2, 15, 3), wantBytes(a), a)
	readsNot(t, geo(1, 2, 2, 14, 3), wantBytes(a))
}

// P8.1: random bytes behind a right beginning, and anchors with several numbers changed, against the second program.
func TestRandom(t *testing.T) {
	random := rand.New(rand.NewSource(4))
	all := geometries()
	for range 100000 {
		g := all[random.Intn(len(all))]
		a := anyAnchor(random, g)
		b := wantBytes(a)
		for range 1 + random.Intn(3) {
			b[random.Intn(len(b))] = byte(random.Intn(9))
		}
		reads(t, g, b)
		home := &a.Homes[random.Intn(g.Zones)]
		home.Places[random.Intn(g.Data+1)] = random.Intn(g.Data+g.Spares+3) - 1
		home.Next += random.Intn(3) - 1
		a.Last += random.Intn(3) - 1
		isRight(t, g, a, isValid(g, a))
	}
}

// spare returns a copy of l with x behind its length, three times.
func spare[T any](l []T, x T) []T {
	return append(slices.Clone(l), x, x, x)[:len(l)]
}

// roomy is a copy of a in which each list has something behind its length.
func roomy(a api.Anchor, n int) api.Anchor {
	a.Homes = spare(a.Homes, api.Home{Places: []int{n}, Next: n, Root: n})
	for i := range a.Homes {
		a.Homes[i].Places = spare(a.Homes[i].Places, n)
	}
	return a
}

// whole is a copy of a with all memory of its lists, that behind their lengths too.
func whole(a api.Anchor) api.Anchor {
	a.Homes = slices.Clone(a.Homes[:cap(a.Homes)])
	for i := range a.Homes {
		a.Homes[i].Places = slices.Clone(a.Homes[i].Places[:cap(a.Homes[i].Places)])
	}
	return a
}

// fill writes n over all memory of the lists of a.
func fill(a api.Anchor, n int) {
	all := a.Homes[:cap(a.Homes)]
	for i := range all {
		places := all[i].Places[:cap(all[i].Places)]
		for k := range places {
			places[k] = n
		}
		all[i].Next, all[i].Root = n, n
	}
}

// isFilled tells whether fill has been there last.
func isFilled(a api.Anchor, n int) bool {
	return !slices.ContainsFunc(a.Homes[:cap(a.Homes)], func(home api.Home) bool {
		return home.Next != n || home.Root != n || slices.ContainsFunc(home.Places[:cap(home.Places)], func(place int) bool { return place != n })
	})
}

// calls makes each call with these, and returns the anchors, the byte strings and the errors of the answers.
func calls(g api.Geometry, a api.Anchor, b []byte) (anchors []api.Anchor, texts [][]byte, errors []api.Errno) {
	for range 2 {
		errors = append(errors, anchor.Check(g, a))
		first, e := anchor.First(g, a.Label)
		anchors, errors = append(anchors, first), append(errors, e)
		x, e := anchor.Bytes(g, a)
		texts, errors = append(texts, x), append(errors, e)
		read, e := anchor.Read(g, b)
		anchors, errors = append(anchors, read), append(errors, e)
	}
	return anchors, texts, errors
}

// cases calls f with anchors, valid and not, and with bytes, encodings and not. Behind each length is n.
func cases(n int, f func(g api.Geometry, a api.Anchor, b []byte)) {
	for _, b := range bases() {
		x := wantBytes(b.a)
		f(b.g, roomy(b.a, n), spare(x, byte(n)))
		f(b.g, roomy(b.a, n), spare(x[:len(x)-1], byte(n)))
		wrong := clone(b.a)
		wrong.Homes[b.g.Zones-1].Next = 99
		f(b.g, roomy(wrong, n), spare(wantBytes(wrong), byte(n)))
		wrong = clone(b.a)
		wrong.Homes = wrong.Homes[:b.g.Zones-1]
		f(b.g, roomy(wrong, n), spare(wantBytes(wrong), byte(n)))
		wrong = clone(b.a)
		wrong.Homes[0].Places = wrong.Homes[0].Places[:b.g.Data]
		f(b.g, roomy(wrong, n), spare([]byte(nil), byte(n)))
		f(api.Geometry{}, roomy(b.a, n), spare(x, byte(n)))
	}
}

// P8.1, P8.2 under R2: what is handed in stays as it was, its spare capacity too, also when all memory of the answers is written to, which
// they do not share with each other either, nor do the lists of one answer.
func TestMemory(t *testing.T) {
	cases(3, func(g api.Geometry, a api.Anchor, b []byte) {
		wasA, wasB := whole(a), bytes.Clone(b[:cap(b)])
		anchors, texts, _ := calls(g, a, b)
		for i, x := range anchors {
			fill(x, 1000+i)
		}
		for i, x := range texts {
			for k := range x[:cap(x)] {
				x[:cap(x)][k] = byte(100 + i)
			}
		}
		for i, x := range anchors {
			if !isFilled(x, 1000+i) {
				t.Fatalf("%+v, %+v: two answers share memory", g, a)
			}
		}
		for i, x := range texts {
			if slices.ContainsFunc(x[:cap(x)], func(c byte) bool { return c != byte(100+i) }) {
				t.Fatalf("%+v, %+v: two answers share memory", g, a)
			}
		}
		if !isSame(whole(a), wasA) || !bytes.Equal(b[:cap(b)], wasB) {
			t.Fatalf("%+v, % x have become %+v, % x", wasA, wasB, whole(a), b[:cap(b)])
		}
	})
}

// P8.1 under R2: the lists of one anchor share no memory with each other.
func TestListsOfOneAnswer(t *testing.T) {
	for _, b := range bases() {
		first, _ := anchor.First(b.g, b.a.Label)
		read, _ := anchor.Read(b.g, wantBytes(b.a))
		for _, a := range []api.Anchor{first, read} {
			for zone := range a.Homes {
				places := a.Homes[zone].Places
				for k := range places[:cap(places)] {
					places[:cap(places)][k] = 1000 + zone
				}
			}
			for zone, home := range a.Homes {
				if slices.ContainsFunc(home.Places[:cap(home.Places)], func(place int) bool { return place != 1000+zone }) {
					t.Fatalf("%+v: the Places of two zones share memory", b.g)
				}
			}
		}
	}
}

// P8.1 under R2: the Label of an answer does not share memory with the bytes or the label that were handed in.
func TestMemoryOfLabels(t *testing.T) {
	text := []byte("né")
	first, _ := anchor.First(small, unsafe.String(&text[0], len(text)))
	copy(text, "abc")
	b := wantBytes(wantFirst(small, "né"))
	read, _ := anchor.Read(small, b)
	clear(b)
	if first.Label != "né" || read.Label != "né" {
		t.Errorf("First has the label %q, Read has %q, after what was handed in has changed", first.Label, read.Label)
	}
	for _, a := range []api.Anchor{first, read} {
		isRight(t, small, a, true)
	}
}

// P8.1, P8.2 under R3 and R6: what is behind a length does not matter and is not returned, not even behind the length of an answer, and a
// call that is made again answers the same.
func TestAgain(t *testing.T) {
	var answers [][]api.Anchor
	var encodings [][][]byte
	var codes [][]api.Errno
	for _, n := range []int{3, 3, 0, 255} {
		var anchors []api.Anchor
		var texts [][]byte
		var errors []api.Errno
		cases(n, func(g api.Geometry, a api.Anchor, b []byte) {
			x, y, z := calls(g, a, b)
			for i := range x {
				x[i] = whole(x[i])
			}
			for i := range y {
				y[i] = y[i][:cap(y[i])]
			}
			anchors, texts, errors = append(anchors, x...), append(texts, y...), append(errors, z...)
		})
		answers, encodings, codes = append(answers, anchors), append(encodings, texts), append(codes, errors)
	}
	for i := range answers {
		if !slices.EqualFunc(answers[i], answers[0], isSame) || !slices.EqualFunc(encodings[i], encodings[0], bytes.Equal) || !slices.Equal(codes[i], codes[0]) {
			t.Errorf("the answers of the time %d are other ones", i)
		}
	}
}

// P8.1, P8.2: any bytes, any label, any numbers.
func FuzzAnchor(f *testing.F) {
	f.Add(2, 3, 1, 14, 2, wantBytes(wantFirst(small, "né")), "né", 0, 1)
	f.Add(1, 1, 0, 14, 1, wantBytes(wantFirst(least, "")), "\n", 5, math.MaxInt)
	f.Add(4, 4, 2, 30, 3, wantBytes(wantFirst(greatest, "abcdef")), "abcdefg", 11, -1)
	f.Add(0, 5, 3, 13, 4, []byte{}, "", 7, math.MinInt)
	f.Fuzz(func(t *testing.T, zones, data, spares, slots, anchors int, b []byte, text string, at, n int) {
		near := geo(1+zones&3, 1+data&3, spares&1+spares>>1&1, 14+slots&15, 1+anchors&1)
		reads(t, near, b)
		firsts(t, near, text)
		a, ok := wantRead(near, b)
		if !ok {
			a = anyAnchor(rand.New(rand.NewSource(int64(at))), near)
		}
		isRight(t, near, a, true)
		home := &a.Homes[zones&0xff%near.Zones]
		fields := []*int{&a.Gen, &a.Epoch, &a.Pos, &a.Seq, &a.Last, &home.Next, &home.Root}
		for i := range home.Places {
			fields = append(fields, &home.Places[i])
		}
		*fields[at&0xff%len(fields)] = n
		isRight(t, near, a, isValid(near, a))
		a.Label = text
		isRight(t, near, a, isValid(near, a))
		if g := geo(zones, data, spares, slots, anchors); !slices.Contains(geometries(), g) {
			x, e := anchor.Read(g, b)
			fails(t, "Read", x, e, api.ErrArg)
			x, e = anchor.First(g, text)
			fails(t, "First", x, e, api.ErrArg)
			if anchor.Check(g, a) != api.ErrArg {
				t.Fatalf("%+v is valid", g)
			}
		}
	})
}
