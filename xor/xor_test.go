package xor_test

import (
	"bytes"
	"math"
	"math/rand"
	"testing"

	"casemate/api"
	"casemate/xor"
)

// wantXor counts, for each bit of n bytes, in how many of the byte strings it is set: in an odd number, or in an even one.
func wantXor(n int, l ...[]byte) []byte {
	x := make([]byte, n)
	for i := range 8 * n {
		count := 0
		for _, b := range l {
			if b[i/8]&(1<<(i%8)) != 0 {
				count++
			}
		}
		if count%2 == 1 {
			x[i/8] |= 1 << (i % 8)
		}
	}
	return x
}

func text(random *rand.Rand, n int) []byte {
	b := make([]byte, n)
	random.Read(b)
	return b
}

func texts(random *rand.Rand, count, n int) [][]byte {
	l := make([][]byte, count)
	for i := range l {
		l[i] = text(random, n)
	}
	return l
}

// right tells an error unless x and e are the answer want.
func right(t *testing.T, want, x []byte, e api.Errno) {
	t.Helper()
	if e != api.OK || !bytes.Equal(x, want) {
		t.Fatalf("% x, %v, not % x", x, e, want)
	}
}

// wrong tells an error unless e is the error want and x its zero value.
func wrong(t *testing.T, want api.Errno, x []byte, e api.Errno) {
	t.Helper()
	if e != want || x != nil {
		t.Fatalf("% x, %v, not the error %v alone", x, e, want)
	}
}

// otherLengths returns byte strings that do not have n bytes: some are one byte longer or shorter.
func otherLengths(n int) [][]byte {
	l := [][]byte{make([]byte, n+1), make([]byte, 2*n+2)}
	if n > 0 {
		l = append(l, nil, make([]byte, n-1), make([]byte, n-1, n))
	}
	return l
}

// P3.1: the chapter's example, and others worked out by hand.
func TestTwo(t *testing.T) {
	for _, test := range []struct{ a, b, want []byte }{
		{[]byte{5}, []byte{3}, []byte{6}},
		{[]byte{0}, []byte{0}, []byte{0}},
		{[]byte{255}, []byte{0}, []byte{255}},
		{[]byte{255}, []byte{255}, []byte{0}},
		{[]byte{0xf0, 0x0f}, []byte{0xff, 0xff}, []byte{0x0f, 0xf0}},
		{[]byte{1, 2, 4, 8}, []byte{8, 4, 2, 1}, []byte{9, 6, 6, 9}},
		{nil, nil, nil},
		{nil, []byte{}, nil},
		{[]byte{}, nil, nil},
	} {
		x, e := xor.Two(test.a, test.b)
		right(t, test.want, x, e)
	}
}

// P3.1: every pair of bytes; and lengths beyond MaxPayload, which Two does not know.
func TestTwoOfAnything(t *testing.T) {
	for i := range 256 {
		for j := range 256 {
			x, e := xor.Two([]byte{byte(i)}, []byte{byte(j)})
			right(t, wantXor(1, []byte{byte(i)}, []byte{byte(j)}), x, e)
		}
	}
	random := rand.New(rand.NewSource(1))
	for _, n := range []int{2, 3, 7, 8, 9, 31, 95, 96, 97, 255, 256, 257, 1 << 16} {
		a, b := text(random, n), text(random, n)
		x, e := xor.Two(a, b)
		right(t, wantXor(n, a, b), x, e)
		x, e = xor.Two(a, a)
		right(t, make([]byte, n), x, e)
	}
}

// P3.1: two that do not have the same length, the first longer or the second.
func TestTwoWrongLengths(t *testing.T) {
	for _, n := range []int{0, 1, 2, 8, 95, 96, 97} {
		for _, b := range otherLengths(n) {
			x, e := xor.Two(make([]byte, n), b)
			wrong(t, api.ErrLen, x, e)
			x, e = xor.Two(b, make([]byte, n))
			wrong(t, api.ErrLen, x, e)
		}
	}
}

// P3.1: each n that All knows, with no, one and many elements.
func TestAll(t *testing.T) {
	random := rand.New(rand.NewSource(2))
	for n := range api.MaxPayload + 1 {
		for _, count := range []int{0, 1, 2, 3, 4, 5, 30} {
			l := texts(random, count, n)
			x, e := xor.All(l, n)
			right(t, wantXor(n, l...), x, e)
		}
	}
	x, e := xor.All([][]byte{{1, 2}, {4, 8}, {16, 128}}, 2)
	right(t, []byte{21, 138}, x, e)
	x, e = xor.All([][]byte{{7}, {7}, {7}}, 1)
	right(t, []byte{7}, x, e)
}

// P3.1: nothing but the length is known of an empty list, and nothing at all of elements of no bytes.
func TestAllOfNothing(t *testing.T) {
	for n := range api.MaxPayload + 1 {
		for _, l := range [][][]byte{nil, {}} {
			x, e := xor.All(l, n)
			right(t, make([]byte, n), x, e)
		}
	}
	for _, l := range [][][]byte{{nil}, {{}}, {nil, {}}, {{}, nil, {}}} {
		x, e := xor.All(l, 0)
		right(t, nil, x, e)
	}
}

// P3.1: ErrArg comes before ErrLen.
func TestAllWrongNumbers(t *testing.T) {
	for _, n := range []int{-1, -2, -96, math.MinInt, 97, 98, 1 << 31, 1 << 32, 1<<32 + 1, math.MaxInt} {
		for _, l := range [][][]byte{nil, {}, {nil}, {{}}, {{1}}, {make([]byte, 96)}, {make([]byte, 97)}, {make([]byte, 98), {1}}} {
			x, e := xor.All(l, n)
			wrong(t, api.ErrArg, x, e)
		}
	}
}

// P3.1: an element at any place of the list that does not have n bytes.
func TestAllWrongLengths(t *testing.T) {
	for _, n := range []int{0, 1, 2, 8, 95, 96} {
		for count := 1; count < 6; count++ {
			for i := range count {
				for _, b := range otherLengths(n) {
					l := texts(rand.New(rand.NewSource(3)), count, n)
					l[i] = b
					x, e := xor.All(l, n)
					wrong(t, api.ErrLen, x, e)
				}
			}
		}
	}
	same := [][]byte{make([]byte, 7), make([]byte, 7)}
	for n := range api.MaxPayload + 1 {
		if n != 7 {
			x, e := xor.All(same, n)
			wrong(t, api.ErrLen, x, e)
		}
	}
}

// others returns l without the element with the index miss.
func others(l [][]byte, miss int) [][]byte {
	var rest [][]byte
	for i, b := range l {
		if i != miss {
			rest = append(rest, b)
		}
	}
	return rest
}

// P3.1: every index, and lengths beyond MaxPayload, which Rest does not know.
func TestRest(t *testing.T) {
	random := rand.New(rand.NewSource(4))
	for _, n := range []int{0, 1, 2, 7, 8, 9, 95, 96, 97, 98, 300} {
		for _, count := range []int{1, 2, 3, 4, 5, 30} {
			for miss := range count {
				l, parity := texts(random, count, n), text(random, n)
				want := wantXor(n, append(others(l, miss), parity)...)
				x, e := xor.Rest(l, miss, parity)
				right(t, want, x, e)
				for _, b := range otherLengths(n) {
					l[miss] = b
					x, e = xor.Rest(l, miss, parity)
					right(t, want, x, e)
				}
			}
		}
	}
}

// P3.1: worked out by hand; what is missing may be anything, and an only element is the parity.
func TestRestByHand(t *testing.T) {
	for _, test := range []struct {
		l      [][]byte
		miss   int
		parity []byte
		want   []byte
	}{
		{[][]byte{{1, 2}, nil, {16, 32}}, 1, []byte{21, 42}, []byte{4, 8}},
		{[][]byte{{1, 2}, {9, 9, 9}, {16, 32}}, 1, []byte{21, 42}, []byte{4, 8}},
		{[][]byte{nil, {4, 8}, {16, 32}}, 0, []byte{21, 42}, []byte{1, 2}},
		{[][]byte{{1, 2}, {4, 8}, {99}}, 2, []byte{21, 42}, []byte{16, 32}},
		{[][]byte{nil}, 0, []byte{7}, []byte{7}},
		{[][]byte{{1, 2, 3}}, 0, []byte{7}, []byte{7}},
		{[][]byte{{1, 2, 3}}, 0, nil, nil},
		{[][]byte{nil, {}, nil}, 2, []byte{}, nil},
	} {
		x, e := xor.Rest(test.l, test.miss, test.parity)
		right(t, test.want, x, e)
	}
}

// P3.1: ErrPlace comes before ErrLen.
func TestRestWrongPlaces(t *testing.T) {
	for count := range 5 {
		for _, miss := range []int{-1, -2, math.MinInt, count, count + 1, 1 << 32, math.MaxInt} {
			for _, n := range []int{0, 1, 96} {
				l := texts(rand.New(rand.NewSource(5)), count, n)
				for _, parity := range append(otherLengths(n), make([]byte, n)) {
					x, e := xor.Rest(l, miss, parity)
					wrong(t, api.ErrPlace, x, e)
				}
			}
		}
	}
	for _, miss := range []int{-1, 0, 1} {
		x, e := xor.Rest(nil, miss, nil)
		wrong(t, api.ErrPlace, x, e)
	}
}

// P3.1: the parity, or an element that is not missing, at any place of the list, has another length than the rest.
func TestRestWrongLengths(t *testing.T) {
	random := rand.New(rand.NewSource(6))
	for _, n := range []int{0, 1, 2, 8, 95, 96, 97} {
		for count := 2; count < 6; count++ {
			for miss := range count {
				for _, b := range otherLengths(n) {
					l := texts(random, count, n)
					x, e := xor.Rest(l, miss, b)
					wrong(t, api.ErrLen, x, e)
					oneOfAnotherLength(t, l, miss, text(random, n), b)
				}
			}
		}
	}
}

func oneOfAnotherLength(t *testing.T, l [][]byte, miss int, parity, b []byte) {
	t.Helper()
	for i, kept := range l {
		if i != miss {
			l[i] = b
			x, e := xor.Rest(l, miss, parity)
			wrong(t, api.ErrLen, x, e)
			l[i] = kept
		}
	}
}

// P3.1: of any length, and each of the three counts.
func TestTurn(t *testing.T) {
	random := rand.New(rand.NewSource(7))
	for _, n := range []int{0, 1, 2, 7, 8, 9, 95, 96, 97, 300} {
		for range 20 {
			l := texts(random, 3, n)
			x, e := xor.Turn(l[0], l[1], l[2])
			right(t, wantXor(n, l...), x, e)
		}
	}
	for _, test := range []struct{ parity, old, now, want []byte }{
		{[]byte{21}, []byte{4}, []byte{7}, []byte{22}},
		{[]byte{1}, []byte{0}, []byte{0}, []byte{1}},
		{[]byte{0}, []byte{1}, []byte{0}, []byte{1}},
		{[]byte{0}, []byte{0}, []byte{1}, []byte{1}},
		{[]byte{255}, []byte{255}, []byte{255}, []byte{255}},
		{nil, nil, nil, nil},
		{nil, []byte{}, nil, nil},
	} {
		x, e := xor.Turn(test.parity, test.old, test.now)
		right(t, test.want, x, e)
	}
}

// P3.1: any one of the three, or any two, have another length.
func TestTurnWrongLengths(t *testing.T) {
	for _, n := range []int{0, 1, 2, 8, 95, 96, 97} {
		for _, b := range otherLengths(n) {
			for which := 1; which < 7; which++ {
				l := texts(rand.New(rand.NewSource(8)), 3, n)
				for i := range l {
					if which>>i&1 == 1 {
						l[i] = b
					}
				}
				x, e := xor.Turn(l[0], l[1], l[2])
				wrong(t, api.ErrLen, x, e)
			}
		}
	}
	x, e := xor.Turn([]byte{1}, nil, []byte{1, 2})
	wrong(t, api.ErrLen, x, e)
}

// P3.1: the parity that has been turned is that of the list with the element replaced.
func TestTurnedParity(t *testing.T) {
	random := rand.New(rand.NewSource(9))
	for n := range api.MaxPayload + 1 {
		l := texts(random, 1+n%5, n)
		parity, _ := xor.All(l, n)
		at, now := random.Intn(len(l)), text(random, n)
		x, e := xor.Turn(parity, l[at], now)
		l[at] = now
		right(t, wantXor(n, l...), x, e)
	}
}

// found tells an error unless each element of l, whose elements have n bytes, is the Rest of the others and of the parity
// of all, whatever is at its own place.
func found(t *testing.T, l [][]byte, n int) {
	t.Helper()
	parity, e := xor.All(l, n)
	if e != api.OK {
		t.Fatalf("All(% x, %d): %v", l, n, e)
	}
	for i, b := range l {
		x, e := xor.Rest(l, i, parity)
		right(t, b, x, e)
		for _, lost := range [][]byte{nil, make([]byte, n), bytes.Repeat([]byte{0xa5}, n+1)} {
			l[i] = lost
			x, e := xor.Rest(l, i, parity)
			right(t, b, x, e)
		}
		l[i] = b
	}
}

// P3.2: each n that All knows, with one and many elements.
func TestEachIsTheRest(t *testing.T) {
	random := rand.New(rand.NewSource(10))
	for n := range api.MaxPayload + 1 {
		for _, count := range []int{0, 1, 2, 3, 4, 5, 30} {
			found(t, texts(random, count, n), n)
		}
	}
}

// P3.2: every pair of bytes, and elements that are the same.
func TestEachIsTheRestOfSmallOnes(t *testing.T) {
	for i := range 256 {
		for j := range 256 {
			found(t, [][]byte{{byte(i)}, {byte(j)}}, 1)
		}
		found(t, [][]byte{{byte(i)}}, 1)
		b := []byte{byte(i), 255 - byte(i)}
		found(t, [][]byte{b, b, b}, 2)
	}
	found(t, [][]byte{nil, {}, nil}, 0)
}

// kept is a list of byte strings with spare capacity, and what all of its memory is to stay.
type kept struct {
	list         [][]byte
	whole, spare [][]byte
}

// keep makes count byte strings of n bytes that lie, with spare capacity, in memory of their own, in a list with spare elements.
func keep(random *rand.Rand, count, n int) kept {
	k := kept{list: make([][]byte, 0, count+3)}
	for range count + 3 {
		whole := text(random, n+5)
		k.whole = append(k.whole, bytes.Clone(whole))
		k.spare = append(k.spare, whole[:n])
	}
	k.list = append(k.list, k.spare...)[:count]
	return k
}

// stays tells an error unless the list, its elements, and what is behind their lengths are as they were.
func (k kept) stays(t *testing.T) {
	t.Helper()
	for i, b := range k.list[:cap(k.list)] {
		if len(b) != len(k.spare[i]) || cap(b) != cap(k.spare[i]) || cap(b) > 0 && &b[:1][0] != &k.spare[i][:1][0] {
			t.Fatalf("the element %d has been replaced", i)
		}
		if whole := k.spare[i][:cap(k.spare[i])]; !bytes.Equal(whole[:len(k.whole[i])], k.whole[i]) {
			t.Fatalf("the element %d, % x, has become % x", i, k.whole[i], whole)
		}
	}
}

// calls makes each call of the package with what is in l (of three elements and more, of n bytes each), and some that fail.
func calls(l [][]byte, n int) [][]byte {
	var answers [][]byte
	take := func(b []byte, e api.Errno) { answers = append(answers, b) }
	take(xor.Two(l[0], l[1]))
	take(xor.Two(l[0], l[0]))
	take(xor.All(l, n))
	take(xor.All(l[:1], n))
	take(xor.All(l[:0], n))
	for i := range l {
		take(xor.Rest(l, i, l[0]))
		take(xor.Rest(l[:1], 0, l[i]))
	}
	take(xor.Turn(l[0], l[1], l[2]))
	take(xor.Turn(l[2], l[2], l[2]))
	take(xor.Two(l[0], l[1][:n/2]))
	take(xor.All(l, n+1))
	take(xor.All(l, -1))
	take(xor.Rest(l, len(l), l[0]))
	take(xor.Rest(l, 1, l[0][:n/2]))
	take(xor.Turn(l[0], l[1], l[2][:n/2]))
	return answers
}

// P3.1 under R2: what is handed in stays as it was, its spare capacity too, also when the answers are written to, which
// share no memory with each other either.
func TestMemory(t *testing.T) {
	random := rand.New(rand.NewSource(11))
	for n := range api.MaxPayload + 1 {
		k := keep(random, 4, n)
		answers := calls(k.list, n)
		k.stays(t)
		var copies [][]byte
		for _, b := range answers {
			copies = append(copies, bytes.Clone(b))
		}
		for i, b := range answers {
			if !bytes.Equal(b, copies[i]) {
				t.Fatalf("%d bytes: two answers share memory", n)
			}
			b = b[:cap(b)]
			for j := range b {
				b[j] ^= 0xff
			}
		}
		k.stays(t)
	}
}

// P3.1 under R3 and R6: what is behind a length does not matter and is not returned, not even behind the length of an answer,
// and a call that is made again answers the same.
func TestAgain(t *testing.T) {
	random := rand.New(rand.NewSource(12))
	for n := range api.MaxPayload + 1 {
		k := keep(random, 4, n)
		before := calls(k.list, n)
		for _, b := range k.list {
			clear(b[n:cap(b)])
		}
		clear(k.list[len(k.list):cap(k.list)])
		for i, b := range calls(k.list, n) {
			was := before[i]
			if len(b) != len(was) || !bytes.Equal(b[:cap(b)], was[:cap(was)]) {
				t.Fatalf("%d bytes: the answer %d has become % x from % x", n, i, b[:cap(b)], was[:cap(was)])
			}
		}
	}
}

func FuzzXor(f *testing.F) {
	f.Add([]byte{1, 2, 4, 8, 16, 32}, 2, 1)
	f.Add([]byte{}, 0, 0)
	f.Fuzz(func(t *testing.T, b []byte, n, miss int) {
		l := cut(b, n)
		x, e := xor.All(l, n)
		if n < 0 || n > api.MaxPayload {
			wrong(t, api.ErrArg, x, e)
			return
		}
		right(t, wantXor(n, l...), x, e)
		found(t, l, n)
		if miss < 0 || miss >= len(l) {
			x, e := xor.Rest(l, miss, x)
			wrong(t, api.ErrPlace, x, e)
		}
	})
}

// cut cuts b into pieces of n bytes, the end that is too short left out.
func cut(b []byte, n int) [][]byte {
	var l [][]byte
	for n > 0 && len(b) >= n {
		l = append(l, b[:n])
		b = b[n:]
	}
	return l
}
