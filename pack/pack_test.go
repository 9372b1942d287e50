package pack_test

import (
	"bytes"
	"math"
	"math/rand"
	"slices"
	"testing"

	"casemate/api"
	"casemate/pack"
)

// goodSizes has each size that there is, with the first number that is too great for it.
var goodSizes = []struct{ size, over int }{{1, 256}, {2, 65536}, {4, 4294967296}}

// badSizes has sizes that there are not: below, between and beyond those there are, and such as share low bits with them.
var badSizes = []int{
	math.MinInt, math.MinInt + 1, -1<<32 + 1, -4, -3, -2, -1, 0, 3, 5, 6, 7, 8, 9, 16, 24, 32,
	256 + 1, 65536 + 2, 1<<32 + 1, 1<<32 + 2, 1<<32 + 4, math.MaxInt,
}

// badNumbers returns numbers that do not fit where over is the first one that is too great; some share low bits with such as fit.
func badNumbers(over int) []int {
	return []int{-1, -2, -over, -over + 1, 1 - 2*over, math.MinInt, math.MinInt + 1, over, over + 1, 2*over - 1, 1 << 32, 1<<32 + 1, 1 << 62, math.MaxInt}
}

// wantBytes is n in size bytes, the least significant one first.
func wantBytes(n, size int) []byte {
	var b []byte
	for range size {
		b = append(b, byte(n%256))
		n /= 256
	}
	return b
}

// wantRow is each number of l in its size, one after the other.
func wantRow(l, sizes []int) []byte {
	var b []byte
	for i, n := range l {
		b = append(b, wantBytes(n, sizes[i])...)
	}
	return b
}

// numbersOf calls f with all numbers of 1 and of 2 bytes, and with the edges and many others of 4.
func numbersOf(f func(n, size int)) {
	for n := range 256 {
		f(n, 1)
	}
	for n := range 65536 {
		f(n, 2)
	}
	for i := range 33 {
		for _, n := range []int{1<<i - 1, 1 << i, 1<<i + 1} {
			if n < 1<<32 {
				f(n, 4)
				f(1<<32-1-n, 4)
			}
		}
	}
	random := rand.New(rand.NewSource(1))
	for range 20000 {
		f(int(random.Uint32()), 4)
	}
}

func text(random *rand.Rand, n int) []byte {
	b := make([]byte, n)
	random.Read(b)
	return b
}

// row returns count numbers that fit, and their sizes.
func row(random *rand.Rand, count int) (l, sizes []int) {
	for range count {
		good := goodSizes[random.Intn(len(goodSizes))]
		l = append(l, random.Intn(good.over))
		sizes = append(sizes, good.size)
	}
	return l, sizes
}

// right tells an error unless b and e are the answer want.
func right(t *testing.T, want, b []byte, e api.Errno) {
	t.Helper()
	if e != api.OK || !bytes.Equal(b, want) {
		t.Fatalf("% x, %v, not % x", b, e, want)
	}
}

// wrong tells an error unless e is the error want and b its zero value.
func wrong(t *testing.T, want api.Errno, b []byte, e api.Errno) {
	t.Helper()
	if e != want || b != nil {
		t.Fatalf("% x, %v, not the error %v alone", b, e, want)
	}
}

// gets tells an error unless Get, and Unrow of that size alone, return n and the bytes of rest.
func gets(t *testing.T, b []byte, size, n int, rest []byte) {
	t.Helper()
	got, after, e := pack.Get(b, size)
	if got != n || !bytes.Equal(after, rest) || e != api.OK {
		t.Fatalf("Get(% x, %d) = %d, % x, %v, not %d, % x", b, size, got, after, e, n, rest)
	}
	unrows(t, b, []int{size}, []int{n}, rest)
}

// getsNot tells an error unless Get, and Unrow of that size alone, return the error want alone.
func getsNot(t *testing.T, b []byte, size int, want api.Errno) {
	t.Helper()
	n, rest, e := pack.Get(b, size)
	if n != 0 || rest != nil || e != want {
		t.Fatalf("Get(% x, %d) = %d, % x, %v, not the error %v alone", b, size, n, rest, e, want)
	}
	unrowsNot(t, b, []int{size}, want)
}

func unrows(t *testing.T, b []byte, sizes, l []int, rest []byte) {
	t.Helper()
	got, after, e := pack.Unrow(b, sizes)
	if !slices.Equal(got, l) || !bytes.Equal(after, rest) || e != api.OK {
		t.Fatalf("Unrow(% x, %d) = %d, % x, %v, not %d, % x", b, sizes, got, after, e, l, rest)
	}
}

func unrowsNot(t *testing.T, b []byte, sizes []int, want api.Errno) {
	t.Helper()
	l, rest, e := pack.Unrow(b, sizes)
	if l != nil || rest != nil || e != want {
		t.Fatalf("Unrow(% x, %d) = %d, % x, %v, not the error %v alone", b, sizes, l, rest, e, want)
	}
}

func unparts(t *testing.T, b, part, rest []byte) {
	t.Helper()
	got, after, e := pack.Unpart(b)
	if !bytes.Equal(got, part) || !bytes.Equal(after, rest) || e != api.OK {
		t.Fatalf("Unpart(% x) = % x, % x, %v, not % x, % x", b, got, after, e, part, rest)
	}
}

func unpartsNot(t *testing.T, b []byte) {
	t.Helper()
	part, rest, e := pack.Unpart(b)
	if part != nil || rest != nil || e != api.ErrBytes {
		t.Fatalf("Unpart(% x) = % x, % x, %v, not the error %v alone", b, part, rest, e, api.ErrBytes)
	}
}

// P4.1: the chapter's example, and others worked out by hand.
func TestPut(t *testing.T) {
	for _, test := range []struct {
		b       []byte
		n, size int
		want    []byte
	}{
		{nil, 513, 2, []byte{1, 2}},
		{[]byte{}, 513, 2, []byte{1, 2}},
		{[]byte{9}, 513, 2, []byte{9, 1, 2}},
		{[]byte{9, 8, 7}, 513, 4, []byte{9, 8, 7, 1, 2, 0, 0}},
		{nil, 0, 1, []byte{0}},
		{nil, 0, 2, []byte{0, 0}},
		{nil, 0, 4, []byte{0, 0, 0, 0}},
		{nil, 1, 1, []byte{1}},
		{nil, 128, 1, []byte{128}},
		{nil, 255, 1, []byte{255}},
		{nil, 255, 2, []byte{255, 0}},
		{nil, 256, 2, []byte{0, 1}},
		{nil, 32768, 2, []byte{0, 128}},
		{nil, 65535, 2, []byte{255, 255}},
		{nil, 65535, 4, []byte{255, 255, 0, 0}},
		{nil, 65536, 4, []byte{0, 0, 1, 0}},
		{nil, 0x04030201, 4, []byte{1, 2, 3, 4}},
		{nil, 0x80000000, 4, []byte{0, 0, 0, 128}},
		{nil, api.MaxNum, 4, []byte{255, 255, 255, 255}},
		{[]byte{0}, api.MaxNum, 4, []byte{0, 255, 255, 255, 255}},
	} {
		b, e := pack.Put(test.b, test.n, test.size)
		right(t, test.want, b, e)
	}
}

// P4.1: numbers of each size, behind nothing and behind much.
func TestPutOfAnything(t *testing.T) {
	random := rand.New(rand.NewSource(2))
	ahead := [][]byte{nil, {}, {0}, text(random, 3), text(random, 300)}
	i := 0
	numbersOf(func(n, size int) {
		i++
		first := ahead[i%len(ahead)]
		b, e := pack.Put(first, n, size)
		right(t, slices.Concat(first, wantBytes(n, size)), b, e)
	})
	long := text(random, 1<<16)
	b, e := pack.Put(long, 513, 2)
	right(t, slices.Concat(long, []byte{1, 2}), b, e)
}

// P4.1: for each size, below 0, 0, the greatest number, and one more, and others that do not fit.
func TestPutWrongNumbers(t *testing.T) {
	for _, good := range goodSizes {
		for _, ahead := range [][]byte{nil, {}, {1, 2, 3}} {
			for _, n := range []int{0, good.over - 1} {
				b, e := pack.Put(ahead, n, good.size)
				right(t, slices.Concat(ahead, wantBytes(n, good.size)), b, e)
			}
			for _, n := range badNumbers(good.over) {
				b, e := pack.Put(ahead, n, good.size)
				wrong(t, api.ErrArg, b, e)
			}
		}
	}
}

// P4.1: a size that there is not, whatever the number.
func TestPutWrongSizes(t *testing.T) {
	for _, size := range badSizes {
		for _, n := range []int{0, 1, 255, 256, 65535, 65536, api.MaxNum, api.MaxNum + 1, -1, math.MinInt, math.MaxInt} {
			for _, ahead := range [][]byte{nil, {1, 2, 3}} {
				b, e := pack.Put(ahead, n, size)
				wrong(t, api.ErrArg, b, e)
			}
		}
	}
}

// P4.1: worked out by hand; exactly the bytes of the number, and more of them.
func TestGet(t *testing.T) {
	gets(t, []byte{1, 2}, 2, 513, nil)
	gets(t, []byte{1, 2}, 1, 1, []byte{2})
	gets(t, []byte{1, 2, 3}, 2, 513, []byte{3})
	gets(t, []byte{1, 2, 3, 4}, 4, 0x04030201, nil)
	gets(t, []byte{1, 2, 3, 4, 5}, 4, 0x04030201, []byte{5})
	gets(t, []byte{0}, 1, 0, nil)
	gets(t, []byte{0, 0, 0, 0, 0}, 4, 0, []byte{0})
	gets(t, []byte{255}, 1, 255, nil)
	gets(t, []byte{0, 128}, 2, 32768, nil)
	gets(t, []byte{255, 255}, 2, 65535, nil)
	gets(t, []byte{0, 0, 0, 128}, 4, 0x80000000, nil)
	gets(t, []byte{255, 255, 255, 255}, 4, api.MaxNum, nil)
}

// P4.1: one byte too short, and shorter, though memory goes on behind the length; one byte longer, and longer.
func TestGetOfEachLength(t *testing.T) {
	whole := text(rand.New(rand.NewSource(3)), 300)
	for _, good := range goodSizes {
		for n := range len(whole) {
			if n < good.size {
				getsNot(t, whole[:n], good.size, api.ErrBytes)
				getsNot(t, bytes.Clone(whole[:n]), good.size, api.ErrBytes)
				continue
			}
			number := 0
			for i := good.size - 1; i >= 0; i-- {
				number = number*256 + int(whole[i])
			}
			gets(t, whole[:n], good.size, number, whole[good.size:n])
		}
		getsNot(t, nil, good.size, api.ErrBytes)
		getsNot(t, []byte{}, good.size, api.ErrBytes)
	}
}

// P4.1: ErrArg comes before ErrBytes.
func TestGetWrongSizes(t *testing.T) {
	for _, size := range badSizes {
		for n := range 10 {
			getsNot(t, make([]byte, n), size, api.ErrArg)
		}
		getsNot(t, nil, size, api.ErrArg)
	}
}

// P4.1: worked out by hand; no numbers at all.
func TestRow(t *testing.T) {
	for _, test := range []struct {
		l, sizes []int
		want     []byte
	}{
		{nil, nil, nil},
		{[]int{}, nil, nil},
		{nil, []int{}, nil},
		{[]int{}, []int{}, nil},
		{[]int{513}, []int{2}, []byte{1, 2}},
		{[]int{1, 2, 3}, []int{1, 2, 4}, []byte{1, 2, 0, 3, 0, 0, 0}},
		{[]int{3, 2, 1}, []int{4, 2, 1}, []byte{3, 0, 0, 0, 2, 0, 1}},
		{[]int{255, 65535, api.MaxNum}, []int{1, 2, 4}, []byte{255, 255, 255, 255, 255, 255, 255}},
		{[]int{0, 0, 0}, []int{1, 1, 1}, []byte{0, 0, 0}},
	} {
		b, e := pack.Row(test.l, test.sizes)
		right(t, test.want, b, e)
		unrows(t, test.want, test.sizes, test.l, nil)
	}
}

// P4.1: rows of many lengths, and one that is so long that each number must take its own time only.
func TestRowOfAnything(t *testing.T) {
	random := rand.New(rand.NewSource(4))
	for count := range 60 {
		for range 20 {
			l, sizes := row(random, count)
			b, e := pack.Row(l, sizes)
			right(t, wantRow(l, sizes), b, e)
		}
	}
	l, sizes := row(random, 1<<20)
	b, e := pack.Row(l, sizes)
	right(t, wantRow(l, sizes), b, e)
	unrows(t, b, sizes, l, nil)
}

// P4.1: one size more than numbers, one fewer, and others; it comes before ErrArg.
func TestRowWrongCounts(t *testing.T) {
	for count := range 6 {
		for other := range 8 {
			if other == count {
				continue
			}
			for _, n := range []int{0, 255, 256, -1} {
				for _, size := range []int{1, 2, 4, 0, 3} {
					b, e := pack.Row(slices.Repeat([]int{n}, count), slices.Repeat([]int{size}, other))
					wrong(t, api.ErrLen, b, e)
				}
			}
		}
	}
}

// P4.1: a number that does not fit, or a size that there is not, at any place of the row, with and without others of them.
func TestRowWrongNumbers(t *testing.T) {
	random := rand.New(rand.NewSource(5))
	for count := 1; count < 6; count++ {
		for i := range count {
			for _, good := range goodSizes {
				for _, n := range badNumbers(good.over) {
					l, sizes := row(random, count)
					l[i], sizes[i] = n, good.size
					b, e := pack.Row(l, sizes)
					wrong(t, api.ErrArg, b, e)
					sizes[count-1] = 3
					b, e = pack.Row(l, sizes)
					wrong(t, api.ErrArg, b, e)
				}
			}
			for _, size := range badSizes {
				l, sizes := row(random, count)
				sizes[i] = size
				b, e := pack.Row(l, sizes)
				wrong(t, api.ErrArg, b, e)
			}
		}
	}
}

// P4.1: no sizes; and bytes that go on behind the row.
func TestUnrow(t *testing.T) {
	for _, sizes := range [][]int{nil, {}} {
		for _, b := range [][]byte{nil, {}, {7}, {7, 8, 9}} {
			unrows(t, b, sizes, nil, b)
		}
	}
	b := []byte{1, 2, 0, 3, 0, 0, 0}
	unrows(t, b, []int{1, 2, 4}, []int{1, 2, 3}, nil)
	unrows(t, append(b, 5), []int{1, 2, 4}, []int{1, 2, 3}, []byte{5})
	unrows(t, b, []int{1, 2}, []int{1, 2}, []byte{3, 0, 0, 0})
	unrows(t, b, []int{4, 2, 1}, []int{0x03000201, 0, 0}, nil)
	unrows(t, b, []int{2, 2, 2}, []int{513, 768, 0}, []byte{0})
}

// P4.1: every length that is too short, one byte too short among them, and lengths that are one byte longer, and more.
func TestUnrowOfEachLength(t *testing.T) {
	random := rand.New(rand.NewSource(6))
	for count := 1; count < 12; count++ {
		for range 20 {
			l, sizes := row(random, count)
			b := wantRow(l, sizes)
			for n := range b {
				unrowsNot(t, b[:n], sizes, api.ErrBytes)
				unrowsNot(t, bytes.Clone(b[:n]), sizes, api.ErrBytes)
			}
			for _, n := range []int{0, 1, 2, 4, 50} {
				rest := text(random, n)
				unrows(t, slices.Concat(b, rest), sizes, l, rest)
			}
		}
	}
}

// P4.1: of several errors it is the first number's; for one number, ErrArg comes before ErrBytes.
func TestUnrowErrors(t *testing.T) {
	for _, test := range []struct {
		bytes int
		sizes []int
		want  api.Errno
	}{
		{0, []int{1, 3}, api.ErrBytes},
		{1, []int{1, 3}, api.ErrArg},
		{2, []int{1, 3}, api.ErrArg},
		{9, []int{1, 3}, api.ErrArg},
		{0, []int{3, 1}, api.ErrArg},
		{9, []int{3, 1}, api.ErrArg},
		{1, []int{2, 0}, api.ErrBytes},
		{2, []int{2, 0}, api.ErrArg},
		{0, []int{0, 2}, api.ErrArg},
		{3, []int{1, 4, -1}, api.ErrBytes},
		{4, []int{1, 4, -1}, api.ErrBytes},
		{5, []int{1, 4, -1}, api.ErrArg},
		{3, []int{1, -1, 4}, api.ErrArg},
		{0, []int{1, -1, 4}, api.ErrBytes},
		{3, []int{4, 1, 1}, api.ErrBytes}, // though the later ones would be there
	} {
		unrowsNot(t, make([]byte, test.bytes), test.sizes, test.want)
	}
}

// P4.1: a size that there is not at any place, behind numbers that are there, and behind such as are not.
func TestUnrowWrongSizes(t *testing.T) {
	random := rand.New(rand.NewSource(7))
	for count := 1; count < 6; count++ {
		for i := range count {
			for _, size := range badSizes {
				l, sizes := row(random, count)
				b := wantRow(l, sizes)
				there := len(wantRow(l[:i], sizes[:i]))
				sizes[i] = size
				unrowsNot(t, b, sizes, api.ErrArg)
				unrowsNot(t, b[:there], sizes, api.ErrArg)
				if there > 0 {
					unrowsNot(t, b[:there-1], sizes, api.ErrBytes)
				}
			}
		}
	}
}

// P4.1: each length of a part, no bytes and 255 among them; from 256 bytes on there is none.
func TestPart(t *testing.T) {
	b, e := pack.Part(nil)
	right(t, []byte{0}, b, e)
	b, e = pack.Part([]byte{7, 8})
	right(t, []byte{2, 7, 8}, b, e)
	random := rand.New(rand.NewSource(8))
	for n := range 256 {
		part := text(random, n)
		b, e := pack.Part(part)
		right(t, slices.Concat([]byte{byte(n)}, part), b, e)
	}
	for _, n := range []int{256, 257, 258, 300, 510, 511, 512, 513, 65535, 65536, 65537, 1 << 24} {
		b, e := pack.Part(make([]byte, n))
		wrong(t, api.ErrLen, b, e)
	}
}

// P4.1: worked out by hand; a length that promises one byte more than there is.
func TestUnpart(t *testing.T) {
	unparts(t, []byte{0}, nil, nil)
	unparts(t, []byte{0, 0}, nil, []byte{0})
	unparts(t, []byte{0, 1, 2}, nil, []byte{1, 2})
	unparts(t, []byte{1, 9}, []byte{9}, nil)
	unparts(t, []byte{2, 7, 8, 9}, []byte{7, 8}, []byte{9})
	unparts(t, []byte{3, 7, 8, 9}, []byte{7, 8, 9}, nil)
	unpartsNot(t, nil)
	unpartsNot(t, []byte{})
	unpartsNot(t, []byte{1})
	unpartsNot(t, []byte{4, 7, 8, 9})
	unpartsNot(t, []byte{255})
}

// P4.1: each length with each number of bytes behind it, though memory goes on there.
func TestUnpartOfEachLength(t *testing.T) {
	whole := text(rand.New(rand.NewSource(9)), 300)
	for length := range 256 {
		whole[0] = byte(length)
		for n := 1; n < len(whole); n++ {
			if n < 1+length {
				unpartsNot(t, whole[:n])
			} else {
				unparts(t, whole[:n], whole[1:1+length], whole[1+length:n])
			}
		}
	}
}

// tails are what may follow an encoding.
func tails(random *rand.Rand) [][]byte {
	return [][]byte{nil, {}, {0}, {255}, {1, 2, 3}, text(random, 4), text(random, 300)}
}

// P4.2: Get returns what Put was given, and what has been appended.
func TestGetReturnsWhatPutWasGiven(t *testing.T) {
	followed := tails(rand.New(rand.NewSource(10)))
	i := 0
	numbersOf(func(n, size int) {
		i++
		b, e := pack.Put(nil, n, size)
		right(t, wantBytes(n, size), b, e)
		gets(t, b, size, n, nil)
		rest := followed[i%len(followed)]
		gets(t, slices.Concat(b, rest), size, n, rest)
	})
}

// P4.2: numbers that have been put one behind the other come out one after the other, by Get as by Unrow.
func TestUnrowReturnsWhatWasGiven(t *testing.T) {
	random := rand.New(rand.NewSource(11))
	for count := range 60 {
		l, sizes := row(random, count)
		b, e := pack.Row(l, sizes)
		right(t, wantRow(l, sizes), b, e)
		var put []byte
		for i, n := range l {
			put, e = pack.Put(put, n, sizes[i])
			right(t, wantRow(l[:i+1], sizes), put, e)
		}
		for _, rest := range tails(random) {
			left := slices.Concat(b, rest)
			unrows(t, left, sizes, l, rest)
			for i, size := range sizes {
				n, after, e := pack.Get(left, size)
				if n != l[i] || e != api.OK {
					t.Fatalf("Get(% x, %d) = %d, %v, not %d", left, size, n, e, l[i])
				}
				left = after
			}
			right(t, rest, left, api.OK)
		}
	}
}

// P4.2: parts of each length.
func TestUnpartReturnsWhatPartWasGiven(t *testing.T) {
	random := rand.New(rand.NewSource(12))
	for n := range 256 {
		part := text(random, n)
		b, e := pack.Part(part)
		if e != api.OK {
			t.Fatalf("a part of %d bytes: %v", n, e)
		}
		for _, rest := range tails(random) {
			unparts(t, slices.Concat(b, rest), part, rest)
		}
	}
}

// kept is a slice with spare capacity, and what all of its memory is to stay.
type kept[T comparable] struct{ list, whole []T }

func keep[T comparable](list []T, spare ...T) kept[T] {
	whole := slices.Concat(list, spare)
	return kept[T]{whole[:len(list)], slices.Clone(whole)}
}

// stays tells an error unless the list and what is behind its length are as they were.
func (k kept[T]) stays(t *testing.T) {
	t.Helper()
	if now := k.list[:len(k.whole)]; !slices.Equal(now, k.whole) {
		t.Fatalf("%v has become %v", k.whole, now)
	}
}

// answers are what calls were answered: the byte strings, the lists of numbers, and the numbers and errors.
type answers struct {
	texts [][]byte
	lists [][]int
	codes []int
}

func (a *answers) put(b []byte, e api.Errno) {
	a.texts = append(a.texts, b)
	a.codes = append(a.codes, int(e))
}

func (a *answers) get(n int, rest []byte, e api.Errno) {
	a.put(rest, e)
	a.codes = append(a.codes, n)
}

func (a *answers) unrow(l []int, rest []byte, e api.Errno) {
	a.put(rest, e)
	a.lists = append(a.lists, l)
}

func (a *answers) unpart(part, rest []byte, e api.Errno) {
	a.put(part, e)
	a.put(rest, e)
}

// calls makes each call of the package with these, some that fail among them.
func calls(b []byte, l, sizes []int) answers {
	var a answers
	for _, size := range []int{1, 2, 4, 0, 3} {
		for _, n := range []int{0, 200, 60000, api.MaxNum, -1} {
			a.put(pack.Put(b, n, size))
		}
		for n := range len(b) + 1 {
			a.get(pack.Get(b[:n], size))
			a.unrow(pack.Unrow(b[:n], []int{size}))
		}
	}
	for i := range len(l) + 1 {
		a.put(pack.Row(l[:i], sizes[:i]))
		a.put(pack.Row(l, sizes[:i]))
		a.unrow(pack.Unrow(b, sizes[:i]))
	}
	for n := range len(b) + 1 {
		a.put(pack.Part(b[:n]))
		a.unpart(pack.Unpart(b[:n]))
	}
	return a
}

// cases calls f with arguments that have spare capacity: bytes that begin with each length of a part, and rows that may
// have a wrong size at their end, or another count of sizes.
func cases(t *testing.T, f func(b kept[byte], l, sizes kept[int])) {
	t.Helper()
	random := rand.New(rand.NewSource(13))
	for n := range 40 {
		b := text(random, n)
		if n > 0 {
			b[0] = byte(n / 2)
		}
		l, sizes := row(random, n%7)
		if n%3 == 0 {
			l, sizes = append(l, n), append(sizes, n%5)
		}
		f(keep(b, text(random, 5)...), keep(l, 7, 8, 9), keep(sizes, 1, 2, 4))
	}
	f(keep(text(random, 256), 1, 2, 3), keep([]int{256}, 1), keep([]int{1}, 2))
}

// P4.1 under R2: what is handed in stays as it was, its spare capacity too, also when the answers are written to, which
// share no memory with each other either.
func TestMemory(t *testing.T) {
	cases(t, func(b kept[byte], l, sizes kept[int]) {
		a := calls(b.list, l.list, sizes.list)
		for i, text := range a.texts {
			fill(text, byte(i))
		}
		for i, list := range a.lists {
			fill(list, i)
		}
		for i, text := range a.texts {
			filled(t, text, byte(i))
		}
		for i, list := range a.lists {
			filled(t, list, i)
		}
		b.stays(t)
		l.stays(t)
		sizes.stays(t)
	})
}

// fill writes x to all memory of the list, that behind its length too.
func fill[T comparable](list []T, x T) {
	list = list[:cap(list)]
	for i := range list {
		list[i] = x
	}
}

func filled[T comparable](t *testing.T, list []T, x T) {
	t.Helper()
	for _, y := range list[:cap(list)] {
		if y != x {
			t.Fatalf("%v: two answers share memory", list)
		}
	}
}

// P4.1 under R3 and R6: what is behind a length does not matter and is not returned, not even behind the length of an answer,
// and a call that is made again answers the same.
func TestAgain(t *testing.T) {
	cases(t, func(b kept[byte], l, sizes kept[int]) {
		before := calls(b.list, l.list, sizes.list)
		clear(b.list[len(b.list):cap(b.list)])
		clear(l.list[len(l.list):cap(l.list)])
		clear(sizes.list[len(sizes.list):cap(sizes.list)])
		after := calls(b.list, l.list, sizes.list)
		if !slices.EqualFunc(before.texts, after.texts, same[byte]) || !slices.EqualFunc(before.lists, after.lists, same[int]) {
			t.Fatalf("% x, %d, %d: another answer", b.list, l.list, sizes.list)
		}
		if !slices.Equal(before.codes, after.codes) {
			t.Fatalf("% x, %d, %d: another number or error", b.list, l.list, sizes.list)
		}
	})
}

// same tells whether two lists are the same, in what is behind their lengths too.
func same[T comparable](a, b []T) bool {
	return len(a) == len(b) && slices.Equal(a[:cap(a)], b[:cap(b)])
}

// P4.1, P4.2: of any bytes, numbers and sizes (each byte of how is one of a row's).
func FuzzPack(f *testing.F) {
	f.Add([]byte{1, 2}, 513, 2, []byte{1, 2, 4})
	f.Add([]byte{}, -1, 3, []byte{})
	f.Fuzz(func(t *testing.T, b []byte, n, size int, how []byte) {
		put, e := pack.Put(b, n, size)
		if fits(n, size) {
			right(t, slices.Concat(b, wantBytes(n, size)), put, e)
			gets(t, put[len(b):], size, n, nil)
		} else {
			wrong(t, api.ErrArg, put, e)
		}
		unrowsAny(t, b, how)
		if len(b) > 0 && len(b) > int(b[0]) {
			unparts(t, b, b[1:1+int(b[0])], b[1+int(b[0]):])
		} else {
			unpartsNot(t, b)
		}
		part, e := pack.Part(b)
		if len(b) > 255 {
			wrong(t, api.ErrLen, part, e)
		} else {
			unparts(t, slices.Concat(part, how), b, how)
		}
	})
}

// fits tells whether n is a number of size bytes.
func fits(n, size int) bool {
	for _, good := range goodSizes {
		if size == good.size {
			return n >= 0 && n < good.over
		}
	}
	return false
}

// unrowsAny tells an error unless Unrow finds an error, or numbers whose row b begins with.
func unrowsAny(t *testing.T, b, how []byte) {
	t.Helper()
	var sizes []int
	used := 0
	for _, c := range how {
		size := int(c % 5)
		sizes = append(sizes, size)
		if !fits(0, size) {
			unrowsNot(t, b, sizes, api.ErrArg)
			return
		}
		used += size
		if used > len(b) {
			unrowsNot(t, b, sizes, api.ErrBytes)
			return
		}
	}
	l, rest, e := pack.Unrow(b, sizes)
	right(t, b[used:], rest, e)
	row, e := pack.Row(l, sizes)
	right(t, b[:used], row, e)
}
