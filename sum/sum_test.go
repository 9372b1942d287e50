package sum_test

import (
	"bytes"
	"hash/crc32"
	"math"
	"math/bits"
	"math/rand"
	"testing"

	"casemate/api"
	"casemate/sum"
)

// wantSum computes the checksum bit by bit, in the words of the document.
func wantSum(b []byte) int {
	register := uint32(0xffffffff)
	for _, c := range b {
		for i := range 8 {
			bit := uint32(c) >> i & 1
			out := register & 1
			register >>= 1
			if out != bit {
				register ^= 0x82f63b78
			}
		}
	}
	return int(register ^ 0xffffffff)
}

// wantTable makes eight steps in the words of the document.
func wantTable(i int) int {
	for range 8 {
		out := i % 2
		i /= 2
		if out == 1 {
			i ^= 0x82f63b78
		}
	}
	return i
}

func text(seed int64, n int) []byte {
	b := make([]byte, n)
	rand.New(rand.NewSource(seed)).Read(b)
	return b
}

func run(n int, f func(i int) byte) []byte {
	b := make([]byte, n)
	for i := range b {
		b[i] = f(i)
	}
	return b
}

// P2.1: texts whose checksums are published.
func TestOfKnownTexts(t *testing.T) {
	tests := []struct {
		b    []byte
		want int
	}{
		{[]byte("123456789"), 0xe3069283},
		{nil, 0},
		{[]byte{}, 0},
		{[]byte{0}, 0x527d5351},
		{[]byte("a"), 0xc1d04330},
		{[]byte("abc"), 0x364b3fb7},
		{[]byte("The quick brown fox jumps over the lazy dog"), 0x22620404},
		{[]byte{0xff, 0xff, 0xff, 0xff}, 0xffffffff},
		{run(32, func(i int) byte { return 0 }), 0x8a9136aa},
		{run(32, func(i int) byte { return 0xff }), 0x62a8ab43},
		{run(32, func(i int) byte { return byte(i) }), 0x46dd794e},
		{run(32, func(i int) byte { return byte(31 - i) }), 0x113fdb5c},
	}
	for _, test := range tests {
		if s := sum.Of(test.b); s != test.want {
			t.Errorf("Of(%q) = %x, not %x", test.b, s, test.want)
		}
	}
}

// P2.1: every byte string of at most two bytes, and texts of many lengths.
func TestOfAsDocumentSays(t *testing.T) {
	check := func(b []byte) {
		if s, want := sum.Of(b), wantSum(b); s != want {
			t.Fatalf("Of(% x) = %x, not %x", b, s, want)
		}
	}
	for i := range 256 {
		check([]byte{byte(i)})
	}
	for i := range 1 << 16 {
		check([]byte{byte(i), byte(i >> 8)})
	}
	for n := range 300 {
		check(text(int64(n), n))
	}
	check(text(1, 1<<20))
}

// P2.1: the library of Go computes the same checksum in another way.
func TestOfAsLibrary(t *testing.T) {
	castagnoli := crc32.MakeTable(crc32.Castagnoli)
	for n := range 300 {
		b := text(int64(-n), n)
		if s, want := sum.Of(b), int(crc32.Checksum(b, castagnoli)); s != want {
			t.Fatalf("Of(% x) = %x, not %x", b, s, want)
		}
	}
}

// P2.1: a text may be cut anywhere, in two and in three, and gone on with.
func TestMoreGoesOn(t *testing.T) {
	for _, b := range [][]byte{nil, []byte("1"), []byte("123456789"), make([]byte, 20), text(3, 40)} {
		want := wantSum(b)
		for i := range len(b) + 1 {
			if s, e := sum.More(sum.Of(b[:i]), b[i:]); s != want || e != api.OK {
				t.Errorf("% x cut at %d: %x, %v", b, i, s, e)
			}
			for j := i; j <= len(b); j++ {
				s, _ := sum.More(sum.Of(b[:i]), b[i:j])
				if s, e := sum.More(s, b[j:]); s != want || e != api.OK {
					t.Errorf("% x cut at %d and %d: %x, %v", b, i, j, s, e)
				}
			}
		}
	}
}

// P2.1: byte by byte from nothing.
func TestMoreByteByByte(t *testing.T) {
	b := text(4, 200)
	s := 0
	for i, c := range b {
		var e api.Errno
		s, e = sum.More(s, []byte{c})
		if want := wantSum(b[:i+1]); s != want || e != api.OK {
			t.Fatalf("%d bytes: %x, %v, not %x", i+1, s, e, want)
		}
	}
}

// P2.1: every number from 0 to 2^32 - 1 is a checksum, and stays it if nothing follows.
func TestMoreNumbers(t *testing.T) {
	for _, s := range []int{0, 1, 2, 0x7fffffff, 0x80000000, 0x80000001, 0xe3069283, 1<<32 - 2, 1<<32 - 1} {
		for _, nothing := range [][]byte{nil, {}} {
			if n, e := sum.More(s, nothing); n != s || e != api.OK {
				t.Errorf("More(%x, nothing) = %x, %v", s, n, e)
			}
		}
		// For every s there are four bytes with that checksum, so that there is something to hold the answer against.
		b := fourBytes(t, s)
		if got := sum.Of(b); got != s {
			t.Fatalf("Of(% x) = %x, not %x", b, got, s)
		}
		for _, rest := range []string{"a", "\x00", "\xff\xff", "123456789"} {
			want := wantSum(append(bytes.Clone(b), rest...))
			if n, e := sum.More(s, []byte(rest)); n != want || e != api.OK {
				t.Errorf("More(%x, %q) = %x, %v, not %x", s, rest, n, e, want)
			}
		}
	}
}

// fourBytes returns the four bytes whose checksum is s, found by taking the steps back.
func fourBytes(t *testing.T, s int) []byte {
	t.Helper()
	register := uint32(s) ^ 0xffffffff
	for range 32 {
		if register>>31 == 1 {
			register = (register^0x82f63b78)<<1 | 1
		} else {
			register <<= 1
		}
	}
	register ^= 0xffffffff
	b := []byte{byte(register), byte(register >> 8), byte(register >> 16), byte(register >> 24)}
	if wantSum(b) != s {
		t.Fatalf("the test itself: % x is not what has the checksum %x", b, s)
	}
	return b
}

// P2.1: a number that is no checksum.
func TestMoreWrongNumbers(t *testing.T) {
	for _, s := range []int{-1, -2, -1 << 31, -1 << 32, math.MinInt, 1 << 32, 1<<32 + 1, 1<<33 - 1, 1 << 62, math.MaxInt} {
		for _, b := range [][]byte{nil, {}, []byte("a"), []byte("123456789")} {
			if n, e := sum.More(s, b); n != 0 || e != api.ErrArg {
				t.Errorf("More(%d, %q) = %x, %v", s, b, n, e)
			}
		}
	}
}

// P2.1: all of the table.
func TestTable(t *testing.T) {
	library := crc32.MakeTable(crc32.Castagnoli)
	for i := range 256 {
		n, e := sum.Table(i)
		if n != wantTable(i) || n != int(library[i]) || e != api.OK {
			t.Errorf("Table(%d) = %x, %v, not %x", i, n, e, wantTable(i))
		}
	}
	for i, want := range map[int]int{0: 0, 1: 0xf26b8303, 128: 0x82f63b78, 255: 0xad7d5351} {
		if n, e := sum.Table(i); n != want || e != api.OK {
			t.Errorf("Table(%d) = %x, %v, not %x", i, n, e, want)
		}
	}
}

// P2.1: a number that has no place in the table.
func TestTableWrongNumbers(t *testing.T) {
	for _, i := range []int{-1, -255, -256, math.MinInt, 256, 257, 511, 1 << 16, 1 << 32, 1<<32 + 1, math.MaxInt} {
		if n, e := sum.Table(i); n != 0 || e != api.ErrArg {
			t.Errorf("Table(%d) = %x, %v", i, n, e)
		}
	}
}

// P2.1 under R2, R3 and R6: arguments stay as they are, what is behind their length does not matter, and a call that is made
// again answers the same.
func TestMemory(t *testing.T) {
	for n := range 40 {
		all := text(int64(n), n+8)
		before := bytes.Clone(all)
		b := all[:n]
		s := sum.Of(b)
		more, _ := sum.More(0x12345678, b)
		if !bytes.Equal(all, before) {
			t.Fatalf("% x has become % x", before, all)
		}
		clear(all[n:])
		again, _ := sum.More(0x12345678, b)
		if sum.Of(b) != s || again != more {
			t.Errorf("%d bytes: what is behind the length was read", n)
		}
	}
}

// turn returns b with those bits turned, from its bit number first on, that are set in pattern.
func turn(b []byte, first int, pattern uint32) []byte {
	b = bytes.Clone(b)
	for i := range 32 {
		at := first + i
		if pattern>>i&1 == 1 && at < 8*len(b) {
			b[at/8] ^= 1 << (at % 8)
		}
	}
	return b
}

// differ tells an error unless b and c, which are not the same, have different checksums.
func differ(t *testing.T, b, c []byte) {
	if bytes.Equal(b, c) {
		return
	}
	if s := sum.Of(b); s == sum.Of(c) {
		t.Fatalf("% x and % x: both have the checksum %x", b, c, s)
	}
}

// P2.2: one bit turned, two bits turned, and every bit of a run turned.
func TestFewBitsTurned(t *testing.T) {
	for _, n := range []int{1, 2, 3, 4, 5, 8, 18, 40} {
		for _, b := range [][]byte{make([]byte, n), text(int64(n), n)} {
			for first := range 8 * n {
				for last := range 32 {
					differ(t, b, turn(b, first, 1))
					differ(t, b, turn(b, first, 1|1<<last))
					differ(t, b, turn(b, first, uint32(1<<(last+1)-1)))
				}
			}
		}
	}
}

// P2.2: within 32 consecutive bits, wherever they begin, all patterns of 8 bits and many of 32.
func TestConsecutiveBitsTurned(t *testing.T) {
	random := rand.New(rand.NewSource(5))
	for _, n := range []int{4, 5, 8, 18, 106} {
		b := text(int64(n), n)
		for first := 0; first+32 <= 8*n; first++ {
			for pattern := range uint32(256) {
				differ(t, b, turn(b, first, pattern))
				differ(t, b, turn(b, first, pattern<<24|1))
			}
			for range 200 {
				differ(t, b, turn(b, first, random.Uint32()))
			}
		}
	}
}

// P2.2: all patterns within 32 bits, and so all pairs of texts of four bytes. If turning bits changes the checksum by the xor of
// what each of them alone changes (which TestTurnedBitsAddUp holds), then no pattern leaves the checksum as it was if
// and only if what the 32 bits change is linearly independent.
func TestAllPatternsOfConsecutiveBits(t *testing.T) {
	for _, n := range []int{4, 5, 8, 18, 106, 200} {
		b := text(int64(n), n)
		for first := 0; first+32 <= 8*n; first++ {
			var changes []uint32
			for i := range 32 {
				changes = append(changes, uint32(sum.Of(b)^sum.Of(turn(b, first, 1<<i))))
			}
			if r := rank(changes); r != 32 {
				t.Fatalf("%d bytes, from bit %d on: 32 bits change the checksum in 2^%d ways only", n, first, r)
			}
		}
	}
}

func TestTurnedBitsAddUp(t *testing.T) {
	random := rand.New(rand.NewSource(6))
	for range 20000 {
		n := 4 + random.Intn(40)
		b := text(random.Int63(), n)
		first := random.Intn(8*n - 31)
		p, q := random.Uint32(), random.Uint32()
		of := func(pattern uint32) int { return sum.Of(turn(b, first, pattern)) }
		if of(0)^of(p)^of(q) != of(p^q) {
			t.Fatalf("% x, from bit %d on: %x and %x do not add up", b, first, p, q)
		}
	}
}

// rank returns how many of the numbers are linearly independent (each number is a vector of bits).
func rank(numbers []uint32) int {
	var tops [32]uint32
	n := 0
	for _, x := range numbers {
		for x != 0 {
			top := bits.Len32(x) - 1
			if tops[top] == 0 {
				tops[top] = x
				n++
				break
			}
			x ^= tops[top]
		}
	}
	return n
}

// P2.2: byte strings of four bytes, each of which has a checksum of its own.
func TestFourBytes(t *testing.T) {
	const step = 4093 // odd, so that all low bits come up
	seen := make(map[int]uint32)
	for i := uint64(0); i < 1<<32; i += step {
		x := uint32(i)
		s := sum.Of([]byte{byte(x), byte(x >> 8), byte(x >> 16), byte(x >> 24)})
		if y, ok := seen[s]; ok {
			t.Fatalf("%08x and %08x: both have the checksum %x", x, y, s)
		}
		seen[s] = x
	}
	for s := 0; s < 1<<32; s += 1 << 20 {
		if b := fourBytes(t, s); sum.Of(b) != s {
			t.Fatalf("Of(% x) = %x, not %x", b, sum.Of(b), s)
		}
	}
}

func FuzzSum(f *testing.F) {
	f.Add([]byte("123456789"), 4)
	f.Add([]byte{}, 0)
	f.Fuzz(func(t *testing.T, b []byte, cut int) {
		want := wantSum(b)
		if s := sum.Of(b); s != want {
			t.Errorf("Of(% x) = %x, not %x", b, s, want)
		}
		cut = int(uint(cut) % uint(len(b)+1))
		if s, e := sum.More(sum.Of(b[:cut]), b[cut:]); s != want || e != api.OK {
			t.Errorf("% x cut at %d: %x, %v", b, cut, s, e)
		}
	})
}
