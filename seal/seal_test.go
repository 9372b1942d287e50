package seal_test

import (
	"bytes"
	"encoding/binary"
	"hash/crc32"
	"math"
	"math/big"
	"math/bits"
	"math/rand"
	"slices"
	"testing"

	"casemate/api"
	"casemate/seal"
)

var castagnoli = crc32.MakeTable(crc32.Castagnoli)

// sealed is body followed by its checksum, which the library of Go computes in a way of its own.
func sealed(body []byte) []byte {
	return slices.Concat(body, binary.LittleEndian.AppendUint32(nil, crc32.Checksum(body, castagnoli)))
}

// wantEncoding is the encoding of s in the words of the document.
func wantEncoding(s api.Sector) []byte {
	body := append([]byte{byte(len(s.Payload))}, s.Payload...)
	for _, number := range []struct{ n, size int }{{s.Addr, 2}, {s.Stamp, 4}} {
		for range number.size {
			body = append(body, byte(number.n%256))
			number.n /= 256
		}
	}
	return sealed(body)
}

// wantFlip inverts bit by bit in the words of the document, with numbers that have no greatest.
func wantFlip(b []byte, bit, bits int) []byte {
	flipped := bytes.Clone(b)
	if len(b) == 0 {
		return flipped
	}
	m := new(big.Int).Mod(big.NewInt(int64(bits)), big.NewInt(1<<32))
	m.SetBit(m, 0, 1)
	count := 8 * len(b)
	p := int(new(big.Int).Mod(big.NewInt(int64(bit)), big.NewInt(int64(count))).Int64())
	for i := range m.BitLen() {
		if m.Bit(i) == 1 && p+i < count {
			flipped[(p+i)/8] ^= []byte{1, 2, 4, 8, 16, 32, 64, 128}[(p+i)%8]
		}
	}
	return flipped
}

func text(random *rand.Rand, n int) []byte {
	b := make([]byte, n)
	random.Read(b)
	return b
}

// sector returns a sector with n bytes of Payload.
func sector(random *rand.Rand, n int) api.Sector {
	return api.Sector{Addr: random.Intn(65536), Stamp: int(random.Uint32()), Payload: text(random, n)}
}

// right tells an error unless b and e are the answer want.
func right(t *testing.T, want, b []byte, e api.Errno) {
	t.Helper()
	if e != api.OK || !bytes.Equal(b, want) {
		t.Fatalf("% x, %v, not % x", b, e, want)
	}
}

// makes tells an error unless Make returns the bytes of want, and Open of them s (which is P5.1 in both directions).
func makes(t *testing.T, s api.Sector, want []byte) {
	t.Helper()
	b, e := seal.Make(s)
	right(t, want, b, e)
	opens(t, want, s)
}

// makesNot tells an error unless Make returns the error want alone.
func makesNot(t *testing.T, s api.Sector, want api.Errno) {
	t.Helper()
	if b, e := seal.Make(s); b != nil || e != want {
		t.Fatalf("Make of Addr %d, Stamp %d, %d bytes = % x, %v, not the error %v alone", s.Addr, s.Stamp, len(s.Payload), b, e, want)
	}
}

func opens(t *testing.T, b []byte, want api.Sector) {
	t.Helper()
	s, e := seal.Open(b)
	if s.Addr != want.Addr || s.Stamp != want.Stamp || !bytes.Equal(s.Payload, want.Payload) || e != api.OK {
		t.Fatalf("Open(% x) = %v, %v, not %v", b, s, e, want)
	}
}

// opensNot tells an error unless Open returns the error want alone.
func opensNot(t *testing.T, b []byte, want api.Errno) {
	t.Helper()
	if s, e := seal.Open(b); s.Addr != 0 || s.Stamp != 0 || s.Payload != nil || e != want {
		t.Fatalf("Open(% x) = %v, %v, not the error %v alone", b, s, e, want)
	}
}

// flips tells an error unless Flip returns the bytes of want, and b again if it is called again.
func flips(t *testing.T, b []byte, bit, bits int, want []byte) {
	t.Helper()
	flipped := seal.Flip(b, bit, bits)
	if !bytes.Equal(flipped, want) {
		t.Fatalf("Flip(% x, %d, %#x) = % x, not % x", b, bit, bits, flipped, want)
	}
	if back := seal.Flip(flipped, bit, bits); !bytes.Equal(back, b) {
		t.Fatalf("Flip(% x, %d, %#x) = % x, not % x again", flipped, bit, bits, back, b)
	}
}

// P5.1: the chapter's example, and others; the checksums were computed by hand.
func TestMake(t *testing.T) {
	for _, test := range []struct {
		s    api.Sector
		want []byte
	}{
		{api.Sector{}, []byte{0, 0, 0, 0, 0, 0, 0, 0x6d, 0x6a, 0x3e, 0xbb}},
		{api.Sector{Payload: []byte{}}, []byte{0, 0, 0, 0, 0, 0, 0, 0x6d, 0x6a, 0x3e, 0xbb}},
		{api.Sector{Addr: 513, Stamp: 0x01020304, Payload: []byte{7, 8}}, []byte{2, 7, 8, 1, 2, 4, 3, 2, 1, 0xb9, 0xbc, 0x30, 0x39}},
		{api.Sector{Addr: 65535, Stamp: api.MaxNum}, []byte{0, 255, 255, 255, 255, 255, 255, 0xca, 0x9e, 0x75, 0x1d}},
		{api.Sector{Payload: []byte{255}}, []byte{1, 255, 0, 0, 0, 0, 0, 0, 0xe2, 0xf2, 0x05, 0xb8}},
		{api.Sector{Addr: 9, Stamp: 0x80000008, Payload: []byte("abc")}, []byte{3, 'a', 'b', 'c', 9, 0, 8, 0, 0, 128, 0xec, 0x4c, 0x35, 0xf5}},
	} {
		makes(t, test.s, test.want)
	}
}

// P5.1: Addr and Stamp, 0 and the greatest among them, with payloads of each length, none, one byte and MaxPayload bytes among them.
func TestMakeOfAnything(t *testing.T) {
	random := rand.New(rand.NewSource(1))
	for n := range api.MaxPayload + 1 {
		for _, addr := range []int{0, 1, 255, 256, 32768, 65534, 65535} {
			for _, stamp := range []int{0, 1, 255, 256, 65535, 65536, 1 << 24, 1 << 31, api.MaxNum - 1, api.MaxNum} {
				s := api.Sector{Addr: addr, Stamp: stamp, Payload: text(random, n)}
				makes(t, s, wantEncoding(s))
			}
		}
		for range 200 {
			s := sector(random, n)
			makes(t, s, wantEncoding(s))
		}
	}
	for addr := range 65536 {
		s := api.Sector{Addr: addr, Stamp: addr * 65537}
		makes(t, s, wantEncoding(s))
	}
}

// wrongAddrs and wrongStamps are below 0, one more than the greatest, and others; some share low bits with such as may be.
var (
	wrongAddrs  = []int{-1, -2, -65535, -65536, -1 << 32, math.MinInt, 65536, 65537, 131071, 1 << 31, 1 << 32, 1<<32 + 1, math.MaxInt}
	wrongStamps = []int{-1, -2, -65536, -1 << 31, -1 << 32, 1 - 1<<32, math.MinInt, 1 << 32, 1<<32 + 1, 1<<33 - 1, 1 << 62, math.MaxInt}
	// goodLengths and tooLong are numbers of bytes of a payload.
	goodLengths = []int{0, 1, 2, 50, 95, 96}
	tooLong     = []int{97, 98, 127, 128, 192, 255, 256, 257, 300, 256 + 96, 65536, 65536 + 96, 1 << 24}
)

// P5.1: an Addr or a Stamp that may not be, or both; ErrArg comes before ErrLen.
func TestMakeWrongNumbers(t *testing.T) {
	for _, n := range slices.Concat(goodLengths, tooLong) {
		payload := make([]byte, n)
		for _, stamp := range append([]int{0, 5, api.MaxNum}, wrongStamps...) {
			for _, addr := range wrongAddrs {
				makesNot(t, api.Sector{Addr: addr, Stamp: stamp, Payload: payload}, api.ErrArg)
			}
		}
		for _, stamp := range wrongStamps {
			for _, addr := range []int{0, 5, 65535} {
				makesNot(t, api.Sector{Addr: addr, Stamp: stamp, Payload: payload}, api.ErrArg)
			}
		}
	}
}

// P5.1: MaxPayload bytes and one more, and more.
func TestMakeTooLong(t *testing.T) {
	random := rand.New(rand.NewSource(2))
	for _, addr := range []int{0, 65535} {
		for _, stamp := range []int{0, api.MaxNum} {
			for _, n := range goodLengths {
				s := api.Sector{Addr: addr, Stamp: stamp, Payload: text(random, n)}
				makes(t, s, wantEncoding(s))
			}
			for _, n := range tooLong {
				makesNot(t, api.Sector{Addr: addr, Stamp: stamp, Payload: make([]byte, n)}, api.ErrLen)
			}
		}
	}
}

// P5.1: each number of bytes, 10, 11, 11 + MaxPayload and one more among them. Below and beyond, ErrBytes comes before ErrSum,
// and even the bytes that would be the encoding are not.
func TestOpenOfEachLength(t *testing.T) {
	random := rand.New(rand.NewSource(3))
	opensNot(t, nil, api.ErrBytes)
	opensNot(t, []byte{}, api.ErrBytes)
	for n := range 11 {
		opensNot(t, text(random, n), api.ErrBytes)
		opensNot(t, make([]byte, n, 20), api.ErrBytes)
		if n >= 4 {
			opensNot(t, sealed(make([]byte, n-4)), api.ErrBytes)
			opensNot(t, sealed(text(random, n-4)), api.ErrBytes)
		}
	}
	for n := 11; n <= 107; n++ {
		s := sector(random, n-11)
		opens(t, wantEncoding(s), s)
		opensNot(t, text(random, n), api.ErrSum)
		opensNot(t, make([]byte, n), api.ErrSum)
	}
	for n := 108; n < 600; n++ {
		opensNot(t, wantEncoding(sector(random, n-11)), api.ErrBytes)
		opensNot(t, sealed(text(random, n-4)), api.ErrBytes)
		opensNot(t, text(random, n), api.ErrBytes)
		opensNot(t, append(wantEncoding(sector(random, 96)), make([]byte, n-107)...), api.ErrBytes)
	}
	opensNot(t, make([]byte, 1<<24), api.ErrBytes)
}

// P5.1: a checksum that is not theirs: near to it, in another order, or that of other bytes; with the length byte that is right,
// and, as ErrSum comes before the second ErrBytes, with others.
func TestOpenWrongSum(t *testing.T) {
	random := rand.New(rand.NewSource(4))
	for n := 7; n <= 103; n++ {
		for _, length := range []int{n - 7, n - 6, n - 8, 0, 96, 97, 255} {
			body := text(random, n)
			body[0] = byte(length)
			checksum := crc32.Checksum(body, castagnoli)
			wrong := []uint32{
				checksum + 1, checksum - 1, ^checksum, bits.ReverseBytes32(checksum), bits.Reverse32(checksum), 0, math.MaxUint32, random.Uint32(),
				crc32.Checksum(body[1:], castagnoli), crc32.Checksum(body[:n-1], castagnoli), crc32.ChecksumIEEE(body),
			}
			for i := range 32 {
				wrong = append(wrong, checksum^1<<i)
			}
			for _, other := range wrong {
				if other != checksum {
					opensNot(t, binary.LittleEndian.AppendUint32(bytes.Clone(body), other), api.ErrSum)
				}
			}
		}
	}
}

// P5.1: the right checksum, but each length byte that is not that of the payload.
func TestOpenWrongLength(t *testing.T) {
	random := rand.New(rand.NewSource(5))
	for n := 7; n <= 103; n++ {
		for length := range 256 {
			body := text(random, n)
			body[0] = byte(length)
			if length != n-7 {
				opensNot(t, sealed(body), api.ErrBytes)
				continue
			}
			s, e := seal.Open(sealed(body))
			if e != api.OK {
				t.Fatalf("Open(% x): %v", sealed(body), e)
			}
			makes(t, s, sealed(body))
		}
	}
}

// P5.2: worked out by hand.
func TestFlip(t *testing.T) {
	five := []byte{0, 0, 0, 0, 0}
	for _, test := range []struct {
		b         []byte
		bit, bits int
		want      []byte
	}{
		{five, 0, 1, []byte{1, 0, 0, 0, 0}},
		{five, 0, 0, []byte{1, 0, 0, 0, 0}},
		{five, 1, 0, []byte{2, 0, 0, 0, 0}},
		{five, 8, 0, []byte{0, 1, 0, 0, 0}},
		{five, 39, 0, []byte{0, 0, 0, 0, 128}},
		{five, 40, 0, []byte{1, 0, 0, 0, 0}},
		{five, 41, 0, []byte{2, 0, 0, 0, 0}},
		{five, -1, 0, []byte{0, 0, 0, 0, 128}},
		{five, -39, 0, []byte{2, 0, 0, 0, 0}},
		{five, -40, 0, []byte{1, 0, 0, 0, 0}},
		{five, -41, 0, []byte{0, 0, 0, 0, 128}},
		{five, 1<<40 + 3, 0, []byte{0, 0, 8, 0, 0}}, // 2^40 is 16 modulo 40
		{five, 0, 2, []byte{3, 0, 0, 0, 0}},
		{five, 0, 3, []byte{3, 0, 0, 0, 0}},
		{five, 0, 256, []byte{1, 1, 0, 0, 0}},
		{five, 7, 2, []byte{128, 1, 0, 0, 0}},
		{five, 4, 0x80000000, []byte{16, 0, 0, 0, 8}},
		{five, 8, 0xffffffff, []byte{0, 255, 255, 255, 255}},
		{five, 8, -1, []byte{0, 255, 255, 255, 255}},
		{five, 0, -2, []byte{255, 255, 255, 255, 0}},
		{five, 0, 1 << 32, []byte{1, 0, 0, 0, 0}},
		{five, 0, 1<<32 + 2, []byte{3, 0, 0, 0, 0}},
		{five, 0, math.MinInt, []byte{1, 0, 0, 0, 0}},
		{five, 0, math.MaxInt, []byte{255, 255, 255, 255, 0}},
		{five, 9, 0xffffffff, []byte{0, 254, 255, 255, 255}}, // one bit lies after the end
		{five, 38, 0xffffffff, []byte{0, 0, 0, 0, 192}},
		{five, 39, 0xffffffff, []byte{0, 0, 0, 0, 128}},
		{[]byte{0}, 0, 0xffffffff, []byte{255}},
		{[]byte{0}, 5, 0xffffffff, []byte{224}},
		{[]byte{0x5a}, 0, 0xff, []byte{0xa5}},
		{[]byte{255, 255}, 12, 5, []byte{255, 0xaf}},
	} {
		flips(t, test.b, test.bit, test.bits, test.want)
	}
}

// anyNumbers are below 0, 0 and above it, within and beyond what Flip takes them modulo.
var anyNumbers = []int{
	math.MinInt, math.MinInt + 1, -1<<33 - 1, -1<<32 - 1, -1 << 32, 1 - 1<<32, -1<<31 - 1, -1 << 31, -300, -88, -87, -8, -3, -2, -1,
	0, 1, 2, 3, 6, 7, 8, 9, 31, 32, 33, 86, 87, 88, 89, 255, 256, 855, 856, 857, 1<<31 - 1, 1 << 31, 1<<31 + 1,
	1<<32 - 1, 1 << 32, 1<<32 + 1, 1<<32 + 6, 1<<33 - 2, 1 << 33, 1 << 62, math.MaxInt - 1, math.MaxInt,
}

// P5.2: bit and bits of all kinds, of bytes of many lengths, those of sectors and more among them.
func TestFlipOfAnything(t *testing.T) {
	random := rand.New(rand.NewSource(6))
	for _, n := range []int{1, 2, 3, 4, 5, 7, 8, 11, 12, 107, 108, 200, 1000} {
		b := text(random, n)
		for _, bit := range anyNumbers {
			for _, bits := range anyNumbers {
				flips(t, b, bit, bits, wantFlip(b, bit, bits))
			}
		}
		for bit := -8*n - 1; bit <= 16*n; bit++ {
			for _, bits := range []int{0, 6, 0xffffffff, int(random.Uint32())} {
				flips(t, b, bit, bits, wantFlip(b, bit, bits))
			}
		}
		for range 2000 {
			bit, bits := int(random.Uint64()), int(random.Uint64())
			flips(t, b, bit, bits, wantFlip(b, bit, bits))
		}
	}
	long := text(random, 1<<20)
	for _, bit := range anyNumbers {
		flips(t, long, bit, 0x80000005, wantFlip(long, bit, 0x80000005))
	}
}

// P5.2: no bytes have no bits to invert, though memory goes on behind the length.
func TestFlipOfNothing(t *testing.T) {
	for _, nothing := range [][]byte{nil, {}, make([]byte, 0, 9)} {
		for _, bit := range anyNumbers {
			for _, bits := range anyNumbers {
				flips(t, nothing, bit, bits, nil)
			}
		}
	}
}

// refused tells an error unless Open refuses what Flip makes of b, the encoding of a sector.
func refused(t *testing.T, b []byte, bit, bits int) {
	t.Helper()
	flipped := seal.Flip(b, bit, bits)
	if len(flipped) != len(b) || bytes.Equal(flipped, b) {
		t.Fatalf("Flip(% x, %d, %#x) = % x: not as many bytes, or the same", b, bit, bits, flipped)
	}
	opensNot(t, flipped, api.ErrSum)
}

// P5.3: of sectors with payloads of each length, at each bit: one bit, two, runs of bits, and patterns of 32.
func TestFlippedIsRefused(t *testing.T) {
	random := rand.New(rand.NewSource(7))
	for n := range api.MaxPayload + 1 {
		b, e := seal.Make(sector(random, n))
		right(t, b, b, e)
		for bit := range 8 * len(b) {
			for _, last := range []int{0, 1, 7, 8, 16, 31} {
				refused(t, b, bit, 1<<last)
				refused(t, b, bit, 1<<(last+1)-1)
			}
			for range 4 {
				refused(t, b, bit, int(random.Uint32()))
			}
		}
		for i, bit := range anyNumbers {
			refused(t, b, bit, 0)
			refused(t, b, bit, -1)
			refused(t, b, n, bit)
			refused(t, b, bit, anyNumbers[(i+n)%len(anyNumbers)])
		}
	}
}

// P5.3: all patterns of 14 bits at each bit, of sectors that are short and of one that is as long as it may be.
func TestAllShortPatternsAreRefused(t *testing.T) {
	random := rand.New(rand.NewSource(8))
	for _, s := range []api.Sector{{}, {Addr: 65535, Stamp: api.MaxNum}, sector(random, 1)} {
		b, e := seal.Make(s)
		right(t, b, b, e)
		for bit := range 8 * len(b) {
			for bits := 1; bits < 1<<14; bits += 2 {
				refused(t, b, bit, bits)
			}
		}
	}
	b, e := seal.Make(sector(random, api.MaxPayload))
	right(t, b, b, e)
	for bit := range 8 * len(b) {
		for bits := 1; bits < 1<<9; bits += 2 {
			refused(t, b, bit, bits)
		}
	}
}

// gap is the xor of the checksum that b ends with and of the one that it should end with.
func gap(b []byte) uint32 {
	end := len(b) - 4
	return binary.LittleEndian.Uint32(b[end:]) ^ crc32.Checksum(b[:end], castagnoli)
}

// P5.3: all patterns of 32 bits. What several inverted bits do to the gap is the xor of what each of them alone does (the tests of
// sum hold that). So no pattern closes it if, and only if, what the 32 bits do to it is linearly independent.
func TestNoPatternClosesTheGap(t *testing.T) {
	random := rand.New(rand.NewSource(9))
	for n := range api.MaxPayload + 1 {
		b, e := seal.Make(sector(random, n))
		right(t, b, b, e)
		if gap(b) != 0 {
			t.Fatalf("% x: not the checksum that it should end with", b)
		}
		count := 8 * len(b)
		for first := range count {
			var gaps []uint32
			for bit := first; bit < min(first+32, count); bit++ {
				gaps = append(gaps, gap(seal.Flip(b, bit, 0)))
			}
			if r := rank(gaps); r != len(gaps) {
				t.Fatalf("%d bytes, from bit %d on: of %d bits, only %d are independent", len(b), first, len(gaps), r)
			}
		}
	}
}

// rank returns how many of the numbers are linearly independent (each number is a vector of bits).
func rank(numbers []uint32) int {
	var base []uint32
	for _, x := range numbers {
		for _, y := range base {
			// This takes the greatest bit of y from x, and no later number of the base brings it back, as none has it.
			x = min(x, x^y)
		}
		if x != 0 {
			base = append(base, x)
		}
	}
	return len(base)
}

// whole returns a copy of all memory of b, that behind its length too.
func whole(b []byte) []byte {
	return bytes.Clone(b[:cap(b)])
}

// calls makes each call of the package with these, some that fail among them, and returns the byte strings and the numbers of the answers.
func calls(s api.Sector, b []byte) (texts [][]byte, numbers []int) {
	made, e := seal.Make(s)
	texts, numbers = append(texts, made), append(numbers, int(e))
	_, e = seal.Make(api.Sector{Addr: -1, Payload: s.Payload})
	numbers = append(numbers, int(e))
	for range 2 {
		opened, e := seal.Open(b)
		texts, numbers = append(texts, opened.Payload), append(numbers, opened.Addr, opened.Stamp, int(e))
	}
	for _, bits := range []int{0, 6, -1, 1 << 31} {
		for _, bit := range []int{0, 8*len(b) - 1, 8 * len(b), -5} {
			texts = append(texts, seal.Flip(b, bit, bits))
		}
	}
	return texts, numbers
}

// cases calls f with sectors, and with encodings, such as have been flipped, and such as have another length byte or number of bytes.
// Behind the lengths there are other bytes.
func cases(f func(s api.Sector, b []byte)) {
	random := rand.New(rand.NewSource(10))
	for n := range 110 {
		s := sector(random, n)
		b := wantEncoding(s)
		switch n % 5 {
		case 1:
			b = wantFlip(b, n, n)
		case 2:
			b[0]++
			b = sealed(b[:len(b)-4])
		}
		s.Payload = spare(s.Payload)
		f(s, spare(b))
	}
	f(api.Sector{Payload: spare(nil)}, spare(nil))
}

// spare returns b with other bytes behind its length.
func spare(b []byte) []byte {
	return slices.Concat(b, []byte{1, 2, 3, 4, 5})[:len(b)]
}

// P5.1, P5.2 under R2: what is handed in stays as it was, its spare capacity too, also when all memory of the answers is written to,
// which they do not share with each other either.
func TestMemory(t *testing.T) {
	cases(func(s api.Sector, b []byte) {
		wholePayload, wholeB := whole(s.Payload), whole(b)
		texts, _ := calls(s, b)
		for i, text := range texts {
			fill(text[:cap(text)], byte(i))
		}
		for i, text := range texts {
			if slices.ContainsFunc(text[:cap(text)], func(c byte) bool { return c != byte(i) }) {
				t.Fatalf("%v, % x: two answers share memory", s, b)
			}
		}
		if !bytes.Equal(whole(s.Payload), wholePayload) || !bytes.Equal(whole(b), wholeB) {
			t.Fatalf("% x, % x have become % x, % x", wholePayload, wholeB, whole(s.Payload), whole(b))
		}
	})
}

func fill(b []byte, c byte) {
	for i := range b {
		b[i] = c
	}
}

// P5.1, P5.2 under R3 and R6: what is behind a length does not matter and is not returned, not even behind the length of an answer,
// and a call that is made again answers the same.
func TestAgain(t *testing.T) {
	cases(func(s api.Sector, b []byte) {
		texts, numbers := calls(s, b)
		clear(s.Payload[len(s.Payload):cap(s.Payload)])
		clear(b[len(b):cap(b)])
		textsAgain, numbersAgain := calls(s, b)
		if !slices.EqualFunc(texts, textsAgain, same) || !slices.Equal(numbers, numbersAgain) {
			t.Fatalf("%v, % x: another answer", s, b)
		}
	})
}

// same tells whether two byte strings are the same, in what is behind their lengths too.
func same(a, b []byte) bool {
	return len(a) == len(b) && bytes.Equal(a[:cap(a)], b[:cap(b)])
}

// P5.1, P5.2, P5.3: of any bytes and numbers.
func FuzzSeal(f *testing.F) {
	f.Add([]byte{7, 8}, 513, 0x01020304, 0, 1)
	f.Add(wantEncoding(api.Sector{Addr: 1, Stamp: 2, Payload: []byte{3}}), -1, 1<<32, -1, -1)
	f.Add([]byte{}, 0, 0, 5, 5)
	f.Fuzz(func(t *testing.T, b []byte, addr, stamp, bit, bits int) {
		s := api.Sector{Addr: addr, Stamp: stamp, Payload: b}
		switch {
		case addr < 0 || addr > 65535 || stamp < 0 || stamp > api.MaxNum:
			makesNot(t, s, api.ErrArg)
		case len(b) > 96:
			makesNot(t, s, api.ErrLen)
		default:
			makes(t, s, wantEncoding(s))
			refused(t, wantEncoding(s), bit, bits)
		}
		opensAny(t, b)
		opensAny(t, sealed(b))
		flips(t, b, bit, bits, wantFlip(b, bit, bits))
	})
}

// opensAny tells an error unless Open returns the sector of which b is the encoding, or the error that the document names.
func opensAny(t *testing.T, b []byte) {
	t.Helper()
	switch {
	case len(b) < 11 || len(b) > 107:
		opensNot(t, b, api.ErrBytes)
	case gap(b) != 0:
		opensNot(t, b, api.ErrSum)
	case int(b[0]) != len(b)-11:
		opensNot(t, b, api.ErrBytes)
	default:
		s, _ := seal.Open(b)
		makes(t, s, b)
	}
}
