package label_test

import (
	"bytes"
	"math"
	"strings"
	"testing"
	"unicode/utf8"

	"casemate/api"
	"casemate/label"
)

// runeEnds tells behind which bytes the runes of s end, and whether s is valid UTF-8. It goes by the Unicode
// standard's table of well-formed byte sequences, so that it does not lean on what the package leans on.
func runeEnds(s string) (ends []int, valid bool) {
	valid = true
	for at := 0; at < len(s); {
		n := wellFormed(s[at:])
		if n == 0 {
			valid, n = false, 1
		}
		at += n
		ends = append(ends, at)
	}
	return ends, valid
}

// wellFormed returns the length of the well-formed sequence that s begins with, 0 if there is none.
func wellFormed(s string) int {
	rows := []struct{ first, last, low, high, n byte }{
		{0x00, 0x7f, 0, 0, 1},
		{0xc2, 0xdf, 0x80, 0xbf, 2},
		{0xe0, 0xe0, 0xa0, 0xbf, 3},
		{0xe1, 0xec, 0x80, 0xbf, 3},
		{0xed, 0xed, 0x80, 0x9f, 3},
		{0xee, 0xef, 0x80, 0xbf, 3},
		{0xf0, 0xf0, 0x90, 0xbf, 4},
		{0xf1, 0xf3, 0x80, 0xbf, 4},
		{0xf4, 0xf4, 0x80, 0x8f, 4},
	}
	for _, row := range rows {
		n := int(row.n)
		if s[0] < row.first || s[0] > row.last {
			continue
		}
		if len(s) < n || n > 1 && (s[1] < row.low || s[1] > row.high) {
			return 0
		}
		for i := 2; i < n; i++ {
			if s[i] < 0x80 || s[i] > 0xbf {
				return 0
			}
		}
		return n
	}
	return 0
}

// wantCheck is what the document says that Check answers.
func wantCheck(s string) api.Errno {
	ends, valid := runeEnds(s)
	if !valid {
		return api.ErrText
	}
	for i := range len(s) {
		if s[i] < 0x20 || s[i] == 0x7f {
			return api.ErrText
		}
	}
	if len(ends) > 6 {
		return api.ErrLen
	}
	return api.OK
}

// oddStrings calls f with every string of at most four bytes that stand at the edges of UTF-8 and of what is permitted.
func oddStrings(f func(s string)) {
	const edges = "\x00\x1f \x7e\x7f\x80\x8f\x90\x9f\xa0\xbf\xc0\xc1\xc2\xdf\xe0\xe1\xed\xef\xf0\xf1\xf4\xf5\xff"
	var grow func(s string)
	grow = func(s string) {
		f(s)
		if len(s) == 4 {
			return
		}
		for i := range len(edges) {
			grow(s + edges[i:i+1])
		}
	}
	grow("")
}

var checks = []struct {
	s    string
	want api.Errno
}{
	{"", api.OK},
	{"a", api.OK},
	{"né", api.OK},
	{"disk 1", api.OK},
	{" ", api.OK},
	{"      ", api.OK},
	{"abcdef", api.OK},
	{"éééééé", api.OK},
	{"水水水水水水", api.OK},
	{"😀😀😀😀😀😀", api.OK},
	{"\U0010ffff", api.OK},
	{"\ufffd", api.OK}, // written out, it is a rune like others
	{"\u0080", api.OK},
	{"~", api.OK},

	{"abcdefg", api.ErrLen},
	{"ééééééé", api.ErrLen},
	{"水水水水水水水", api.ErrLen},
	{"😀😀😀😀😀😀😀", api.ErrLen},
	{strings.Repeat("a", 255), api.ErrLen},
	{strings.Repeat("a", 256), api.ErrLen},
	{strings.Repeat("a", 257), api.ErrLen},
	{strings.Repeat("é", 100000), api.ErrLen},

	{"\x00", api.ErrText},
	{"\n", api.ErrText},
	{"\x1f", api.ErrText},
	{"\x7f", api.ErrText},
	{"abcde\x1f", api.ErrText},
	{"\x7fabcde", api.ErrText},
	{"\x80", api.ErrText},
	{"\xff", api.ErrText},
	{"\xc3", api.ErrText},
	{"a\xc3", api.ErrText},
	{"\xe2\x82", api.ErrText},
	{"\xf0\x9f\x98", api.ErrText},
	{"\xc0\x80", api.ErrText},         // overlong
	{"\xe0\x80\x80", api.ErrText},     // overlong
	{"\xed\xa0\x80", api.ErrText},     // a surrogate
	{"\xf4\x90\x80\x80", api.ErrText}, // beyond U+10FFFF

	// Both errors: the text's comes first, wherever it is.
	{"\nabcdef", api.ErrText},
	{"abcdef\n", api.ErrText},
	{"abcdefghij\x7f", api.ErrText},
	{"abcdefg\xff", api.ErrText},
	{"\xff\xff\xff\xff\xff\xff\xff", api.ErrText},
}

// P1.1
func TestCheck(t *testing.T) {
	for _, c := range checks {
		if e := label.Check(c.s); e != c.want {
			t.Errorf("Check(%q) = %v, want %v", c.s, e, c.want)
		}
	}
}

// P1.1
func TestCheckOfEachRune(t *testing.T) {
	for r := rune(0); r <= utf8.MaxRune; r++ {
		if r >= 0xd800 && r <= 0xdfff {
			continue // no rune: TestCheck and TestOddStrings have their bytes
		}
		want := api.OK
		if r < 0x20 || r == 0x7f {
			want = api.ErrText
		}
		if e := label.Check(string(r)); e != want {
			t.Errorf("Check(%q) = %v, want %v", r, e, want)
		}
	}
}

// P1.1
func TestOddStrings(t *testing.T) {
	oddStrings(func(s string) {
		ends, _ := runeEnds(s)
		if e := label.Check(s); e != wantCheck(s) {
			t.Errorf("Check(%q) = %v, want %v", s, e, wantCheck(s))
		}
		if n := label.Runes(s); n != len(ends) {
			t.Errorf("Runes(%q) = %d, want %d", s, n, len(ends))
		}
		for n := range 6 {
			want := s
			if n == 0 {
				want = ""
			} else if n < len(ends) {
				want = s[:ends[n-1]]
			}
			if got := label.Cut(s, n); got != want {
				t.Errorf("Cut(%q, %d) = %q, want %q", s, n, got, want)
			}
		}
	})
}

// P1.1
func TestRunes(t *testing.T) {
	for _, c := range []struct {
		s    string
		want int
	}{
		{"", 0},
		{"a", 1},
		{"né", 2},
		{"水", 1},
		{"😀a", 2},
		{"\n\x00\x7f", 3},
		{"\ufffd", 1},
		{"a\xffb", 3},
		{"\xe2\x82", 2},
		{"\xe2\x82a", 3},
		{"\xed\xa0\x80", 3},
		{"\xc0\x80", 2},
		{"\xf4\x90\x80\x80", 4},
		{"e\u0301", 2}, // runes, not what is seen
		{"abcdefg", 7},
		{strings.Repeat("é", 300), 300},
		{strings.Repeat("\xff", 300), 300},
	} {
		if n := label.Runes(c.s); n != c.want {
			t.Errorf("Runes(%q) = %d, want %d", c.s, n, c.want)
		}
	}
}

// P1.1
func TestCut(t *testing.T) {
	long := strings.Repeat("é", 300)
	for _, c := range []struct {
		s    string
		n    int
		want string
	}{
		{"", 0, ""},
		{"", 1, ""},
		{"", -1, ""},
		{"né", 0, ""},
		{"né", 1, "n"},
		{"né", 2, "né"},
		{"né", 3, "né"},
		{"én", 1, "é"},
		{"水a", 1, "水"},
		{"😀😀😀", 2, "😀😀"},
		{"né", -1, ""},
		{"né", math.MinInt, ""},
		{"né", math.MaxInt, "né"},
		{"a\xffb", 1, "a"},
		{"a\xffb", 2, "a\xff"},
		{"a\xffb", 3, "a\xffb"},
		{"\xe2\x82a", 1, "\xe2"},
		{"\xe2\x82a", 2, "\xe2\x82"},
		{"\n\x7f", 1, "\n"},
		{"abcdefg", 7, "abcdefg"},
		{"abcdefgh", 7, "abcdefg"},
		{long, 299, long[:598]},
		{long, 300, long},
		{long, 301, long},
	} {
		if got := label.Cut(c.s, c.n); got != c.want {
			t.Errorf("Cut(%q, %d) = %q, want %q", c.s, c.n, got, c.want)
		}
	}
}

// P1.1
func TestBytes(t *testing.T) {
	for _, c := range []struct {
		s    string
		want []byte
	}{
		{"", []byte{0}},
		{"a", []byte{1, 'a'}},
		{"né", []byte{3, 'n', 0xc3, 0xa9}},
		{"abcdef", []byte{6, 'a', 'b', 'c', 'd', 'e', 'f'}},
		{"水", []byte{3, 0xe6, 0xb0, 0xb4}},
		{"😀😀😀😀😀😀", append([]byte{24}, bytes.Repeat([]byte{0xf0, 0x9f, 0x98, 0x80}, 6)...)},
	} {
		if b, e := label.Bytes(c.s); e != api.OK || !bytes.Equal(b, c.want) {
			t.Errorf("Bytes(%q) = %v, %v, want %v", c.s, b, e, c.want)
		}
	}
}

// P1.1, R4: the error is that of Check, and there are no bytes beside it.
func TestBytesErrors(t *testing.T) {
	for _, c := range checks {
		b, e := label.Bytes(c.s)
		if e != c.want || e != api.OK && len(b) != 0 {
			t.Errorf("Bytes(%q) = %v, %v, want %v", c.s, b, e, c.want)
		}
	}
}

// P1.1
func TestRead(t *testing.T) {
	for _, c := range []struct {
		b    []byte
		s    string
		used int
	}{
		{[]byte{0}, "", 1},
		{[]byte{0, 9}, "", 1},
		{[]byte{1, 'a'}, "a", 2},
		{[]byte{1, 'a', 'b'}, "a", 2},
		{[]byte{1, 0x20}, " ", 2},
		{[]byte{1, 'a', 0xff, 0x1f}, "a", 2},
		{[]byte{3, 'n', 0xc3, 0xa9}, "né", 4},
		{[]byte{6, 'a', 'b', 'c', 'd', 'e', 'f', 'g'}, "abcdef", 7},
		{append([]byte{24}, "😀😀😀😀😀😀"...), "😀😀😀😀😀😀", 25},
	} {
		if s, used, e := label.Read(c.b); s != c.s || used != c.used || e != api.OK {
			t.Errorf("Read(%v) = %q, %d, %v, want %q, %d", c.b, s, used, e, c.s, c.used)
		}
	}
}

// P1.1
func TestReadErrors(t *testing.T) {
	for _, b := range [][]byte{
		nil,
		{},
		{1},
		{2, 'a'},
		{255},
		{255, 'a'},
		{1, 0x00},
		{1, 0x1f},
		{1, 0x7f},
		{1, 0x80},
		{1, 0xff},
		{2, 'a', '\n'},
		{1, 0xc3, 0xa9}, // the length parts a rune
		{2, 0xe2, 0x82, 0xac},
		{3, 0xed, 0xa0, 0x80},
		{7, 'a', 'b', 'c', 'd', 'e', 'f', 'g'},
		append([]byte{28}, "😀😀😀😀😀😀😀"...),
		append([]byte{255}, strings.Repeat("a", 255)...),
		append([]byte{255}, strings.Repeat("a", 400)...),
	} {
		if s, used, e := label.Read(b); s != "" || used != 0 || e != api.ErrBytes {
			t.Errorf("Read(%v) = %q, %d, %v, want ErrBytes", b, s, used, e)
		}
	}
}

// P1.1: b begins with the encoding of a label exactly if its length and that many bytes of a label are there.
func TestReadOfEachLength(t *testing.T) {
	for first := range 256 {
		for have := range 300 {
			b := append([]byte{byte(first)}, strings.Repeat("a", have)...)
			s, used, e := label.Read(b)
			if first <= 6 && first <= have {
				if s != strings.Repeat("a", first) || used != 1+first || e != api.OK {
					t.Errorf("length %d of %d: Read = %q, %d, %v", first, have, s, used, e)
				}
			} else if s != "" || used != 0 || e != api.ErrBytes {
				t.Errorf("length %d of %d: Read = %q, %d, %v, want ErrBytes", first, have, s, used, e)
			}
		}
	}
}

// P1.2
func TestReadReturnsWhatBytesWasGiven(t *testing.T) {
	tails := []string{"", "\x00", "a", "\x80", "\xa9", "\xbf\xbf\xbf", "\xff", "\x1f", "\x7f", "\x03abc", strings.Repeat("z", 300)}
	for _, c := range checks {
		if c.want == api.OK {
			for _, tail := range tails {
				readBack(t, c.s, tail)
			}
		}
	}
	oddStrings(func(s string) {
		if wantCheck(s) == api.OK {
			readBack(t, s, "\x80")
		}
	})
}

func readBack(t *testing.T, s, tail string) {
	t.Helper()
	b, e := label.Bytes(s)
	if e != api.OK || len(b) != 1+len(s) {
		t.Errorf("Bytes(%q) = %v, %v", s, b, e)
		return
	}
	got, used, e := label.Read(append(b, tail...))
	if got != s || used != 1+len(s) || e != api.OK {
		t.Errorf("Read(Bytes(%q) + %q) = %q, %d, %v", s, tail, got, used, e)
	}
}

// R6: what is behind the length of a slice is not there.
func TestReadKeepsToTheLength(t *testing.T) {
	whole, e := label.Bytes("né")
	if e != api.OK || len(whole) != 4 {
		t.Fatal(whole, e)
	}
	for n := range len(whole) {
		if s, used, e := label.Read(whole[:n]); s != "" || used != 0 || e != api.ErrBytes {
			t.Errorf("Read of %d bytes = %q, %d, %v, want ErrBytes", n, s, used, e)
		}
	}
}

// R2: the argument stays as it is, and what becomes of it later is not seen in the label.
func TestReadLeavesItsArgument(t *testing.T) {
	whole := []byte("\x02ab and more")
	was := bytes.Clone(whole)
	s, _, _ := label.Read(whole[:5])
	if !bytes.Equal(whole, was) {
		t.Errorf("the argument became %v", whole)
	}
	clear(whole)
	if s != "ab" {
		t.Errorf("the label became %q", s)
	}
}

// R2, R3: each result is memory of its own, its spare capacity too.
func TestBytesAreNew(t *testing.T) {
	a, _ := label.Bytes("né")
	b, _ := label.Bytes("né")
	a = a[:cap(a)]
	for i := range a {
		a[i] = 0xee
	}
	c, _ := label.Bytes("né")
	want := []byte{3, 'n', 0xc3, 0xa9}
	if !bytes.Equal(b, want) || !bytes.Equal(c, want) {
		t.Errorf("after a change of another result: %v, %v", b, c)
	}
}

// P1.1, P1.2: of any bytes.
func FuzzLabel(f *testing.F) {
	for _, c := range checks {
		f.Add(c.s, "\x80")
		f.Add("\x03"+c.s, "")
	}
	f.Fuzz(func(t *testing.T, s, tail string) {
		want := wantCheck(s)
		if e := label.Check(s); e != want {
			t.Errorf("Check(%q) = %v, want %v", s, e, want)
		}
		if want == api.OK {
			readBack(t, s, tail)
		}
		text, used, e := label.Read([]byte(s))
		if e != api.OK {
			if text != "" || used != 0 || e != api.ErrBytes {
				t.Errorf("Read(%q) = %q, %d, %v", s, text, used, e)
			}
			return
		}
		if b, e := label.Bytes(text); e != api.OK || used != len(b) || s[:used] != string(b) {
			t.Errorf("Read(%q) = %q, %d, whose encoding is %q, %v", s, text, used, b, e)
		}
	})
}
