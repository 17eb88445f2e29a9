package mark

import (
	"hash/fnv"
	"math"
	"math/big"
	"math/bits"
	"strings"
	"testing"
)

// slowMark is P5.1's text with the library's great numbers: the product is made whole, then taken modulo 2^64.
func slowMark(s string) uint64 {
	m, _ := new(big.Int).SetString("14695981039346656037", 10)
	by := big.NewInt(1099511628211)
	all := new(big.Int).Lsh(big.NewInt(1), 64)
	for i := 0; i < len(s); i++ {
		m.Xor(m, big.NewInt(int64(s[i])))
		m.Mul(m, by)
		m.Mod(m, all)
	}
	return m.Uint64()
}

func libraryMark(s string) uint64 {
	h := fnv.New64a()
	h.Write([]byte(s))
	return h.Sum64()
}

type mixer uint64

func (x *mixer) next() uint64 {
	*x ^= *x << 13
	*x ^= *x >> 7
	*x ^= *x << 17
	return uint64(*x)
}

func (x *mixer) text(n int) string {
	b := make([]byte, n)
	for i := range b {
		b[i] = byte(x.next() >> 32)
	}
	return string(b)
}

func TestMarkOfKnownTexts(t *testing.T) { // P5.1
	for _, c := range []struct {
		s    string
		want uint64
	}{
		{"", 14695981039346656037},
		{"\x00", 0xaf63bd4c8601b7df},
		{"a", 0xaf63dc4c8601ec8c},
		{"b", 0xaf63df4c8601f1a5},
		{"\xff", 0xaf64724c8602eb6e},
		{"\x00\x00", 0x08328807b4eb6fed},
		{"foobar", 0x85944171f73967e8},
		{"hello", 0xa430d84680aabd0b},
	} {
		if m := Mark(c.s); m != c.want {
			t.Errorf("%q: %#x, not %#x", c.s, m, c.want)
		}
	}
}

func TestMarkOfOneByteGoesBeyondSixtyFourBits(t *testing.T) { // P5.1
	wrapped := 0
	for b := range 256 {
		high, low := bits.Mul64(uint64(start)^uint64(b), prime)
		if high != 0 {
			wrapped++
		}
		if m := Mark(string([]byte{byte(b)})); m != low {
			t.Errorf("byte %d: %#x, not %#x", b, m, low)
		}
	}
	if wrapped != 256 {
		t.Errorf("%d of these products are beyond 2^64", wrapped)
	}
}

func TestMarkIsItsText(t *testing.T) { // P5.1
	mix := mixer(0x9e3779b97f4a7c15)
	for n := range 300 {
		s := mix.text(n)
		if m, want := Mark(s), slowMark(s); m != want {
			t.Errorf("%d bytes: %#x, not %#x", n, m, want)
		}
	}
}

func TestMarkOfLongTexts(t *testing.T) { // P5.1
	mix := mixer(7)
	for _, s := range []string{
		strings.Repeat("\x00", 1<<16),
		strings.Repeat("\xff", 1<<16),
		strings.Repeat("ab", 1<<19) + "c",
		mix.text(1 << 20),
	} {
		if m, want := Mark(s), libraryMark(s); m != want {
			t.Errorf("%d bytes: %#x, not %#x", len(s), m, want)
		}
	}
}

func TestMarkGoesByBytes(t *testing.T) { // P5.1
	for _, s := range []string{"é", "\u20ac", "\U0001f600", "\xc3", "\xe2\x82", "\xf0\x9f\x98", "\ufffd", "a\x80b", "\xff\xfe"} {
		if m, want := Mark(s), slowMark(s); m != want {
			t.Errorf("%q: %#x, not %#x", s, m, want)
		}
	}
	if Mark("\xff") == Mark("\ufffd") {
		t.Error("a byte that is no rune is taken for another text")
	}
}

func TestMarkGoesFromTheFront(t *testing.T) { // P5.1
	if Mark("ab") == Mark("ba") {
		t.Error("ab is as ba")
	}
	s := "some bytes"
	whole := Mark(s)
	for n := range len(s) {
		m := Mark(s[:n])
		for i := n; i < len(s); i++ {
			m = (m ^ uint64(s[i])) * 1099511628211
		}
		if m != whole {
			t.Errorf("from byte %d on: %#x, not %#x", n, m, whole)
		}
	}
}

func TestTextTellsTheHighestByteFirst(t *testing.T) { // P5.1
	for _, c := range []struct {
		m    uint64
		want string
	}{
		{0, "\x00\x00\x00\x00\x00\x00\x00\x00"},
		{1, "\x00\x00\x00\x00\x00\x00\x00\x01"},
		{255, "\x00\x00\x00\x00\x00\x00\x00\xff"},
		{256, "\x00\x00\x00\x00\x00\x00\x01\x00"},
		{1 << 63, "\x80\x00\x00\x00\x00\x00\x00\x00"},
		{1<<56 - 1, "\x00\xff\xff\xff\xff\xff\xff\xff"},
		{0x0102030405060708, "\x01\x02\x03\x04\x05\x06\x07\x08"},
		{0xfedcba9876543210, "\xfe\xdc\xba\x98\x76\x54\x32\x10"},
		{start, "\xcb\xf2\x9c\xe4\x84\x22\x23\x25"},
		{math.MaxUint64 - 1, "\xff\xff\xff\xff\xff\xff\xff\xfe"},
		{math.MaxUint64, "\xff\xff\xff\xff\xff\xff\xff\xff"},
	} {
		if s := Text(c.m); s != c.want {
			t.Errorf("%#x: %x, not %x", c.m, s, c.want)
		}
		if m, ok := Take(c.want); m != c.m || !ok {
			t.Errorf("%x: %#x, %t, not %#x", c.want, m, ok, c.m)
		}
	}
}

func TestTextAndTakeAtEachPlace(t *testing.T) { // P5.1
	for place := range 8 {
		for b := range 256 {
			want := make([]byte, 8)
			want[7-place] = byte(b)
			m := uint64(b) << (8 * place)
			if s := Text(m); s != string(want) {
				t.Errorf("%#x: %x, not %x", m, s, want)
			}
			if x, ok := Take(string(want)); x != m || !ok {
				t.Errorf("%x: %#x, %t, not %#x", want, x, ok, m)
			}
		}
	}
}

func TestTextAndTakeGoBack(t *testing.T) { // P5.1
	mix := mixer(99)
	for range 2000 {
		m := mix.next()
		if x, ok := Take(Text(m)); x != m || !ok {
			t.Errorf("%#x: %#x, %t", m, x, ok)
		}
		s := mix.text(8)
		if x, ok := Take(s); !ok || Text(x) != s {
			t.Errorf("%x: %#x, %t", s, x, ok)
		}
	}
}

func TestTakeRefusesWhatHasNotEightBytes(t *testing.T) { // P5.1, R4
	mix := mixer(3)
	for n := range 300 {
		for _, s := range []string{strings.Repeat("\xff", n), strings.Repeat("\x00", n), mix.text(n)} {
			if m, ok := Take(s); n != 8 && (m != 0 || ok) {
				t.Errorf("%d bytes: %#x, %t", n, m, ok)
			} else if n == 8 && (Text(m) != s || !ok) {
				t.Errorf("%x: %#x, %t", s, m, ok)
			}
		}
	}
	for _, s := range []string{
		"", "1234567", "123456789", "12345678\x00", "\x0012345678",
		"éééééééé",                   // eight runes, sixteen bytes
		strings.Repeat("x", 8+1<<8),  // eight, if the length were a byte
		strings.Repeat("x", 8+1<<16), // or two
		Text(1) + Text(2), Text(0)[:7],
	} {
		if m, ok := Take(s); m != 0 || ok {
			t.Errorf("%d bytes: %#x, %t", len(s), m, ok)
		}
	}
	if m, ok := Take("éééé"); m != 0xc3a9c3a9c3a9c3a9 || !ok {
		t.Errorf("four runes of eight bytes: %#x, %t", m, ok)
	}
}

func TestOneByteAsAnotherChangesTheMark(t *testing.T) { // P5.2
	mix := mixer(12)
	for _, s := range []string{"a", "\x00", "\xff", "some bytes", "\x00\x00\x00\x00", mix.text(8), mix.text(40)} {
		for place := range len(s) {
			marks := map[uint64]int{}
			for b := range 256 {
				other := []byte(s)
				other[place] = byte(b)
				marks[Mark(string(other))] = b
			}
			if len(marks) != 256 {
				t.Errorf("%x, place %d: %d marks for 256 bytes", s, place, len(marks))
			}
		}
	}
}

func TestOneByteOfALongTextChangesTheMark(t *testing.T) { // P5.2
	mix := mixer(21)
	long := []byte(mix.text(1 << 14))
	whole := Mark(string(long))
	for place := 0; place < len(long); place += 97 {
		was := long[place]
		long[place] = was ^ byte(1<<(place%8))
		if Mark(string(long)) == whole {
			t.Errorf("place %d: the same", place)
		}
		long[place] = was
	}
}

func TestTheSameCallTellsTheSame(t *testing.T) { // R1
	s := strings.Repeat("tarn", 50)
	first := Mark(s)
	Mark("another")
	Take("12345678")
	if m := Mark(s); m != first {
		t.Errorf("%#x, then %#x", first, m)
	}
}
