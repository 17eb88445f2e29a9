package tx

import (
	"encoding/hex"
	"fmt"
	"hash/fnv"
	"math"
	"math/big"
	"math/rand"
	"reflect"
	"slices"
	"strings"
	"testing"

	"tarn/api"
)

// What follows up to the first test is the chapter's text once more, slowly, with the library's numbers and marks.

func plainMark(s string) uint64 {
	h := fnv.New64a()
	h.Write([]byte(s))
	return h.Sum64()
}

func plainHashes(blobs []string) []uint64 {
	var l []uint64
	for _, b := range blobs {
		l = append(l, plainMark("blob"+b))
	}
	return l
}

func plain(a api.U256) *big.Int {
	n := new(big.Int)
	for i := len(a) - 1; i >= 0; i-- {
		n.Lsh(n, 64).Or(n, new(big.Int).SetUint64(a[i]))
	}
	return n
}

// number is plain's other way; what is above 256 bits is a fault of the test.
func number(n *big.Int) api.U256 {
	if n.Sign() < 0 || n.BitLen() > 256 {
		panic(n.String())
	}
	var a api.U256
	for i := range a {
		a[i] = new(big.Int).And(new(big.Int).Rsh(n, uint(64*i)), new(big.Int).SetUint64(math.MaxUint64)).Uint64()
	}
	return a
}

// bit is 2^k and more.
func bit(k uint, more int64) api.U256 {
	n := new(big.Int).Lsh(big.NewInt(1), k)
	return number(n.Add(n, big.NewInt(more)))
}

func plainCost(t api.Tx) *big.Int {
	c := new(big.Int).Mul(plain(t.Cap), big.NewInt(int64(t.Gas)))
	c.Add(c, new(big.Int).Mul(plain(t.BlobCap), big.NewInt(int64(len(t.Blobs))<<17)))
	return c.Add(c, plain(t.Value))
}

func plainMayBe(t api.Tx) bool {
	for _, b := range t.Blobs {
		if len(b) > 64 {
			return false
		}
	}
	return 0 <= t.From && t.From <= 7 && 0 <= t.Nonce && t.Nonce <= 1<<40 && 0 <= t.Gas && t.Gas <= 1<<30 &&
		plain(t.Tip).Cmp(plain(t.Cap)) <= 0 &&
		1 <= len(t.Blobs) && len(t.Blobs) <= 4 && slices.Equal(t.Hashes, plainHashes(t.Blobs)) &&
		plainCost(t).BitLen() <= 256
}

// node is an item that is written as it stands, whether it may be or not: a text, bytes as they are, or a list.
type node any
type asIs string

func plainHead(base int, n int) string {
	if n <= 55 {
		return string([]byte{byte(base + n)})
	}
	l := string(big.NewInt(int64(n)).Bytes())
	return string([]byte{byte(base + 55 + len(l))}) + l
}

func plainItem(x node) string {
	switch x := x.(type) {
	case asIs:
		return string(x)
	case string:
		if len(x) == 1 && x[0] < 128 {
			return x
		}
		return plainHead(128, len(x)) + x
	case []node:
		s := ""
		for _, y := range x {
			s += plainItem(y)
		}
		return plainHead(192, len(s)) + s
	}
	panic("no item")
}

func whatInt(n int) node         { return string(big.NewInt(int64(n)).Bytes()) }
func whatNumber(n api.U256) node { return string(plain(n).Bytes()) }

// plainList is a transaction's list, ahead of being bytes.
func plainList(t api.Tx) []node {
	hashes, blobs := []node{}, []node{}
	for _, h := range t.Hashes {
		hashes = append(hashes, string(new(big.Int).SetUint64(h).FillBytes(make([]byte, 8))))
	}
	for _, b := range t.Blobs {
		blobs = append(blobs, b)
	}
	return []node{whatInt(t.From), whatInt(t.Nonce), whatNumber(t.Tip), whatNumber(t.Cap), whatNumber(t.BlobCap), whatNumber(t.Value), whatInt(t.Gas), hashes, blobs}
}

func plainBytes(t api.Tx) string { return plainItem(plainList(t)) }

func with(blobs ...string) api.Tx {
	return api.Tx{From: 1, Nonce: 2, Tip: api.U256{3}, Cap: api.U256{4}, BlobCap: api.U256{5}, Value: api.U256{6}, Gas: 7, Hashes: plainHashes(blobs), Blobs: blobs}
}

func repeated(s string, n int) []string { return slices.Repeat([]string{s}, n) }

// several are transactions that may be, with the edges of each field among them.
func several() []api.Tx {
	full := strings.Repeat("z", api.MaxBlob)
	least := api.Tx{Hashes: plainHashes([]string{""}), Blobs: []string{""}}
	most := with(repeated(full, api.MaxBlobs)...)
	most.From, most.Nonce, most.Gas = api.MaxAccts-1, api.MaxNonce, api.MaxGas
	most.Tip, most.Cap, most.BlobCap, most.Value = bit(200, 0), bit(220, 5), bit(130, 0), bit(255, 0)
	odd := with("x", "\x80", "\x00")
	odd.From, odd.Nonce, odd.Tip, odd.Cap, odd.BlobCap, odd.Value, odd.Gas = 3, 128, api.U256{127}, api.U256{128}, api.U256{256}, api.U256{}, 1
	widest := with(full)
	widest.Gas, widest.Tip, widest.Cap, widest.BlobCap, widest.Value = 0, bit(255, 0), bit(255, 1), bit(238, 0), bit(255, -1)
	return []api.Tx{least, most, odd, widest, with("a"), with("a", "a"), with("", full, "")}
}

func copied(t api.Tx) api.Tx {
	t.Hashes, t.Blobs = slices.Clone(t.Hashes), slices.Clone(t.Blobs)
	return t
}

// same holds two against each other; a nil list and an empty one are one.
func same(a, b api.Tx) bool {
	listsAlike := slices.Equal(a.Hashes, b.Hashes) && slices.Equal(a.Blobs, b.Blobs)
	a.Hashes, a.Blobs, b.Hashes, b.Blobs = nil, nil, nil, nil
	return listsAlike && reflect.DeepEqual(a, b)
}

// mustBe asks for all that is told of a transaction that may be.
func mustBe(t *testing.T, what string, x api.Tx) {
	t.Helper()
	if e := Check(x); e != api.OK {
		t.Errorf("%s: Check: %v", what, e)
	}
	if c, e := Cost(x); e != api.OK || plain(c).Cmp(plainCost(x)) != 0 {
		t.Errorf("%s: Cost: %v, %v, not %v", what, plain(c), e, plainCost(x))
	}
	s, e := Bytes(x)
	if s != plainBytes(x) || e != api.OK {
		t.Errorf("%s: Bytes: %x, %v, not %x", what, s, e, plainBytes(x))
	}
	if id, e := ID(x); id != plainMark(plainBytes(x)) || e != api.OK {
		t.Errorf("%s: ID: %x, %v", what, id, e)
	}
	if y, e := Take(plainBytes(x)); !same(x, y) || e != api.OK {
		t.Errorf("%s: Take: %v, %v", what, y, e)
	}
	if p, e := Pays(x, x.Cap); p != (api.U256{}) || e != api.OK {
		t.Errorf("%s: Pays: %v, %v", what, p, e)
	}
}

// mustNotBe asks that all is refused, Take of the bytes that it would have had among it, and nothing told beside.
func mustNotBe(t *testing.T, what string, x api.Tx) {
	t.Helper()
	if e := Check(x); e != api.ErrForm {
		t.Errorf("%s: Check: %v", what, e)
	}
	if c, e := Cost(x); e != api.ErrForm || c != (api.U256{}) {
		t.Errorf("%s: Cost: %v, %v", what, c, e)
	}
	if s, e := Bytes(x); s != "" || e != api.ErrForm {
		t.Errorf("%s: Bytes: %x, %v", what, s, e)
	}
	if id, e := ID(x); id != 0 || e != api.ErrForm {
		t.Errorf("%s: ID: %x, %v", what, id, e)
	}
	for _, base := range []api.U256{{}, x.Cap, bit(256, -1)} { // P7.3: ErrForm ahead of ErrLow
		if p, e := Pays(x, base); p != (api.U256{}) || e != api.ErrForm {
			t.Errorf("%s: Pays: %v, %v", what, p, e)
		}
	}
	if x.From >= 0 && x.Nonce >= 0 && x.Gas >= 0 {
		mustNotTake(t, what, plainBytes(x))
	}
}

func mustNotTake(t *testing.T, what string, s string) {
	t.Helper()
	if y, e := Take(s); !reflect.DeepEqual(y, api.Tx{}) || e != api.ErrForm {
		t.Errorf("%s: Take: %v, %v", what, y, e)
	}
}

// decided goes by the chapter's text once more.
func decided(t *testing.T, what string, x api.Tx) {
	t.Helper()
	if plainMayBe(x) {
		mustBe(t, what, x)
	} else {
		mustNotBe(t, what, x)
	}
}

func TestKnownBytesAndIDs(t *testing.T) { // P7.1, P7.2
	zs := "b840" + strings.Repeat("7a", 64)
	for i, c := range []struct {
		s  string
		id uint64
	}{
		{"d380808080808080c988c573b39bc29148cac180", 0x135ed81f648cac7b},
		{"f901a807860100000000009a01000000000000000000000000000000000000000000000000009c10000000000000000000000000000000000000000000000000000005910400000000000000000000000000000000a080000000000000000000000000000000000000000000000000000000000000008440000000e488b4455abb0524ab4a88b4455abb0524ab4a88b4455abb0524ab4a88b4455abb0524ab4af90108" + zs + zs + zs + zs, 0x5e79f03577b91e78},
		{"ec0381807f81808201008001db8814e2e3ab9cde86768814e27bab9cddd5be8814e2fbab9cdeaf3ec478818000", 0x5b195224246c8e9a},
	} {
		x := several()[i]
		if s, e := Bytes(x); hex.EncodeToString([]byte(s)) != c.s || e != api.OK {
			t.Errorf("%d: %x, %v", i, s, e)
		}
		if id, e := ID(x); id != c.id || e != api.OK {
			t.Errorf("%d: %x, %v", i, id, e)
		}
		s, _ := hex.DecodeString(c.s)
		if y, e := Take(string(s)); !same(x, y) || e != api.OK {
			t.Errorf("%d: %v, %v", i, y, e)
		}
	}
}

func TestThoseThatMayBe(t *testing.T) { // P7.1, P7.2, P7.4
	for i, x := range several() {
		mustBe(t, fmt.Sprint(i), x)
	}
}

func TestWholeNumbersAtTheirEdges(t *testing.T) { // P7.1, P7.2
	for _, n := range []int{math.MinInt, -1, 0, 1, 7, 8, 9, 127, 128, 255, 256, 1 << 30, 1<<30 + 1, 1 << 32, 1<<32 + 1, 1 << 40, 1<<40 + 1, 1 << 62, math.MaxInt} {
		x := with("a")
		x.From = n
		decided(t, fmt.Sprint("from ", n), x)
		x = with("a")
		x.Nonce = n
		decided(t, fmt.Sprint("nonce ", n), x)
		x = with("a")
		x.Gas = n
		decided(t, fmt.Sprint("gas ", n), x)
	}
}

func TestEachEdgeIsWhereTheChapterSays(t *testing.T) { // P7.1
	for i, c := range []struct {
		change func(x *api.Tx)
		want   api.Errno
	}{
		{func(x *api.Tx) { x.From = -1 }, api.ErrForm},
		{func(x *api.Tx) { x.From = 0 }, api.OK},
		{func(x *api.Tx) { x.From = api.MaxAccts - 1 }, api.OK},
		{func(x *api.Tx) { x.From = api.MaxAccts }, api.ErrForm},
		{func(x *api.Tx) { x.Nonce = -1 }, api.ErrForm},
		{func(x *api.Tx) { x.Nonce = 0 }, api.OK},
		{func(x *api.Tx) { x.Nonce = api.MaxNonce }, api.OK},
		{func(x *api.Tx) { x.Nonce = api.MaxNonce + 1 }, api.ErrForm},
		{func(x *api.Tx) { x.Gas = -1 }, api.ErrForm},
		{func(x *api.Tx) { x.Gas = 0 }, api.OK},
		{func(x *api.Tx) { x.Gas = api.MaxGas }, api.OK},
		{func(x *api.Tx) { x.Gas = api.MaxGas + 1 }, api.ErrForm},
		{func(x *api.Tx) { x.Tip = x.Cap }, api.OK},
		{func(x *api.Tx) { x.Tip = api.U256{5} }, api.ErrForm},
	} {
		x := with("a")
		c.change(&x)
		if e := Check(x); e != c.want {
			t.Errorf("%d: %v, not %v", i, e, c.want)
		}
	}
}

func TestTipIsAtMostCap(t *testing.T) { // P7.1, the example
	for _, c := range []struct{ tip, most api.U256 }{
		{api.U256{}, api.U256{}}, {api.U256{1}, api.U256{}}, {api.U256{9}, api.U256{9}}, {api.U256{10}, api.U256{9}},
		{api.U256{0, 1}, api.U256{9}}, {api.U256{9}, api.U256{0, 1}}, {bit(128, 0), bit(128, -1)}, {bit(128, -1), bit(128, 0)},
		{bit(256, -1), bit(256, -1)}, {bit(256, -1), bit(256, -2)},
	} {
		x := with("a")
		x.Gas, x.Tip, x.Cap = 0, c.tip, c.most
		decided(t, fmt.Sprint(c), x)
	}
}

func TestHashesAndBlobsFit(t *testing.T) { // P7.1, P7.2
	long := strings.Repeat("z", api.MaxBlob+1)
	for n := range api.MaxBlobs + 3 {
		decided(t, fmt.Sprint(n, " blobs"), with(repeated("b", n)...))
		if n == 0 {
			continue
		}
		less, more := with(repeated("b", n)...), with(repeated("b", n)...)
		less.Hashes, more.Hashes = less.Hashes[1:], append(more.Hashes, more.Hashes[0])
		mustNotBe(t, fmt.Sprint(n, " blobs, a hash less"), less)
		mustNotBe(t, fmt.Sprint(n, " blobs, a hash more"), more)
		for at := range n {
			x := with(repeated("b", n)...)
			x.Hashes[at] ^= 1
			mustNotBe(t, fmt.Sprint(n, " blobs, wrong at ", at), x)
			blobs := repeated("b", n)
			blobs[at] = long
			mustNotBe(t, fmt.Sprint(n, " blobs, too long at ", at), with(blobs...))
		}
	}
	turned := with("a", "b")
	slices.Reverse(turned.Hashes)
	mustNotBe(t, "hashes the other way round", turned)
	none := with()
	none.Hashes, none.Blobs = []uint64{}, []string{}
	mustNotBe(t, "empty lists", none)
}

func TestCostOfOrdinaryOnes(t *testing.T) { // P7.1
	x := with("a", "b")
	if c, e := Cost(x); c != (api.U256{4*7 + 5*2*131072 + 6}) || e != api.OK {
		t.Errorf("%v, %v", c, e)
	}
	if c, e := Cost(several()[0]); c != (api.U256{}) || e != api.OK {
		t.Errorf("of nothing: %v, %v", c, e)
	}
	x.Tip = x.Cap
	if c, e := Cost(x); c != (api.U256{4*7 + 5*2*131072 + 6}) || e != api.OK {
		t.Errorf("the tip is part of the cap: %v, %v", c, e)
	}
}

// TestCostOf256Bits: each share, and each sum of some, up to 2^256 - 1, and one more.
func TestCostOf256Bits(t *testing.T) { // P7.1, P7.2
	all := bit(256, -1)
	for i, c := range []struct {
		most, blobCap, value api.U256
		gas, blobs           int
		may                  bool
	}{
		{all, api.U256{}, api.U256{}, 1, 1, true},
		{all, api.U256{}, api.U256{}, 0, 1, true},
		{all, api.U256{}, api.U256{}, 2, 1, false},
		{all, api.U256{}, api.U256{1}, 1, 1, false},
		{all, api.U256{1}, api.U256{}, 1, 1, false},
		{all, api.U256{1}, api.U256{1}, 1, 1, false},
		{bit(255, 0), api.U256{}, api.U256{}, 2, 1, false},
		{bit(255, -1), api.U256{}, api.U256{1}, 2, 1, true},
		{bit(255, -1), api.U256{}, api.U256{2}, 2, 1, false},
		{bit(226, 0), api.U256{}, api.U256{}, 1 << 30, 1, false},
		{bit(226, -1), api.U256{}, bit(30, -1), 1 << 30, 1, true},
		{bit(226, -1), api.U256{}, bit(30, 0), 1 << 30, 1, false},
		{api.U256{}, bit(239, 0), api.U256{}, 9, 1, false},
		{api.U256{}, bit(239, -1), bit(17, -1), 9, 1, true},
		{api.U256{}, bit(239, -1), bit(17, 0), 9, 1, false},
		{api.U256{}, bit(237, 0), api.U256{}, 9, 4, false},
		{api.U256{}, bit(237, -1), bit(19, -1), 9, 4, true},
		{api.U256{}, bit(237, -1), bit(19, 0), 9, 4, false},
		{api.U256{}, bit(237, 0), api.U256{}, 9, 3, true},
		{api.U256{1}, bit(239, -1), api.U256{}, 1<<17 - 1, 1, true},
		{api.U256{1}, bit(239, -1), api.U256{}, 1 << 17, 1, false},
		{api.U256{}, all, api.U256{}, 9, 1, false},
		{api.U256{}, api.U256{}, all, 9, 4, true},
		{api.U256{1}, api.U256{}, all, 1, 1, false},
		{api.U256{1}, api.U256{}, all, 0, 1, true},
		{api.U256{}, api.U256{1}, all, 0, 1, false},
		{bit(254, 0), bit(237, 0), bit(255, -1), 1, 1, true},
		{bit(254, 0), bit(237, 0), bit(255, 0), 1, 1, false},
		{bit(255, 0), bit(237, 0), bit(254, -1), 1, 1, true},
		{bit(255, 0), bit(237, 0), bit(254, 0), 1, 1, false},
		{bit(254, 0), bit(238, 0), bit(254, -1), 1, 1, true},
		{bit(254, 0), bit(238, 0), bit(254, 0), 1, 1, false},
		{all, all, all, 1 << 30, 4, false},
	} {
		x := with(repeated("b", c.blobs)...)
		x.Tip, x.Cap, x.BlobCap, x.Value, x.Gas = api.U256{}, c.most, c.blobCap, c.value, c.gas
		if plainMayBe(x) != c.may {
			t.Errorf("%d: the test's own reckoning says otherwise", i)
		}
		decided(t, fmt.Sprint("cost ", i), x)
	}
}

func TestEachFieldHasItsPlace(t *testing.T) { // P7.1, P7.2
	x := with("a", "bc")
	x.From, x.Nonce, x.Tip, x.Cap, x.BlobCap, x.Value, x.Gas = 1, 2, api.U256{3}, api.U256{4}, api.U256{5}, api.U256{6}, 7
	want := "\xdf\x01\x02\x03\x04\x05\x06\x07\xd2\x88" + "\x14\xe2\xdc\xab\x9c\xde\x7a\x91" + "\x88" + string(new(big.Int).SetUint64(plainMark("blobbc")).FillBytes(make([]byte, 8))) + "\xc4a\x82bc"
	if s, e := Bytes(x); s != want || e != api.OK {
		t.Errorf("%x, %v, not %x", s, e, want)
	}
	if y, e := Take(want); !same(x, y) || e != api.OK {
		t.Errorf("%v, %v", y, e)
	}
}

func TestTakeOfWhatIsCutOff(t *testing.T) { // P7.2
	for i, x := range several() {
		s := plainBytes(x)
		for k := range len(s) {
			mustNotTake(t, fmt.Sprint(i, " up to ", k), s[:k])
			if k > 0 {
				mustNotTake(t, fmt.Sprint(i, " from ", k), s[k:])
			}
		}
	}
}

func TestTakeOfWhatHasMore(t *testing.T) { // P7.2
	for i, x := range several() {
		s := plainBytes(x)
		for b := range 256 {
			mustNotTake(t, fmt.Sprint(i, " ahead ", b), string([]byte{byte(b)})+s)
			mustNotTake(t, fmt.Sprint(i, " behind ", b), s+string([]byte{byte(b)}))
		}
		mustNotTake(t, fmt.Sprint(i, " twice"), s+s)
		mustNotTake(t, fmt.Sprint(i, " and much more"), s+strings.Repeat("\x00", 1<<17))
	}
}

// TestTakeOfTurnedBytes: what is taken all the same is another transaction, whose bytes these are.
func TestTakeOfTurnedBytes(t *testing.T) { // P7.2, P7.4
	for i, x := range several() {
		s := plainBytes(x)
		for k := range len(s) {
			for b := range 256 {
				turned := []byte(s)
				turned[k] = byte(b)
				mustTakeOwn(t, fmt.Sprint(i, ", ", k, ", ", b), string(turned))
			}
			mustTakeOwn(t, fmt.Sprint(i, " less ", k), s[:k]+s[k+1:])
			mustTakeOwn(t, fmt.Sprint(i, " twice ", k), s[:k]+s[k:k+1]+s[k:])
		}
	}
}

func mustTakeOwn(t *testing.T, what string, s string) {
	t.Helper()
	switch y, e := Take(s); {
	case e == api.OK:
		if !plainMayBe(y) || plainBytes(y) != s {
			t.Errorf("%s: %x was taken as %v", what, s, y)
		}
	case e != api.ErrForm || !reflect.DeepEqual(y, api.Tx{}):
		t.Errorf("%s: %v, %v", what, y, e)
	}
}

// TestTakeOfForeignParts: in each place something that is no part of its kind, in a list that is one of RLP.
func TestTakeOfForeignParts(t *testing.T) { // P7.2
	wide := "\x01" + strings.Repeat("\x00", 32)
	for _, x := range several() {
		for at := range 7 {
			text, _ := plainList(x)[at].(string)
			for what, part := range map[string]node{
				"an empty list":             []node{},
				"a list of it":              []node{plainList(x)[at]},
				"a nought ahead":            "\x00" + text,
				"a nought":                  "\x00",
				"two noughts ahead":         "\x00\x00" + text,
				"33 bytes":                  wide,
				"33 bytes and it":           "\x01" + strings.Repeat("\x00", 33-len(text)) + text,
				"33 bytes, noughts and it":  strings.Repeat("\x00", 33-len(text)) + text,
				"a byte with a length":      asIs("\x81\x07"),
				"a length of a nought":      asIs("\xb8\x01\x07"),
				"a text that is no number ": strings.Repeat("\xff", 56),
			} {
				l := plainList(x)
				l[at] = part
				mustNotTake(t, fmt.Sprint("place ", at, ", ", what), plainItem(l))
			}
		}
	}
}

func TestTakeOfWholeNumbersThatAreTooGreat(t *testing.T) { // P7.2
	for _, at := range []int{0, 1, 6} {
		for _, up := range []uint{31, 32, 62, 63, 64, 65, 96, 128, 192, 255} {
			for _, more := range []int64{-1, 0, 1, 2, 7} {
				l := plainList(with("a"))
				n := bit(up, more)
				if at == 1 && up < 40 {
					continue // a nonce may be so great
				}
				l[at] = whatNumber(n)
				mustNotTake(t, fmt.Sprint("place ", at, ", 2^", up, " and ", more), plainItem(l))
			}
		}
		l := plainList(with("a"))
		l[at] = whatNumber(bit(256, -1))
		mustNotTake(t, fmt.Sprint("place ", at, ", all bits"), plainItem(l))
	}
}

func TestTakeOfForeignHashes(t *testing.T) { // P7.2
	x := with("a", "b")
	for at := range x.Hashes {
		hash := plainList(x)[7].([]node)[at].(string)
		for what, part := range map[string]node{
			"nothing":            "",
			"seven bytes":        hash[:7],
			"the last seven":     hash[1:],
			"nine bytes":         hash + "\x00",
			"a nought ahead":     "\x00" + hash,
			"sixteen":            hash + hash,
			"a list":             []node{hash},
			"an empty list":      []node{},
			"a hash of another":  "12345678",
			"eight bytes listed": []node{"1", "2", "3", "4", "5", "6", "7", "8"},
		} {
			l := plainList(x)
			l[7].([]node)[at] = part
			mustNotTake(t, fmt.Sprint("hash ", at, ", ", what), plainItem(l))
		}
	}
	for what, part := range map[string]node{
		"a text": plainList(x)[7].([]node)[0], "an empty text": "", "an empty list": []node{},
		"one less": plainList(x)[7].([]node)[:1], "one more": append(plainList(x)[7].([]node), ""),
		"a list more": append(plainList(x)[7].([]node), []node{}), "a list around": []node{plainList(x)[7]},
	} {
		l := plainList(x)
		l[7] = part
		mustNotTake(t, "hashes: "+what, plainItem(l))
	}
}

// TestAHashMayBeginWithANought: eight bytes are eight bytes, not a number's.
func TestAHashMayBeginWithANought(t *testing.T) { // P7.1, P7.2, P7.4
	found := 0
	for i := range 4096 {
		x := with(fmt.Sprint(i, " of the blobs"))
		if x.Hashes[0]>>56 == 0 {
			mustBe(t, x.Blobs[0], x)
			found++
		}
	}
	if found == 0 {
		t.Errorf("none was found")
	}
}

func TestTakeOfForeignBlobs(t *testing.T) { // P7.2
	x := with("", "b")
	for at, b := range x.Blobs {
		for what, part := range map[string]node{
			"an empty list": []node{}, "a list of it": []node{b}, "another one": b + "q", "too long": strings.Repeat("z", api.MaxBlob+1),
		} {
			l := plainList(x)
			l[8].([]node)[at] = part
			mustNotTake(t, fmt.Sprint("blob ", at, ", ", what), plainItem(l))
		}
	}
	for what, part := range map[string]node{
		"a text": "b", "an empty text": "", "an empty list": []node{}, "one less": plainList(x)[8].([]node)[:1],
		"one more": append(plainList(x)[8].([]node), ""), "a list more": append(plainList(x)[8].([]node), []node{}), "a list around": []node{plainList(x)[8]},
	} {
		l := plainList(x)
		l[8] = part
		mustNotTake(t, "blobs: "+what, plainItem(l))
	}
}

func TestTakeOfAnotherNumberOfParts(t *testing.T) { // P7.2
	for i, x := range several() {
		for n := range 9 {
			mustNotTake(t, fmt.Sprint(i, ", the first ", n), plainItem(plainList(x)[:n]))
			mustNotTake(t, fmt.Sprint(i, ", without ", n), plainItem(slices.Delete(plainList(x), n, n+1)))
		}
		for at := range 10 {
			for _, more := range []node{"", "\x01", []node{}} {
				mustNotTake(t, fmt.Sprint(i, ", one more at ", at), plainItem(slices.Insert(plainList(x), at, more)))
			}
		}
		mustNotTake(t, fmt.Sprint(i, " as a list of it"), plainItem([]node{plainList(x)}))
		mustNotTake(t, fmt.Sprint(i, " as a text"), plainItem(plainBytes(x)))
	}
}

func TestTakeOfNoTransaction(t *testing.T) { // P7.2, R1
	deep := asIs(strings.Repeat("\xc1", 40) + "\xc0")
	many := plainItem(slices.Repeat([]node{""}, 60000))
	for i, s := range []string{
		"", "\x00", "\x80", "\xc0", "a", "\xff", "\xb8", "\xf8", "\xf9\xff\xff", string(deep), many, "not a transaction",
		strings.Repeat("\xff", 100), strings.Repeat("\x80", 9), strings.Repeat("\xc9", 1<<20), plainItem(strings.Repeat("z", 1<<16)),
	} {
		mustNotTake(t, fmt.Sprint(i), s)
	}
}

func TestTakeIsOfTransactionsThatMayBe(t *testing.T) { // P7.2
	for i, change := range []func(x *api.Tx){
		func(x *api.Tx) { x.From = api.MaxAccts },
		func(x *api.Tx) { x.Nonce = api.MaxNonce + 1 },
		func(x *api.Tx) { x.Gas = api.MaxGas + 1 },
		func(x *api.Tx) { x.Tip = api.U256{5} },
		func(x *api.Tx) { x.Hashes[0]++ },
		func(x *api.Tx) { x.Value = bit(256, -1) },
	} {
		x := with("a")
		change(&x)
		mustNotTake(t, fmt.Sprint(i), plainBytes(x))
	}
}

func TestPays(t *testing.T) { // P7.3
	for i, c := range []struct {
		tip, most, base, want api.U256
		e                     api.Errno
	}{
		{api.U256{3}, api.U256{10}, api.U256{}, api.U256{3}, api.OK},
		{api.U256{3}, api.U256{10}, api.U256{6}, api.U256{3}, api.OK},
		{api.U256{3}, api.U256{10}, api.U256{7}, api.U256{3}, api.OK},
		{api.U256{3}, api.U256{10}, api.U256{8}, api.U256{2}, api.OK},
		{api.U256{3}, api.U256{10}, api.U256{9}, api.U256{1}, api.OK},
		{api.U256{3}, api.U256{10}, api.U256{10}, api.U256{}, api.OK},
		{api.U256{3}, api.U256{10}, api.U256{11}, api.U256{}, api.ErrLow},
		{api.U256{3}, api.U256{10}, api.U256{0, 1}, api.U256{}, api.ErrLow},
		{api.U256{3}, api.U256{10}, bit(256, -1), api.U256{}, api.ErrLow},
		{api.U256{}, api.U256{10}, api.U256{4}, api.U256{}, api.OK},
		{api.U256{}, api.U256{}, api.U256{}, api.U256{}, api.OK},
		{api.U256{}, api.U256{}, api.U256{1}, api.U256{}, api.ErrLow},
		{api.U256{10}, api.U256{10}, api.U256{}, api.U256{10}, api.OK},
		{api.U256{10}, api.U256{10}, api.U256{1}, api.U256{9}, api.OK},
		{bit(128, 0), bit(200, 0), bit(200, -5), api.U256{5}, api.OK},
		{bit(128, 0), bit(200, 0), bit(128, 0), bit(128, 0), api.OK},
		{bit(128, 0), bit(200, 0), bit(200, 1), api.U256{}, api.ErrLow},
		{bit(256, -1), bit(256, -1), api.U256{}, bit(256, -1), api.OK},
		{bit(256, -1), bit(256, -1), bit(256, -1), api.U256{}, api.OK},
		{bit(256, -2), bit(256, -2), bit(256, -1), api.U256{}, api.ErrLow},
	} {
		x := with("a")
		x.Gas, x.Tip, x.Cap = 0, c.tip, c.most
		if p, e := Pays(x, c.base); p != c.want || e != c.e {
			t.Errorf("%d: %v, %v, not %v, %v", i, p, e, c.want, c.e)
		}
	}
}

// TestManyByThePlainText: numbers of all widths, held against the chapter's text.
func TestManyByThePlainText(t *testing.T) { // P7.1, P7.2, P7.3, P7.4
	r := rand.New(rand.NewSource(7))
	any := func() api.U256 {
		n := new(big.Int).Rand(r, new(big.Int).Lsh(big.NewInt(1), uint(r.Intn(257))))
		return number(n)
	}
	may := 0
	for i := range 20000 {
		x := with(repeated(strings.Repeat("q", r.Intn(65)), 1+r.Intn(4))...)
		x.From, x.Nonce, x.Gas = r.Intn(9), r.Intn(2)<<r.Intn(42), r.Intn(2)<<r.Intn(32)
		x.Tip, x.Cap, x.BlobCap, x.Value = any(), any(), any(), any()
		decided(t, fmt.Sprint("no. ", i), x)
		if !plainMayBe(x) {
			continue
		}
		may++
		base := any()
		left := new(big.Int).Sub(plain(x.Cap), plain(base))
		want, e := api.U256{}, api.ErrLow
		if left.Sign() >= 0 {
			if want, e = number(left), api.OK; left.Cmp(plain(x.Tip)) > 0 {
				want = x.Tip
			}
		}
		if p, f := Pays(x, base); p != want || f != e {
			t.Errorf("no. %d: pays %v, %v, not %v, %v", i, p, f, want, e)
		}
	}
	if may < 1000 {
		t.Errorf("only %d may be", may)
	}
}

func TestBytesTellTransactionsApart(t *testing.T) { // P7.4
	seen := map[string]int{}
	for i, change := range []func(x *api.Tx){
		func(x *api.Tx) {},
		func(x *api.Tx) { x.From++ },
		func(x *api.Tx) { x.Nonce++ },
		func(x *api.Tx) { x.Tip[0]-- },
		func(x *api.Tx) { x.Cap[0]++ },
		func(x *api.Tx) { x.BlobCap[0]++ },
		func(x *api.Tx) { x.Value[0]++ },
		func(x *api.Tx) { x.Value[3] = 1 },
		func(x *api.Tx) { x.Gas++ },
		func(x *api.Tx) { x.Blobs = []string{"b"}; x.Hashes = plainHashes(x.Blobs) },
		func(x *api.Tx) { x.Blobs = []string{"a", "a"}; x.Hashes = plainHashes(x.Blobs) },
		func(x *api.Tx) { x.Blobs = []string{"a", ""}; x.Hashes = plainHashes(x.Blobs) },
	} {
		x := with("a")
		change(&x)
		s, e := Bytes(x)
		if other, there := seen[s]; there || e != api.OK {
			t.Errorf("%d has the bytes of %d: %v", i, other, e)
		}
		seen[s] = i
	}
}

func TestNothingHandedInIsChanged(t *testing.T) { // R1, R2
	for i, x := range several() {
		x.Hashes, x.Blobs = append(x.Hashes, 7), append(x.Blobs, "spare")
		was := copied(x)
		y := x
		y.Hashes, y.Blobs = x.Hashes[:len(x.Hashes)-1], x.Blobs[:len(x.Blobs)-1]
		for range 2 {
			mustBe(t, fmt.Sprint(i), y)
		}
		if !same(x, was) {
			t.Errorf("%d: %v, not %v", i, x, was)
		}
	}
}

func TestWhatIsTakenIsNewMemory(t *testing.T) { // R2
	for i, x := range several() {
		s := plainBytes(x)
		a, _ := Take(s)
		b, _ := Take(s)
		for k := range a.Hashes {
			a.Hashes[k], a.Blobs[k] = 1, "written"
		}
		a.Hashes, a.Blobs = append(a.Hashes, 2), append(a.Blobs, "appended")
		c, _ := Take(s)
		if !same(b, x) || !same(c, x) {
			t.Errorf("%d: %v, %v", i, b, c)
		}
	}
}
