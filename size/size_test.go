package size

import (
	"hash/fnv"
	"math"
	"math/big"
	"math/rand"
	"reflect"
	"strings"
	"testing"

	"tarn/api"
)

// What follows up to the first test is the chapters' text once more: how long a transaction's bytes are is reckoned, not written.

func plainHash(b string) uint64 {
	h := fnv.New64a()
	h.Write([]byte("blob" + b))
	return h.Sum64()
}

func plain(a api.U256) *big.Int {
	n := new(big.Int)
	for i := len(a) - 1; i >= 0; i-- {
		n.Lsh(n, 64).Or(n, new(big.Int).SetUint64(a[i]))
	}
	return n
}

// headLong is how long the head of so many bytes is.
func headLong(n int) int {
	if n <= 55 {
		return 1
	}
	return 1 + len(big.NewInt(int64(n)).Bytes())
}

func textLong(s string) int {
	if len(s) == 1 && s[0] < 128 {
		return 1
	}
	return headLong(len(s)) + len(s)
}

func numberLong(n *big.Int) int { return textLong(string(n.Bytes())) }

func plainLong(t api.Tx) int {
	n := 0
	for _, k := range []int{t.From, t.Nonce, t.Gas} {
		n += numberLong(big.NewInt(int64(k)))
	}
	for _, a := range []api.U256{t.Tip, t.Cap, t.BlobCap, t.Value} {
		n += numberLong(plain(a))
	}
	hashes, blobs := 9*len(t.Hashes), 0
	for _, b := range t.Blobs {
		blobs += textLong(b)
	}
	n += headLong(hashes) + hashes + headLong(blobs) + blobs
	return headLong(n) + n
}

// plainShelf tells -1 where there is none.
func plainShelf(n int) int {
	switch {
	case n <= 128-16:
		return 0
	case n <= 256-16:
		return 1
	case n <= 512-16:
		return 2
	case n <= 1024-16:
		return 3
	}
	return -1
}

func with(t api.Tx, blobs ...string) api.Tx {
	t.Hashes, t.Blobs = nil, nil
	for _, b := range blobs {
		t.Hashes, t.Blobs = append(t.Hashes, plainHash(b)), append(t.Blobs, b)
	}
	return t
}

// full is so many blobs that are as long as may be.
func full(n int) []string {
	var l []string
	for i := range n {
		l = append(l, strings.Repeat(string(rune('a'+i)), api.MaxBlob))
	}
	return l
}

// bit is 2^k.
func bit(k int) api.U256 {
	var a api.U256
	a[k/64] = 1 << (k % 64)
	return a
}

func wantOf(t *testing.T, x api.Tx) {
	t.Helper()
	n, shelf, slot, e := Of(x)
	long := plainLong(x)
	want := plainShelf(long)
	if e != api.OK || n != long || shelf != want || slot != 128<<want {
		t.Errorf("%+v: %d, %d, %d, %v, not %d, %d, %d", x, n, shelf, slot, e, long, want, 128<<want)
	}
}

// P8.1
func TestSlotIs128TimesTwoToTheShelf(t *testing.T) {
	for _, c := range []struct{ shelf, slot int }{{0, 128}, {1, 256}, {2, 512}, {3, 1024}} {
		if n, e := Slot(c.shelf); n != c.slot || e != api.OK {
			t.Errorf("%d: %d, %v", c.shelf, n, e)
		}
	}
	if n, e := Slot(api.Shelves - 1); n != 1024 || e != api.OK {
		t.Errorf("the last: %d, %v", n, e)
	}
}

// P8.1, R4
func TestSlotRefusesWhatIsNoShelf(t *testing.T) {
	for _, shelf := range []int{-1, -2, -64, math.MinInt, math.MinInt + 1, api.Shelves, api.Shelves + 1, 56, 57, 63, 64, 65, 1 << 32, math.MaxInt} {
		if n, e := Slot(shelf); n != 0 || e != api.ErrForm {
			t.Errorf("%d: %d, %v", shelf, n, e)
		}
	}
}

// P8.1
func TestShelfIsTheFirstWithRoomForSixteenMore(t *testing.T) {
	for _, c := range []struct{ n, shelf int }{
		{0, 0}, {1, 0}, {111, 0}, {112, 0},
		{113, 1}, {127, 1}, {128, 1}, {129, 1}, {240, 1},
		{241, 2}, {256, 2}, {496, 2},
		{497, 3}, {512, 3}, {1007, 3}, {1008, 3},
	} {
		if k, e := Shelf(c.n); k != c.shelf || e != api.OK {
			t.Errorf("%d: %d, %v", c.n, k, e)
		}
	}
}

// P8.1
func TestShelfOfEachNumberAtItsPlace(t *testing.T) {
	for n := range 1100 {
		want, wantErr := plainShelf(n), api.OK
		if want < 0 {
			want, wantErr = 0, api.ErrLimit
		}
		if k, e := Shelf(n); k != want || e != wantErr {
			t.Errorf("%d: %d, %v", n, k, e)
		}
	}
}

// P8.1
func TestShelfIsFirstOfItsSlots(t *testing.T) {
	for shelf := range api.Shelves {
		slot, _ := Slot(shelf)
		if k, e := Shelf(slot - 16); k != shelf || e != api.OK {
			t.Errorf("%d: %d, %v", shelf, k, e)
		}
		k, e := Shelf(slot - 15)
		if shelf < api.Shelves-1 && (k != shelf+1 || e != api.OK) {
			t.Errorf("%d and one more: %d, %v", shelf, k, e)
		}
		if shelf == api.Shelves-1 && (k != 0 || e != api.ErrLimit) {
			t.Errorf("the last and one more: %d, %v", k, e)
		}
	}
}

// P8.1, R4
func TestShelfRefusesWhatIsBelowZero(t *testing.T) {
	for _, n := range []int{-1, -15, -16, -17, -1 << 32, math.MinInt + 16, math.MinInt + 1, math.MinInt} {
		if k, e := Shelf(n); k != 0 || e != api.ErrForm {
			t.Errorf("%d: %d, %v", n, k, e)
		}
	}
}

// P8.1, R4
func TestShelfRefusesWhatIsAboveTheGreatestSlot(t *testing.T) {
	for _, n := range []int{1009, 1010, 1024, 1025, 1 << 20, 1 << 32, math.MaxInt - 17, math.MaxInt - 16, math.MaxInt - 15, math.MaxInt - 1, math.MaxInt} {
		if k, e := Shelf(n); k != 0 || e != api.ErrLimit {
			t.Errorf("%d: %d, %v", n, k, e)
		}
	}
}

// P8.1
func TestOfTheShortest(t *testing.T) {
	x := with(api.Tx{}, "")
	if n, shelf, slot, e := Of(x); n != 20 || shelf != 0 || slot != 128 || e != api.OK {
		t.Errorf("%d, %d, %d, %v", n, shelf, slot, e)
	}
	wantOf(t, x)
}

// longest is the one whose bytes are the most: its gas has two bytes while its fees keep theirs, within 256 bits together.
func longest() api.Tx {
	x := api.Tx{From: api.MaxAccts - 1, Nonce: api.MaxNonce, Gas: 128, Tip: bit(248), Cap: bit(248), BlobCap: bit(232), Value: bit(248)}
	return with(x, full(api.MaxBlobs)...)
}

// P8.1, P8.2
func TestOfTheLongest(t *testing.T) {
	if n, shelf, slot, e := Of(longest()); n != 447 || shelf != 2 || slot != 512 || e != api.OK {
		t.Errorf("%d, %d, %d, %v", n, shelf, slot, e)
	}
	wantOf(t, longest())
}

// P8.2: the least gas of each length is among those that are tried, and each number is as long as may be beside it.
func TestNoneThatMayBeIsLongerThanTheLongest(t *testing.T) {
	most := 0
	for gasBits := range 31 {
		for blobs := 1; blobs <= api.MaxBlobs; blobs++ {
			x := api.Tx{From: 7, Nonce: api.MaxNonce, Gas: 1 << gasBits, BlobCap: bit(232), Value: bit(248)}
			x.Cap = bit(255 - gasBits)
			x.Tip = x.Cap
			x = with(x, full(blobs)...)
			wantOf(t, x)
			n, _, _, _ := Of(x)
			most = max(most, n)
		}
	}
	if most != 447 {
		t.Errorf("%d", most)
	}
}

// P8.1: bytes just as long as a slot less 16, and one more.
func TestOfAtTheEdgesOfSlots(t *testing.T) {
	seen := map[int]bool{}
	for blobs := 1; blobs <= api.MaxBlobs; blobs++ {
		for last := range api.MaxBlob + 1 {
			for _, value := range []int{0, 8, 16, 64, 128, 255} {
				l := full(blobs)
				l[blobs-1] = l[blobs-1][:last]
				x := with(api.Tx{From: 3, Nonce: 9, Gas: 1}, l...)
				if value > 0 {
					x.Value = bit(value - 1)
				}
				wantOf(t, x)
				n, _, _, _ := Of(x)
				seen[n] = true
			}
		}
	}
	for _, n := range []int{112, 113, 240, 241} {
		if !seen[n] {
			t.Errorf("none of %d bytes", n)
		}
	}
}

// P8.1
func TestOfOneByteLongerHasTheNextShelf(t *testing.T) {
	x := with(api.Tx{Value: bit(247), Tip: api.U256{}, Cap: bit(7), Gas: 1}, strings.Repeat("b", 54))
	for n, shelf, slot, e := Of(x); n < 112; n, shelf, slot, e = Of(x) {
		if e != api.OK || shelf != 0 || slot != 128 {
			t.Fatalf("%d, %d, %d, %v", n, shelf, slot, e)
		}
		x = with(x, x.Blobs[0]+"b")
	}
	if n, shelf, slot, e := Of(x); n != 112 || shelf != 0 || slot != 128 || e != api.OK {
		t.Errorf("%d, %d, %d, %v", n, shelf, slot, e)
	}
	x = with(x, x.Blobs[0]+"b")
	if n, shelf, slot, e := Of(x); n != 113 || shelf != 1 || slot != 256 || e != api.OK {
		t.Errorf("%d, %d, %d, %v", n, shelf, slot, e)
	}
}

// P8.1, R4
func TestOfRefusesWhatMayNotBe(t *testing.T) {
	good := longest()
	for name, spoil := range map[string]func(*api.Tx){
		"From below 0":         func(x *api.Tx) { x.From = -1 },
		"From too great":       func(x *api.Tx) { x.From = api.MaxAccts },
		"Nonce below 0":        func(x *api.Tx) { x.Nonce = -1 },
		"Nonce too great":      func(x *api.Tx) { x.Nonce = api.MaxNonce + 1 },
		"Gas below 0":          func(x *api.Tx) { x.Gas = -1 },
		"Gas too great":        func(x *api.Tx) { x.Gas, x.Cap, x.Tip = api.MaxGas+1, api.U256{1}, api.U256{1} },
		"Tip above Cap":        func(x *api.Tx) { x.Tip[0]++ },
		"no blobs":             func(x *api.Tx) { x.Hashes, x.Blobs = nil, nil },
		"too many blobs":       func(x *api.Tx) { *x = with(*x, "a", "b", "c", "d", "e") },
		"a blob too long":      func(x *api.Tx) { *x = with(*x, strings.Repeat("a", api.MaxBlob+1)) },
		"far too long a blob":  func(x *api.Tx) { *x = with(*x, strings.Repeat("a", 1<<16)) },
		"a hash of another":    func(x *api.Tx) { x.Hashes = []uint64{1, 2, 3, 4} },
		"a hash too few":       func(x *api.Tx) { x.Hashes = x.Hashes[1:] },
		"a cost over 256 bits": func(x *api.Tx) { x.Value = bit(255) },
	} {
		x := good
		spoil(&x)
		if n, shelf, slot, e := Of(x); n != 0 || shelf != 0 || slot != 0 || e != api.ErrForm {
			t.Errorf("%s: %d, %d, %d, %v", name, n, shelf, slot, e)
		}
	}
	if n, shelf, slot, e := Of(api.Tx{}); n != 0 || shelf != 0 || slot != 0 || e != api.ErrForm {
		t.Errorf("of none: %d, %d, %d, %v", n, shelf, slot, e)
	}
}

// P8.1, P8.2, R1
func TestEveryOneThatMayBeHasAShelf(t *testing.T) {
	r := rand.New(rand.NewSource(8))
	some := func(most int) api.U256 {
		var a api.U256
		for range r.Intn(4) {
			a = bit(r.Intn(most))
		}
		return a
	}
	for range 3000 {
		x := api.Tx{From: r.Intn(api.MaxAccts), Nonce: r.Intn(api.MaxNonce+1) >> r.Intn(41), Gas: r.Intn(api.MaxGas+1) >> r.Intn(31)}
		x.Cap, x.BlobCap, x.Value = some(224), some(236), some(254)
		if r.Intn(2) == 0 {
			x.Tip = x.Cap
		}
		var l []string
		for range 1 + r.Intn(api.MaxBlobs) {
			b := make([]byte, r.Intn(api.MaxBlob+1))
			r.Read(b)
			l = append(l, string(b))
		}
		x = with(x, l...)
		wantOf(t, x)
		wantOf(t, x)
	}
}

// R2
func TestOfChangesNothingThatIsHandedIn(t *testing.T) {
	x, same := longest(), longest()
	Of(x)
	if !reflect.DeepEqual(x, same) {
		t.Errorf("%+v", x)
	}
}
