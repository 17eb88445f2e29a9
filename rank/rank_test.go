package rank

import (
	"fmt"
	"hash/fnv"
	"math"
	"math/big"
	"math/rand"
	"reflect"
	"slices"
	"strings"
	"testing"

	"tarn/api"
)

const ones = math.MaxUint64

var (
	zero     = api.U256{}
	greatest = api.U256{ones, ones, ones, ones}
)

// What follows up to the first test is the chapters' text once more, slowly, with the library's numbers and marks.

func plain(a api.U256) *big.Int {
	n := new(big.Int)
	for i := len(a) - 1; i >= 0; i-- {
		n.Lsh(n, 64).Or(n, new(big.Int).SetUint64(a[i]))
	}
	return n
}

// bit is 2^k and more.
func bit(k uint, more int64) api.U256 {
	n := new(big.Int).Lsh(big.NewInt(1), k)
	n.Add(n, big.NewInt(more))
	var a api.U256
	for i := range a {
		a[i] = new(big.Int).And(new(big.Int).Rsh(n, uint(64*i)), new(big.Int).SetUint64(ones)).Uint64()
	}
	return a
}

func plainLevel(n *big.Int) int {
	if n.Sign() == 0 {
		return 0
	}
	text := n.Text(2)
	behind := 0
	for _, digit := range (text + "000")[1:4] {
		behind = 2*behind + int(digit-'0')
	}
	return 8*(len(text)-1) + behind + 1
}

func plainBlobFee(excess int) *big.Int {
	den, num := big.NewInt(3338477), big.NewInt(int64(excess))
	acc, out := new(big.Int).Set(den), new(big.Int)
	for i := int64(1); acc.Sign() != 0; i++ {
		out.Add(out, acc)
		acc = new(big.Int).Mul(acc, num)
		if i > 4096 || out.BitLen() > 256 || acc.BitLen() > 256 {
			return plain(greatest)
		}
		acc.Div(acc, new(big.Int).Mul(den, big.NewInt(i)))
	}
	return out.Div(out, den)
}

// plainRank is of a transaction that may be, at a head whose Excess may be.
func plainRank(x api.Tx, h api.Head) api.Rank {
	gas := plainLevel(plain(x.Cap)) - plainLevel(plain(h.Base))
	blobs := plainLevel(plain(x.BlobCap)) - plainLevel(plainBlobFee(h.Excess))
	return api.Rank{Dist: min(0, gas, blobs), Tip: x.Tip}
}

func plainOf(l []api.Tx, h api.Head) api.Rank {
	least := plainRank(l[0], h)
	for _, x := range l {
		r := plainRank(x, h)
		least.Dist = min(least.Dist, r.Dist)
		if plain(r.Tip).Cmp(plain(least.Tip)) < 0 {
			least.Tip = r.Tip
		}
	}
	return least
}

func plainCmp(a, b api.Rank) int {
	if a.Dist != b.Dist {
		return big.NewInt(int64(a.Dist)).Cmp(big.NewInt(int64(b.Dist)))
	}
	return plain(a.Tip).Cmp(plain(b.Tip))
}

func with(x api.Tx, blobs ...string) api.Tx {
	x.Hashes, x.Blobs = nil, nil
	for _, b := range blobs {
		h := fnv.New64a()
		h.Write([]byte("blob" + b))
		x.Hashes, x.Blobs = append(x.Hashes, h.Sum64()), append(x.Blobs, b)
	}
	return x
}

// paying is a transaction without gas, so that its Cap may be any; its BlobCap is to be below 2^239.
func paying(tip, most, blobs api.U256) api.Tx {
	return with(api.Tx{From: 1, Nonce: 2, Tip: tip, Cap: most, BlobCap: blobs}, "a")
}

func small(tip, most, blobs uint64) api.Tx {
	return paying(api.U256{tip}, api.U256{most}, api.U256{blobs})
}

func wantOne(t *testing.T, x api.Tx, h api.Head, want api.Rank) {
	t.Helper()
	if r, e := One(x, h); r != want || e != api.OK {
		t.Errorf("One(%+v, %+v): %v, %v, not %v", x, h, r, e, want)
	}
}

func wantOf(t *testing.T, l []api.Tx, h api.Head, want api.Rank) {
	t.Helper()
	if r, e := Of(l, h); r != want || e != api.OK {
		t.Errorf("Of(%+v, %+v): %v, %v, not %v", l, h, r, e, want)
	}
}

func wantNoRank(t *testing.T, what string, r api.Rank, e api.Errno) {
	t.Helper()
	if r != (api.Rank{}) || e != api.ErrForm {
		t.Errorf("%s: %v, %v", what, r, e)
	}
}

// P12.1: the chapter's example.
func TestCapsAtTheFees(t *testing.T) {
	wantOne(t, small(1, 100, 1), api.Head{Base: api.U256{100}}, api.Rank{Tip: api.U256{1}})
	wantOne(t, small(100, 100, 23), api.Head{Base: api.U256{100}, Excess: 10 << 20}, api.Rank{Tip: api.U256{100}})
}

// P12.1: reckoned by hand; a blob gas costs 1 by an excess of 0, 23 by one of 10 * 2^20.
func TestOneCountsTheLevelsBelowTheFees(t *testing.T) {
	for _, c := range []struct {
		most, blobs, base uint64
		excess, want      int
	}{
		// Cap below the fee, at it, above it.
		{99, 1, 100, 0, 0}, {96, 1, 100, 0, 0}, {95, 1, 100, 0, -1}, {100, 1, 100, 0, 0}, {101, 1, 100, 0, 0}, {1 << 40, 1, 100, 0, 0},
		{2, 1, 3, 0, -4}, {3, 1, 4, 0, -4}, {7, 1, 8, 0, -2}, {15, 1, 16, 0, -1}, {16, 1, 17, 0, 0}, {50, 1, 100, 0, -8}, {25, 1, 100, 0, -16},
		// BlobCap below the fee, at it, above it.
		{100, 21, 100, 10 << 20, -1}, {100, 22, 100, 10 << 20, 0}, {100, 23, 100, 10 << 20, 0}, {100, 24, 100, 10 << 20, 0}, {100, 11, 100, 10 << 20, -8}, {100, 1 << 40, 100, 10 << 20, 0},
		// One of them the lesser one, and both alike.
		{50, 11, 100, 10 << 20, -8}, {25, 11, 100, 10 << 20, -16}, {50, 5, 100, 10 << 20, -17}, {95, 11, 100, 10 << 20, -8}, {50, 21, 100, 10 << 20, -8},
		// What one is above makes up for nothing of the other.
		{1 << 40, 11, 100, 10 << 20, -8}, {50, 1 << 40, 100, 10 << 20, -8},
		// None at all.
		{0, 1, 0, 0, 0}, {0, 0, 0, 0, -1}, {0, 1, 1, 0, -1}, {1, 1, 0, 0, 0}, {0, 1, 100, 0, -53}, {100, 0, 100, 10 << 20, -36},
	} {
		wantOne(t, small(0, c.most, c.blobs), api.Head{Base: api.U256{c.base}, Excess: c.excess}, api.Rank{Dist: c.want})
	}
}

// P12.1
func TestOneOfTheGreatestNumbers(t *testing.T) {
	most := bit(239, -1) // more of each blob gas costs more than 256 bits tell
	for _, c := range []struct {
		tip, most, blobs, base api.U256
		excess, want           int
	}{
		{greatest, greatest, api.U256{1}, zero, 0, 0},
		{greatest, greatest, api.U256{1}, greatest, 0, 0},
		{zero, bit(255, 0), api.U256{1}, greatest, 0, -7},
		{zero, zero, api.U256{1}, greatest, 0, -2048},
		{zero, api.U256{1}, api.U256{1}, greatest, 0, -2047},
		{zero, zero, api.U256{1}, bit(255, 0), 0, -2041},
		{zero, greatest, zero, zero, api.MaxExcess, -2048},
		{zero, zero, zero, greatest, api.MaxExcess, -2048},
		{zero, zero, api.U256{1}, greatest, api.MaxExcess, -2048},
		{greatest, greatest, api.U256{1}, zero, api.MaxExcess, -2047},
		{zero, bit(64, 0), most, bit(64, 0), 0, 0},
		{zero, bit(64, 0), most, bit(64, 0), api.MaxExcess, 8*239 - 2048},
		{zero, bit(64, -1), most, bit(64, 0), 0, -1},
		{zero, bit(128, 0), most, bit(192, 0), 0, -512},
	} {
		wantOne(t, paying(c.tip, c.most, c.blobs), api.Head{Base: c.base, Excess: c.excess}, api.Rank{Dist: c.want, Tip: c.tip})
	}
}

// P12.1: the tip that it names, not what it pays at this head.
func TestOneHasTheTipAsItStands(t *testing.T) {
	for _, tip := range []api.U256{zero, {1}, {99}, {100}} {
		for _, base := range []uint64{0, 50, 99, 100} {
			wantOne(t, paying(tip, api.U256{100}, api.U256{1}), api.Head{Base: api.U256{base}}, api.Rank{Tip: tip})
		}
		wantOne(t, paying(tip, api.U256{100}, api.U256{1}), api.Head{Base: api.U256{200}}, api.Rank{Dist: -8, Tip: tip})
	}
	for limb := range 4 {
		tip := bit(uint(64*limb), 0)
		wantOne(t, paying(tip, greatest, api.U256{1}), api.Head{}, api.Rank{Tip: tip})
		wantOf(t, []api.Tx{paying(tip, greatest, api.U256{1})}, api.Head{}, api.Rank{Tip: tip})
	}
}

// P12.1
func TestOneAsksNothingElse(t *testing.T) {
	h := api.Head{Base: api.U256{100}, Excess: 10 << 20}
	want := api.Rank{Dist: -8, Tip: api.U256{3}}
	for _, number := range []int{0, -1, math.MinInt, api.MaxNumber, api.MaxNumber + 1, math.MaxInt} {
		h.Number = number
		wantOne(t, small(3, 50, 23), h, want)
	}
	for name, change := range map[string]func(*api.Tx){
		"From":  func(x *api.Tx) { x.From = api.MaxAccts - 1 },
		"Nonce": func(x *api.Tx) { x.Nonce = api.MaxNonce },
		"Gas":   func(x *api.Tx) { x.Gas = api.MaxGas },
		"Value": func(x *api.Tx) { x.Value = bit(255, 0) },
		"blobs": func(x *api.Tx) { *x = with(*x, "", "b", strings.Repeat("c", api.MaxBlob), "b") },
	} {
		x := small(3, 50, 23)
		change(&x)
		if r, e := One(x, h); r != want || e != api.OK {
			t.Errorf("%s: %v, %v", name, r, e)
		}
	}
}

// spoilt tells for each thing that is not as it may be a transaction that is right but for it.
func spoilt() map[string]api.Tx {
	l := map[string]api.Tx{"none": {}}
	for name, spoil := range map[string]func(*api.Tx){
		"From below 0":         func(x *api.Tx) { x.From = -1 },
		"From too great":       func(x *api.Tx) { x.From = api.MaxAccts },
		"Nonce below 0":        func(x *api.Tx) { x.Nonce = -1 },
		"Nonce too great":      func(x *api.Tx) { x.Nonce = api.MaxNonce + 1 },
		"Gas below 0":          func(x *api.Tx) { x.Gas = -1 },
		"Gas too great":        func(x *api.Tx) { x.Gas = api.MaxGas + 1 },
		"Tip above Cap":        func(x *api.Tx) { x.Tip[0]++ },
		"Tip far above Cap":    func(x *api.Tx) { x.Tip = greatest },
		"no blobs":             func(x *api.Tx) { x.Hashes, x.Blobs = nil, nil },
		"too many blobs":       func(x *api.Tx) { *x = with(*x, "a", "b", "c", "d", "e") },
		"a blob too long":      func(x *api.Tx) { *x = with(*x, strings.Repeat("a", api.MaxBlob+1)) },
		"a hash of another":    func(x *api.Tx) { x.Hashes = []uint64{x.Hashes[0] + 1} },
		"a hash too few":       func(x *api.Tx) { x.Hashes = nil },
		"a hash too many":      func(x *api.Tx) { x.Hashes = append(x.Hashes, x.Hashes[0]) },
		"a cost over 256 bits": func(x *api.Tx) { x.Value = greatest },
		"blobs over 256 bits":  func(x *api.Tx) { x.BlobCap = bit(239, 0) },
		"gas over 256 bits":    func(x *api.Tx) { x.Cap, x.Gas = bit(255, 0), 2 },
	} {
		x := small(100, 100, 23)
		spoil(&x)
		l[name] = x
	}
	return l
}

// P12.1, R4
func TestOneRefusesATransactionThatMayNotBe(t *testing.T) {
	h := api.Head{Base: api.U256{100}, Excess: 10 << 20}
	wantOne(t, small(100, 100, 23), h, api.Rank{Tip: api.U256{100}})
	for name, x := range spoilt() {
		r, e := One(x, h)
		wantNoRank(t, name, r, e)
		r, e = One(x, api.Head{})
		wantNoRank(t, name+", no fees", r, e)
		r, e = One(x, api.Head{Excess: -1})
		wantNoRank(t, name+", nor the head", r, e)
	}
}

// P12.1
func TestExcessFromNoneToTheGreatest(t *testing.T) {
	x := small(7, 100, 1)
	wantOne(t, x, api.Head{}, api.Rank{Tip: api.U256{7}})
	wantOne(t, x, api.Head{Excess: 1}, api.Rank{Tip: api.U256{7}})
	wantOne(t, x, api.Head{Excess: api.MaxExcess - 1}, api.Rank{Dist: -2047, Tip: api.U256{7}})
	wantOne(t, x, api.Head{Excess: api.MaxExcess}, api.Rank{Dist: -2047, Tip: api.U256{7}})
	wantOf(t, []api.Tx{x, x}, api.Head{Excess: api.MaxExcess}, api.Rank{Dist: -2047, Tip: api.U256{7}})
}

// P12.1, R4
func TestExcessThatMayNotBe(t *testing.T) {
	x := small(7, 100, 1)
	for _, excess := range []int{-1, -2, math.MinInt, api.MaxExcess + 1, 1 << 41, math.MaxInt} {
		h := api.Head{Excess: excess}
		r, e := One(x, h)
		wantNoRank(t, fmt.Sprint("One, ", excess), r, e)
		for _, l := range [][]api.Tx{{}, {x}, {x, x}, {{}}, {x, {}}} {
			r, e := Of(l, h)
			wantNoRank(t, fmt.Sprint("Of, ", excess), r, e)
		}
	}
}

// P12.1, R4
func TestOfNone(t *testing.T) {
	for _, l := range [][]api.Tx{nil, {}, make([]api.Tx, 0, 4)} {
		for _, h := range []api.Head{{}, {Base: api.U256{100}, Excess: 10 << 20}, {Excess: -1}} {
			r, e := Of(l, h)
			wantNoRank(t, "none", r, e)
		}
	}
}

// inAllOrders calls f with l in each order.
func inAllOrders(l []api.Tx, f func([]api.Tx)) {
	var from func(int)
	from = func(i int) {
		if i == len(l) {
			f(l)
			return
		}
		for k := i; k < len(l); k++ {
			l[i], l[k] = l[k], l[i]
			from(i + 1)
			l[i], l[k] = l[k], l[i]
		}
	}
	from(0)
}

// P12.1
func TestOfHasTheLeastOfBothWhereverTheyStand(t *testing.T) {
	h := api.Head{Base: api.U256{100}, Excess: 10 << 20}
	far, cheap, dear, blobs := small(9, 25, 23), small(3, 100, 23), small(100, 100, 23), small(7, 100, 11)
	inAllOrders([]api.Tx{far, cheap, dear, blobs}, func(l []api.Tx) {
		wantOf(t, l, h, api.Rank{Dist: -16, Tip: api.U256{3}})
		wantOf(t, l, api.Head{}, api.Rank{Tip: api.U256{3}})
		wantOf(t, l[:2], h, plainOf(l[:2], h))
		wantOf(t, l[:3], h, plainOf(l[:3], h))
	})
	inAllOrders([]api.Tx{cheap, dear, blobs}, func(l []api.Tx) {
		wantOf(t, l, h, api.Rank{Dist: -8, Tip: api.U256{3}})
	})
	inAllOrders([]api.Tx{far, dear}, func(l []api.Tx) {
		wantOf(t, l, h, api.Rank{Dist: -16, Tip: api.U256{9}})
	})
	wantOf(t, []api.Tx{dear, dear}, h, api.Rank{Tip: api.U256{100}})
}

// P12.1
func TestOfTipsInEachLimb(t *testing.T) {
	var l []api.Tx
	for _, tip := range []api.U256{greatest, bit(192, 0), bit(192, -1), bit(128, 0), bit(128, -1), bit(64, 0), bit(64, -1), {1}, zero} {
		l = append(l, paying(tip, greatest, api.U256{1}))
		wantOf(t, l, api.Head{}, api.Rank{Tip: tip})
		back := slices.Clone(l)
		slices.Reverse(back)
		wantOf(t, back, api.Head{}, api.Rank{Tip: tip})
	}
}

// P12.1: they need not be a chain.
func TestOfAsksOfNoAccountAndNoNonce(t *testing.T) {
	a, b := small(5, 50, 1), small(4, 100, 1)
	b.From, b.Nonce = 6, 0
	h := api.Head{Base: api.U256{100}}
	wantOf(t, []api.Tx{a, b, a, b}, h, api.Rank{Dist: -8, Tip: api.U256{4}})
	wantOf(t, slices.Repeat([]api.Tx{b}, 1000), h, api.Rank{Tip: api.U256{4}})
}

// P12.1, R4: at whatever place it stands.
func TestOfRefusesOneThatMayNotBe(t *testing.T) {
	h := api.Head{Base: api.U256{100}, Excess: 10 << 20}
	good := []api.Tx{small(9, 25, 23), small(3, 100, 23), small(100, 100, 23)}
	for name, bad := range spoilt() {
		for at := range len(good) + 1 {
			r, e := Of(slices.Insert(slices.Clone(good), at, bad), h)
			wantNoRank(t, fmt.Sprint(name, " at ", at), r, e)
		}
		r, e := Of([]api.Tx{bad}, h)
		wantNoRank(t, name+", alone", r, e)
		r, e = Of([]api.Tx{bad, bad}, h)
		wantNoRank(t, name+", twice", r, e)
	}
	wantOf(t, good, h, api.Rank{Dist: -16, Tip: api.U256{3}})
}

// random is a number of up to so many bits, of each length as often.
func random(r *rand.Rand, most int) api.U256 {
	n := r.Intn(most + 1)
	if n == 0 {
		return zero
	}
	a := bit(uint(n), -1)
	for i := range a {
		a[i] &= r.Uint64()
	}
	return a
}

func randomTx(r *rand.Rand) api.Tx {
	x := api.Tx{From: r.Intn(api.MaxAccts), Nonce: r.Intn(api.MaxNonce + 1), Gas: r.Intn(api.MaxGas + 1), Value: random(r, 255)}
	x.Cap, x.BlobCap = random(r, 224), random(r, 235)
	if x.Tip = random(r, 224); plain(x.Tip).Cmp(plain(x.Cap)) > 0 {
		x.Tip = x.Cap
	}
	return with(x, []string{"", "b", "cc", "ddd"}[r.Intn(4):]...)
}

func randomHead(r *rand.Rand) api.Head {
	return api.Head{Number: r.Int(), Base: random(r, 256), Excess: r.Intn(1<<30) >> r.Intn(12)}
}

// P12.1
func TestRanksAreTheChaptersText(t *testing.T) {
	r := rand.New(rand.NewSource(12))
	for range 1500 {
		h := randomHead(r)
		var l []api.Tx
		for range 1 + r.Intn(8) {
			l = append(l, randomTx(r))
			wantOne(t, l[len(l)-1], h, plainRank(l[len(l)-1], h))
			wantOf(t, l, h, plainOf(l, h))
			wantOf(t, l[len(l)-1:], h, plainRank(l[len(l)-1], h))
		}
	}
}

func wantCmp(t *testing.T, a, b api.Rank, want int) {
	t.Helper()
	if c := Cmp(a, b); c != want {
		t.Errorf("Cmp(%v, %v): %d, not %d", a, b, c, want)
	}
	if c := Cmp(b, a); c != -want {
		t.Errorf("Cmp(%v, %v): %d, not %d", b, a, c, -want)
	}
}

// P12.2
func TestCmpOfThoseThatAreAlike(t *testing.T) {
	for _, dist := range []int{0, -1, -8, -4096} {
		for _, tip := range []api.U256{zero, {1}, {1, 2, 3, 4}, greatest} {
			wantCmp(t, api.Rank{Dist: dist, Tip: tip}, api.Rank{Dist: dist, Tip: tip}, 0)
		}
	}
}

// P12.2
func TestCmpByDistFirst(t *testing.T) {
	for _, c := range []struct{ low, high int }{{-1, 0}, {-4096, 0}, {-4096, -4095}, {-8, -7}, {-10, -9}} {
		for _, tip := range []api.U256{zero, {5}, greatest} {
			wantCmp(t, api.Rank{Dist: c.low, Tip: tip}, api.Rank{Dist: c.high, Tip: tip}, -1)
			wantCmp(t, api.Rank{Dist: c.low, Tip: greatest}, api.Rank{Dist: c.high, Tip: tip}, -1)
			wantCmp(t, api.Rank{Dist: c.low, Tip: tip}, api.Rank{Dist: c.high}, -1)
		}
	}
}

// P12.2: each limb, and a higher one ahead of those below it.
func TestCmpThenByTip(t *testing.T) {
	for _, dist := range []int{0, -1, -4096} {
		for limb := range 4 {
			var low, high api.U256
			high[limb] = 1
			wantCmp(t, api.Rank{Dist: dist, Tip: low}, api.Rank{Dist: dist, Tip: high}, -1)
			low, high = greatest, greatest
			low[limb]--
			wantCmp(t, api.Rank{Dist: dist, Tip: low}, api.Rank{Dist: dist, Tip: high}, -1)
			low, high = zero, zero
			for below := range limb {
				low[below] = ones
			}
			low[limb], high[limb] = 1<<63-1, 1<<63
			wantCmp(t, api.Rank{Dist: dist, Tip: low}, api.Rank{Dist: dist, Tip: high}, -1)
		}
	}
}

// P12.2, R1: ranks that may not be have their order, too.
func TestCmpOfAnyRanks(t *testing.T) {
	var l []api.Rank
	for _, dist := range []int{math.MinInt, math.MinInt + 1, -4097, -4096, -1, 0, 1, math.MaxInt - 1, math.MaxInt} {
		for _, tip := range []api.U256{zero, {1}, {0, 1}, {ones, 0, 1}, {0, 0, 0, 1}, greatest} {
			l = append(l, api.Rank{Dist: dist, Tip: tip})
		}
	}
	for _, a := range l {
		for _, b := range l {
			wantCmp(t, a, b, plainCmp(a, b))
		}
	}
}

// P12.2
func TestCheck(t *testing.T) {
	for _, tip := range []api.U256{zero, {1}, greatest} {
		for _, dist := range []int{0, -1, -2, -2048, -2049, -4095, -4096} {
			if e := Check(api.Rank{Dist: dist, Tip: tip}); e != api.OK {
				t.Errorf("%d, %v: %v", dist, tip, e)
			}
		}
		for _, dist := range []int{1, 2, 4096, math.MaxInt, -4097, -4098, -8192, math.MinInt} {
			if e := Check(api.Rank{Dist: dist, Tip: tip}); e != api.ErrForm {
				t.Errorf("%d, %v: %v", dist, tip, e)
			}
		}
	}
}

// P12.3
func TestAChainsRankIsNotAboveItsOwn(t *testing.T) {
	r := rand.New(rand.NewSource(3))
	for range 500 {
		h := randomHead(r)
		var l []api.Tx
		before := api.Rank{Tip: greatest}
		for range api.MaxChain {
			x := randomTx(r)
			x.From, x.Nonce = 4, len(l)
			l = append(l, x)
			all, e := Of(l, h)
			if e != api.OK || Check(all) != api.OK || Cmp(all, before) > 0 {
				t.Fatalf("%+v, %+v: %v, %v, without the last %v", l, h, all, e, before)
			}
			for _, y := range l {
				one, e := One(y, h)
				if e != api.OK || Check(one) != api.OK || Cmp(all, one) > 0 {
					t.Fatalf("%+v, %+v: %v, of all %v, %v", y, h, one, all, e)
				}
			}
			before = all
		}
	}
}

// P12.3: not of a single one where the least Dist and the least Tip are those of two.
func TestAChainsRankMayBeBelowAllOfItsOwn(t *testing.T) {
	h := api.Head{Base: api.U256{100}}
	a, b := small(9, 50, 1), small(3, 100, 1)
	all, _ := Of([]api.Tx{a, b}, h)
	for _, x := range []api.Tx{a, b} {
		if one, e := One(x, h); Cmp(all, one) != -1 || e != api.OK {
			t.Errorf("%v, %v, of all %v", one, e, all)
		}
	}
}

// copied shares no memory with l.
func copied(l []api.Tx) []api.Tx {
	l = slices.Clone(l)
	for i := range l {
		l[i].Hashes, l[i].Blobs = slices.Clone(l[i].Hashes), slices.Clone(l[i].Blobs)
	}
	return l
}

// R1, R2
func TestNothingThatIsHandedInIsChanged(t *testing.T) {
	h := api.Head{Number: 5, Base: api.U256{100}, Excess: 10 << 20}
	for _, l := range [][]api.Tx{
		{small(9, 25, 23), small(3, 100, 23), small(100, 100, 23), with(small(7, 100, 11), "", "b", "cc")},
		{small(9, 25, 23), {}, small(3, 100, 23)},
	} {
		room := append(copied(l), small(1, 2, 3)) // what lies behind l's end, in its spare room
		same := copied(room)
		first, firstErr := Of(room[:len(l)], h)
		again, againErr := Of(room[:len(l)], h)
		if first != again || firstErr != againErr {
			t.Errorf("%v, %v, then %v, %v", first, firstErr, again, againErr)
		}
		for _, x := range room {
			One(x, h)
		}
		if !reflect.DeepEqual(room, same) {
			t.Errorf("%+v was %+v", room, same)
		}
	}
}

// R2: nothing is kept from one call to the next.
func TestACallIsOfWhatItIsGivenAlone(t *testing.T) {
	l := []api.Tx{small(9, 25, 23), small(3, 100, 23)}
	low, high := api.Head{Base: api.U256{100}}, api.Head{Base: api.U256{100}, Excess: api.MaxExcess}
	want, wantHigh := plainOf(l, low), plainOf(l, high)
	for range 3 {
		wantOf(t, l, low, want)
		wantOf(t, l, high, wantHigh)
		r, e := Of(l, api.Head{Excess: -1})
		wantNoRank(t, "between", r, e)
	}
	wantOf(t, l, low, want)
	l[0] = small(2, 100, 23)
	wantOf(t, l, low, api.Rank{Tip: api.U256{2}})
}
