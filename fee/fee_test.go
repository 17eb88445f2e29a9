package fee

import (
	"math"
	"math/big"
	"testing"

	"tarn/api"
	"tarn/u256"
)

const ones = math.MaxUint64

var (
	zero     = api.U256{}
	greatest = api.U256{ones, ones, ones, ones}
)

func wide(a api.U256) *big.Int {
	return new(big.Int).SetBytes([]byte(u256.Text(a)))
}

func narrow(x *big.Int) api.U256 {
	a, e := u256.Take(string(x.Bytes()))
	if e != api.OK {
		panic("a test's number is too great")
	}
	return a
}

func power(n uint) api.U256 {
	return narrow(new(big.Int).Lsh(big.NewInt(1), n))
}

func isOver(x *big.Int) bool {
	return x.Sign() < 0 || x.BitLen() > 256
}

// slowFake is P2.1's text with the library's numbers, each held against 256 bits.
func slowFake(factor, num, den api.U256) (api.U256, api.Errno) {
	f, n, d := wide(factor), wide(num), wide(den)
	if d.Sign() == 0 {
		return zero, api.ErrForm
	}
	acc, out := new(big.Int).Mul(f, d), new(big.Int)
	if isOver(acc) {
		return zero, api.ErrOver
	}
	for i := int64(1); acc.Sign() != 0; i++ {
		by := new(big.Int).Mul(d, big.NewInt(i))
		out.Add(out, acc)
		acc = new(big.Int).Mul(acc, n)
		if i > 4096 || isOver(by) || isOver(out) || isOver(acc) {
			return zero, api.ErrOver
		}
		acc.Div(acc, by)
	}
	return narrow(out.Div(out, d)), api.OK
}

type fakeCase struct {
	factor, num, den api.U256
	want             api.U256
	e                api.Errno
}

func TestFakeAnswersTheSeries(t *testing.T) { // P2.1
	for i, c := range []fakeCase{
		{api.U256{1}, zero, api.U256{1}, api.U256{1}, api.OK},
		{api.U256{7}, zero, api.U256{9}, api.U256{7}, api.OK},
		{zero, api.U256{5}, api.U256{3}, zero, api.OK},
		{zero, greatest, greatest, zero, api.OK},
		{api.U256{1}, api.U256{1}, api.U256{1}, api.U256{2}, api.OK},
		{api.U256{1}, api.U256{2}, api.U256{1}, api.U256{6}, api.OK},
		{api.U256{1}, api.U256{6}, api.U256{2}, api.U256{18}, api.OK},
		{api.U256{2}, api.U256{5}, api.U256{2}, api.U256{23}, api.OK},
		{greatest, zero, api.U256{1}, greatest, api.OK},
		{api.U256{1}, zero, greatest, api.U256{1}, api.OK},
	} {
		if x, e := Fake(c.factor, c.num, c.den); x != c.want || e != c.e {
			t.Errorf("%d: Fake tells %v, %v, not %v, %v", i, x, e, c.want, c.e)
		}
	}
}

func TestFakeRefusesADenOfNone(t *testing.T) { // P2.1
	for _, factor := range []api.U256{zero, {1}, greatest} {
		for _, num := range []api.U256{zero, {1}, greatest} {
			if x, e := Fake(factor, num, zero); x != zero || e != api.ErrForm {
				t.Errorf("Fake(%v, %v, 0) tells %v, %v", factor, num, x, e)
			}
		}
	}
}

func TestFakeTellsWhatIsOver(t *testing.T) { // P2.1
	for _, c := range []struct {
		name             string
		factor, num, den api.U256
	}{
		{"factor times den", power(128), zero, power(128)},
		{"acc times num", api.U256{1}, greatest, api.U256{2}},
		{"acc times num, in a later step", api.U256{1}, api.U256{1000}, api.U256{1}},
		{"den times 2", api.U256{1}, api.U256{1}, power(255)},
		{"out and acc", power(255), api.U256{1}, api.U256{1}},
	} {
		if x, e := Fake(c.factor, c.num, c.den); x != zero || e != api.ErrOver {
			t.Errorf("%s: Fake tells %v, %v", c.name, x, e)
		}
	}
}

// fakeNumbers tells numbers of many lengths, so that series end, and go over, in all ways.
func fakeNumbers() []api.U256 {
	l := []api.U256{zero, greatest}
	for _, n := range []uint{0, 1, 2, 3, 5, 7, 8, 21, 62, 63, 64, 90, 126, 127, 128, 129, 200, 254, 255} {
		for _, d := range []int64{-1, 0, 1, 5} {
			l = append(l, narrow(new(big.Int).Add(wide(power(n)), big.NewInt(d))))
		}
	}
	return l
}

func TestFakeIsTheChaptersText(t *testing.T) { // P2.1
	l := fakeNumbers()
	for _, factor := range l {
		for _, num := range l {
			for _, den := range l {
				x, e := Fake(factor, num, den)
				want, wantE := slowFake(factor, num, den)
				if x != want || e != wantE {
					t.Fatalf("Fake(%v, %v, %v) tells %v, %v, not %v, %v", factor, num, den, x, e, want, wantE)
				}
			}
		}
	}
}

func TestNextTermEndsAtTheLastStep(t *testing.T) { // P2.1: no series comes so far without being over, so it is asked within
	if x, e := nextTerm(api.U256{4096}, api.U256{1}, api.U256{1}, 4096); x != (api.U256{1}) || e != api.OK {
		t.Errorf("step 4096 tells %v, %v", x, e)
	}
	if x, e := nextTerm(api.U256{4097}, api.U256{1}, api.U256{1}, 4097); x != zero || e != api.ErrOver {
		t.Errorf("step 4097 tells %v, %v", x, e)
	}
}

func TestBlobIsFakeOfTheExcess(t *testing.T) { // P2.1, and the chapter's example
	for _, c := range []struct {
		excess int
		want   uint64
	}{
		{0, 1}, {1, 1}, {2314057, 1}, {2314058, 2}, {10 << 20, 23},
	} {
		if x, e := Blob(c.excess); x != (api.U256{c.want}) || e != api.OK {
			t.Errorf("Blob(%d) tells %v, %v", c.excess, x, e)
		}
	}
	for excess := 0; excess < 600*api.Fraction; excess += 3 * api.Fraction / 2 {
		x, e := Blob(excess)
		want, over := slowFake(api.U256{1}, api.U256{uint64(excess)}, api.U256{api.Fraction})
		if over == api.ErrOver {
			want = greatest
		}
		if x != want || e != api.OK {
			t.Errorf("Blob(%d) tells %v, %v, not %v", excess, x, e, want)
		}
	}
}

func TestBlobAtItsLimits(t *testing.T) { // P2.1
	if x, e := Blob(api.MaxExcess); x != greatest || e != api.OK {
		t.Errorf("Blob(MaxExcess) tells %v, %v", x, e)
	}
	for _, excess := range []int{-1, math.MinInt, api.MaxExcess + 1, math.MaxInt} {
		if x, e := Blob(excess); x != zero || e != api.ErrForm {
			t.Errorf("Blob(%d) tells %v, %v", excess, x, e)
		}
	}
}

// slowNext is P2.2's text with the library's numbers.
func slowNext(base api.U256, used, target int) (api.U256, api.Errno) {
	if used == target {
		return base, api.OK
	}
	gas, sign := int64(used-target), int64(1)
	if used < target {
		gas, sign = int64(target-used), -1
	}
	change := new(big.Int).Mul(wide(base), big.NewInt(gas))
	if isOver(change) {
		return zero, api.ErrOver
	}
	change.Div(change, big.NewInt(int64(target)))
	change.Div(change, big.NewInt(8))
	if sign > 0 && change.Sign() == 0 {
		change.SetInt64(1)
	}
	out := new(big.Int).Add(wide(base), change.Mul(change, big.NewInt(sign)))
	if isOver(out) {
		return zero, api.ErrOver
	}
	return narrow(out), api.OK
}

func TestNextMovesTheFee(t *testing.T) { // P2.2
	for i, c := range []struct {
		base         api.U256
		used, target int
		want         api.U256
		e            api.Errno
	}{
		{api.U256{1000}, 100, 100, api.U256{1000}, api.OK},
		{api.U256{1000}, 200, 100, api.U256{1125}, api.OK},
		{api.U256{1000}, 150, 100, api.U256{1062}, api.OK},
		{api.U256{1000}, 0, 100, api.U256{875}, api.OK},
		{api.U256{15}, 2, 1, api.U256{16}, api.OK}, // 15 by 8 is 1 and a rest
		{api.U256{7}, 2, 1, api.U256{8}, api.OK},
		{api.U256{7}, 0, 1, api.U256{7}, api.OK},
		{api.U256{8}, 0, 1, api.U256{7}, api.OK},
		{zero, 101, 100, api.U256{1}, api.OK},
		{zero, 0, 100, zero, api.OK},
		{zero, 100, 100, zero, api.OK},
		{greatest, 1, 1, greatest, api.OK},
		{greatest, 2, 1, zero, api.ErrOver}, // the sum
		{greatest, 0, 2, zero, api.ErrOver}, // the product, though it goes down
		{greatest, 4, 2, zero, api.ErrOver}, // the product
		{greatest, 1, 2, api.U256{0, 0, 0, 15 << 60}, api.OK},
	} {
		if x, e := Next(c.base, c.used, c.target); x != c.want || e != c.e {
			t.Errorf("%d: Next(%v, %d, %d) tells %v, %v, not %v, %v", i, c.base, c.used, c.target, x, e, c.want, c.e)
		}
	}
}

func TestNextIsTheChaptersText(t *testing.T) { // P2.2
	for _, base := range fakeNumbers() {
		for _, target := range []int{1, 2, 3, 7, 8, 9, 1000, api.BlobGas, api.MaxGas - 1, api.MaxGas} {
			for _, used := range []int{0, 1, target / 2, target - 1, target, target + 1, target + target/3, 2*target - 1, 2 * target} {
				x, e := Next(base, used, target)
				want, wantE := slowNext(base, used, target)
				if x != want || e != wantE {
					t.Errorf("Next(%v, %d, %d) tells %v, %v, not %v, %v", base, used, target, x, e, want, wantE)
				}
			}
		}
	}
}

func TestNextRefusesWhatIsNoBlock(t *testing.T) { // P2.2
	for _, c := range []struct{ used, target int }{
		{0, 0}, {1, 0}, {0, -1}, {-2, -1}, {0, math.MinInt}, {1, api.MaxGas + 1}, {1, math.MaxInt},
		{-1, 1}, {3, 1}, {-1, api.MaxGas}, {2*api.MaxGas + 1, api.MaxGas}, {math.MaxInt, 5}, {math.MinInt, 5},
	} {
		for _, base := range []api.U256{zero, {5}, greatest} {
			if x, e := Next(base, c.used, c.target); x != zero || e != api.ErrForm {
				t.Errorf("Next(%v, %d, %d) tells %v, %v", base, c.used, c.target, x, e)
			}
		}
	}
}

func TestExcessIsWhatIsLeft(t *testing.T) { // P2.2
	for _, c := range []struct{ excess, used, target, want int }{
		{0, 0, 0, 0}, {0, 0, 5, 0}, {0, 5, 0, 5}, {3, 5, 5, 3}, {3, 1, 5, 0}, {3, 2, 5, 0}, {3, 3, 5, 1}, {3, 9, 5, 7},
		{0, api.MaxGas, 0, api.MaxGas}, {0, 0, api.MaxGas, 0}, {7, api.MaxGas, api.MaxGas, 7},
		{api.MaxExcess, 0, 0, api.MaxExcess}, {api.MaxExcess, 1, 0, api.MaxExcess}, {api.MaxExcess, api.MaxGas, 0, api.MaxExcess},
		{api.MaxExcess - 1, 1, 0, api.MaxExcess}, {api.MaxExcess - 1, 2, 0, api.MaxExcess}, {api.MaxExcess, 0, 1, api.MaxExcess - 1},
		{api.MaxExcess, 0, api.MaxGas, api.MaxExcess - api.MaxGas},
	} {
		if x, e := Excess(c.excess, c.used, c.target); x != c.want || e != api.OK {
			t.Errorf("Excess(%d, %d, %d) tells %d, %v, not %d", c.excess, c.used, c.target, x, e, c.want)
		}
	}
}

func TestExcessRefusesWhatIsBeyond(t *testing.T) { // P2.2
	for _, c := range []struct{ excess, used, target int }{
		{-1, 0, 0}, {-1, 5, 0}, {api.MaxExcess + 1, 0, 0}, {api.MaxExcess + 1, 0, 5}, {math.MinInt, 0, 0}, {math.MaxInt, 0, 0},
		{0, -1, 0}, {9, -1, 0}, {0, api.MaxGas + 1, 0}, {0, math.MaxInt, 0}, {0, math.MinInt, 0},
		{0, 0, -1}, {0, 0, api.MaxGas + 1}, {0, 0, math.MaxInt}, {0, 0, math.MinInt},
	} {
		if x, e := Excess(c.excess, c.used, c.target); x != 0 || e != api.ErrForm {
			t.Errorf("Excess(%d, %d, %d) tells %d, %v", c.excess, c.used, c.target, x, e)
		}
	}
}

func TestMoreExcessAsksNoLess(t *testing.T) { // P2.3
	var last api.U256
	for excess := 0; excess < 700*api.Fraction; excess += 1000003 {
		x, e := Blob(excess)
		if e != api.OK || u256.Cmp(x, last) < 0 {
			t.Fatalf("Blob(%d) tells %v, %v behind %v", excess, x, e, last)
		}
		last = x
	}
	if last != greatest {
		t.Errorf("the last fee is %v", last)
	}
}

func TestFullBlocksAskMoreEmptyOnesNoMore(t *testing.T) { // P2.3
	for _, base := range fakeNumbers() {
		for _, target := range []int{1, 2, 5, api.MaxGas} {
			if x, e := Next(base, 2*target, target); e == api.OK && u256.Cmp(x, base) <= 0 {
				t.Errorf("a full block of %d asks %v behind %v", target, x, base)
			}
			if x, e := Next(base, 0, target); e == api.OK && u256.Cmp(x, base) > 0 {
				t.Errorf("an empty block of %d asks %v behind %v", target, x, base)
			}
		}
	}
}
