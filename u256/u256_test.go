package u256

import (
	"math"
	"math/big"
	"strings"
	"testing"

	"tarn/api"
)

const ones = math.MaxUint64

var (
	zero     = api.U256{}
	greatest = api.U256{ones, ones, ones, ones}
)

// wide tells a as a number of the library, which the tests hold the package against.
func wide(a api.U256) *big.Int {
	x := new(big.Int)
	for i := len(a) - 1; i >= 0; i-- {
		x.Lsh(x, 64)
		x.Or(x, new(big.Int).SetUint64(a[i]))
	}
	return x
}

// want tells what the package has to answer where the true number is x.
func want(x *big.Int) (api.U256, api.Errno) {
	if x.Sign() < 0 || x.BitLen() > 256 {
		return zero, api.ErrOver
	}
	var a api.U256
	for i := range a {
		limb := new(big.Int).Rsh(x, uint(64*i))
		a[i] = limb.And(limb, new(big.Int).SetUint64(ones)).Uint64()
	}
	return a, api.OK
}

// edges tells numbers at the ends of limbs: powers of 2, and those one beside them.
func edges() []api.U256 {
	l := []api.U256{zero, greatest}
	for _, n := range []uint{0, 1, 2, 7, 8, 63, 64, 65, 127, 128, 129, 191, 192, 193, 254, 255} {
		power := new(big.Int).Lsh(big.NewInt(1), n)
		for _, d := range []int64{-1, 0, 1} {
			a, _ := want(new(big.Int).Add(power, big.NewInt(d)))
			l = append(l, a)
		}
	}
	return l
}

// mixed tells n numbers of all lengths, the same ones in each run.
func mixed(n int) []api.U256 {
	var l []api.U256
	seed := uint64(20)
	next := func() uint64 {
		seed ^= seed << 13
		seed ^= seed >> 7
		seed ^= seed << 17
		return seed
	}
	for range n {
		a := api.U256{next(), next(), next(), next()}
		cut, _ := want(new(big.Int).Rsh(wide(a), uint(next()%257)))
		l = append(l, cut)
	}
	return l
}

func numbers() []api.U256 {
	return append(edges(), mixed(100)...)
}

// eachPair calls f with each two of the numbers.
func eachPair(f func(a, b api.U256)) {
	l := numbers()
	for _, a := range l {
		for _, b := range l {
			f(a, b)
		}
	}
}

// P1.1

func TestOf(t *testing.T) {
	for _, c := range []struct {
		n int
		a api.U256
		e api.Errno
	}{
		{0, zero, api.OK},
		{1, api.U256{1}, api.OK},
		{256, api.U256{256}, api.OK},
		{math.MaxInt, api.U256{math.MaxInt}, api.OK},
		{-1, zero, api.ErrForm},
		{math.MinInt, zero, api.ErrForm},
	} {
		if a, e := Of(c.n); a != c.a || e != c.e {
			t.Errorf("Of(%d): %v, %d", c.n, a, e)
		}
	}
}

func TestAddSubMulAgainstLibrary(t *testing.T) {
	ways := []struct {
		name   string
		ours   func(a, b api.U256) (api.U256, api.Errno)
		theirs func(z, a, b *big.Int) *big.Int
	}{
		{"Add", Add, (*big.Int).Add},
		{"Sub", Sub, (*big.Int).Sub},
		{"Mul", Mul, (*big.Int).Mul},
	}
	eachPair(func(a, b api.U256) {
		for _, w := range ways {
			x, f := want(w.theirs(new(big.Int), wide(a), wide(b)))
			if y, e := w.ours(a, b); y != x || e != f {
				t.Errorf("%s(%v, %v): %v, %d; want %v, %d", w.name, a, b, y, e, x, f)
			}
		}
	})
}

func TestOverAtTheEdge(t *testing.T) {
	one, top := api.U256{1}, api.U256{0, 0, 0, 1 << 63}
	for _, c := range []struct {
		name string
		f    func(a, b api.U256) (api.U256, api.Errno)
		a, b api.U256
		x    api.U256
		e    api.Errno
	}{
		{"Add", Add, greatest, zero, greatest, api.OK},
		{"Add", Add, greatest, one, zero, api.ErrOver},
		{"Add", Add, top, top, zero, api.ErrOver},
		{"Add", Add, greatest, greatest, zero, api.ErrOver},
		{"Sub", Sub, greatest, greatest, zero, api.OK},
		{"Sub", Sub, zero, one, zero, api.ErrOver},
		{"Sub", Sub, zero, greatest, zero, api.ErrOver},
		{"Sub", Sub, api.U256{0, 0, 0, 1}, one, api.U256{ones, ones, ones}, api.OK},
		{"Mul", Mul, greatest, one, greatest, api.OK},
		{"Mul", Mul, greatest, zero, zero, api.OK},
		{"Mul", Mul, greatest, api.U256{2}, zero, api.ErrOver},
		{"Mul", Mul, greatest, greatest, zero, api.ErrOver},
		{"Mul", Mul, api.U256{0, 0, 0, 1}, api.U256{0, 1}, zero, api.ErrOver},
		{"Mul", Mul, api.U256{0, 0, 1}, api.U256{ones, ones}, api.U256{0, 0, ones, ones}, api.OK},
		{"Mul", Mul, api.U256{1, 0, 0, 1}, api.U256{ones}, api.U256{ones, 0, 0, ones}, api.OK},
		{"Mul", Mul, api.U256{1, 0, 0, 1}, api.U256{0, 1}, zero, api.ErrOver},
	} {
		if x, e := c.f(c.a, c.b); x != c.x || e != c.e {
			t.Errorf("%s(%v, %v): %v, %d", c.name, c.a, c.b, x, e)
		}
	}
}

func TestDivAgainstLibrary(t *testing.T) {
	eachPair(func(a, b api.U256) {
		q, r, e := Div(a, b)
		if b == zero {
			if q != zero || r != zero || e != api.ErrNone {
				t.Errorf("Div(%v, 0): %v, %v, %d", a, q, r, e)
			}
			return
		}
		trueQ, trueR := new(big.Int).QuoRem(wide(a), wide(b), new(big.Int))
		if e != api.OK || wide(q).Cmp(trueQ) != 0 || wide(r).Cmp(trueR) != 0 {
			t.Errorf("Div(%v, %v): %v, %v, %d; want %v, %v", a, b, q, r, e, trueQ, trueR)
		}
	})
}

func TestCmpAgainstLibrary(t *testing.T) {
	eachPair(func(a, b api.U256) {
		if c := Cmp(a, b); c != wide(a).Cmp(wide(b)) {
			t.Errorf("Cmp(%v, %v): %d", a, b, c)
		}
	})
}

func TestBits(t *testing.T) {
	for n := range 256 {
		var a api.U256
		a[n/64] = 1 << (n % 64)
		if k := Bits(a); k != n+1 {
			t.Errorf("Bits(2^%d): %d", n, k)
		}
	}
	for _, a := range numbers() {
		if k := Bits(a); k != wide(a).BitLen() {
			t.Errorf("Bits(%v): %d", a, k)
		}
	}
}

// P1.2

func TestText(t *testing.T) {
	for _, c := range []struct {
		a api.U256
		s string
	}{
		{zero, ""},
		{api.U256{1}, "\x01"},
		{api.U256{255}, "\xff"},
		{api.U256{256}, "\x01\x00"},
		{api.U256{0, 1}, "\x01" + strings.Repeat("\x00", 8)},
		{api.U256{0x0807060504030201, 0x09}, "\x09\x08\x07\x06\x05\x04\x03\x02\x01"},
		{greatest, strings.Repeat("\xff", 32)},
	} {
		if s := Text(c.a); s != c.s {
			t.Errorf("Text(%v): %x", c.a, s)
		}
		if a, e := Take(c.s); a != c.a || e != api.OK {
			t.Errorf("Take(%x): %v, %d", c.s, a, e)
		}
	}
	for _, a := range numbers() {
		if s := Text(a); s != string(wide(a).Bytes()) {
			t.Errorf("Text(%v): %x", a, s)
		}
	}
}

func TestTakeRefuses(t *testing.T) {
	for _, s := range []string{
		"\x00",
		"\x00\x00",
		"\x00\x01",
		"\x00" + strings.Repeat("\xff", 31),
		"\x00" + strings.Repeat("\xff", 32),
		"\x01" + strings.Repeat("\x00", 32),
		strings.Repeat("\xff", 33),
		strings.Repeat("\xff", 1000),
	} {
		if a, e := Take(s); a != zero || e != api.ErrForm {
			t.Errorf("Take(%x): %v, %d", s, a, e)
		}
	}
}

// P1.3

func TestGoBack(t *testing.T) {
	eachPair(func(a, b api.U256) {
		if sum, e := Add(a, b); e == api.OK {
			if back, e := Sub(sum, b); back != a || e != api.OK {
				t.Errorf("%v and %v, less that: %v, %d", a, b, back, e)
			}
		}
		if rest, e := Sub(a, b); e == api.OK {
			if back, e := Add(rest, b); back != a || e != api.OK {
				t.Errorf("%v less %v, and that: %v, %d", a, b, back, e)
			}
		}
		if b == zero {
			return
		}
		if product, e := Mul(a, b); e == api.OK {
			if back, r, e := Div(product, b); back != a || r != zero || e != api.OK {
				t.Errorf("%v times %v, by that: %v, %v, %d", a, b, back, r, e)
			}
		}
		quotientGoesBack(t, a, b)
	})
}

func quotientGoesBack(t *testing.T, a, b api.U256) {
	q, r, e := Div(a, b)
	product, f := Mul(q, b)
	back, g := Add(product, r)
	if e != api.OK || f != api.OK || g != api.OK || back != a || Cmp(r, b) >= 0 {
		t.Errorf("%v by %v: %v, %v", a, b, q, r)
	}
}

func TestTextGoesBack(t *testing.T) {
	for _, a := range numbers() {
		if back, e := Take(Text(a)); back != a || e != api.OK {
			t.Errorf("%v: %v, %d", a, back, e)
		}
	}
}
