package level

import (
	"math"
	"math/big"
	"testing"

	"tarn/api"
	"tarn/u256"
)

const ones = math.MaxUint64

var (
	zero     = api.U256{}
	greatest = api.U256{ones, ones, ones, ones}
)

func wide(a api.U256) *big.Int {
	return new(big.Int).SetBytes([]byte(u256.Text(a)))
}

func narrow(x *big.Int) api.U256 {
	a, e := u256.Take(string(x.Bytes()))
	if e != api.OK {
		panic("a test's number is too great")
	}
	return a
}

func isOver(x *big.Int) bool {
	return x.BitLen() > 256
}

// slowLevel is P3.1's text on the number written in bits, with three 0 bits behind it for those that there are not.
func slowLevel(a api.U256) int {
	if a == zero {
		return 0
	}
	text := wide(a).Text(2)
	behind := 0
	for _, digit := range (text + "000")[1:4] {
		behind = 2*behind + int(digit-'0')
	}
	return 8*(len(text)-1) + behind + 1
}

// samples tells, in their order, all small numbers and those around each power of 2, each of its eighths and each of the halves of these.
func samples() []api.U256 {
	var all []api.U256
	for n := range uint64(1024) {
		all = append(all, api.U256{n})
	}
	for n := uint(11); n < 256; n++ {
		for part := range int64(16) {
			at := new(big.Int).Lsh(big.NewInt(16+part), n-4)
			for off := int64(-1); off <= 1; off++ {
				all = append(all, narrow(new(big.Int).Add(at, big.NewInt(off))))
			}
		}
	}
	return append(all, api.U256{ones - 1, ones, ones, ones}, greatest)
}

type levelCase struct {
	a    api.U256
	want int
}

func checkLevels(t *testing.T, cases []levelCase) {
	t.Helper()
	for _, c := range cases {
		if n := Level(c.a); n != c.want {
			t.Errorf("Level(%v): %d, want %d", c.a, n, c.want)
		}
	}
}

func TestLevelOfNothingIsNone(t *testing.T) { // P3.1
	checkLevels(t, []levelCase{{zero, 0}})
}

func TestLevelWithFewBitsBehindTheHighest(t *testing.T) { // P3.1
	checkLevels(t, []levelCase{
		{api.U256{1}, 1},
		{api.U256{2}, 9}, {api.U256{3}, 13},
		{api.U256{4}, 17}, {api.U256{5}, 19}, {api.U256{6}, 21}, {api.U256{7}, 23},
	})
}

func TestLevelTakesThreeBitsBehindTheHighest(t *testing.T) { // P3.1
	checkLevels(t, []levelCase{
		{api.U256{8}, 25}, {api.U256{9}, 26}, {api.U256{10}, 27}, {api.U256{11}, 28},
		{api.U256{12}, 29}, {api.U256{13}, 30}, {api.U256{14}, 31}, {api.U256{15}, 32},
		{api.U256{16}, 33}, {api.U256{17}, 33}, {api.U256{18}, 34}, {api.U256{30}, 40}, {api.U256{31}, 40},
		{api.U256{1000}, 80},
	})
}

func TestLevelAcrossLimbs(t *testing.T) { // P3.1
	checkLevels(t, []levelCase{
		{api.U256{ones}, 512},
		{api.U256{0, 1}, 513},
		{api.U256{1 << 60, 1}, 513},
		{api.U256{1 << 61, 1}, 514},
		{api.U256{1 << 62, 1}, 515},
		{api.U256{1 << 63, 1}, 517},
		{api.U256{ones, 1}, 520},
		{api.U256{0, 2}, 521},
		{api.U256{ones, 2}, 524},
		{api.U256{0, 0, 1 << 63, 2}, 8*193 + 2 + 1},
		{api.U256{ones, ones, ones, 0}, 1536},
		{api.U256{0, 0, 0, 1}, 1537},
		{api.U256{0, 0, 0, 1 << 63}, 2041},
		{api.U256{ones, ones, ones, 15<<60 - 1}, 2047},
		{api.U256{0, 0, 0, 15 << 60}, 2048},
		{greatest, 2048},
	})
}

func TestLevelIsTheChaptersText(t *testing.T) { // P3.1
	for _, a := range samples() {
		if n := Level(a); n != slowLevel(a) {
			t.Errorf("Level(%v): %d, want %d", a, n, slowLevel(a))
		}
	}
}

func TestDist(t *testing.T) { // P3.1
	for _, c := range []struct {
		limit, fee api.U256
		want       int
	}{
		{zero, zero, 0},
		{greatest, greatest, 0},
		{api.U256{16}, api.U256{17}, 0},
		{api.U256{1}, zero, 1},
		{zero, api.U256{1}, -1},
		{api.U256{3}, api.U256{2}, 4},
		{api.U256{2}, api.U256{3}, -4},
		{api.U256{100}, api.U256{10}, 53 - 27},
		{greatest, zero, 2048},
		{zero, greatest, -2048},
	} {
		if n := Dist(c.limit, c.fee); n != c.want {
			t.Errorf("Dist(%v, %v): %d, want %d", c.limit, c.fee, n, c.want)
		}
	}
}

func TestDistIsOneLevelLessTheOther(t *testing.T) { // P3.1
	all := samples()
	for i := range all {
		a, b := all[i], all[i*7919%len(all)]
		if n := Dist(a, b); n != slowLevel(a)-slowLevel(b) {
			t.Errorf("Dist(%v, %v): %d, want %d", a, b, n, slowLevel(a)-slowLevel(b))
		}
	}
}

func TestDoubleEdges(t *testing.T) { // P3.1
	for _, c := range []struct {
		a, want api.U256
		e       api.Errno
	}{
		{zero, zero, api.OK},
		{api.U256{1}, api.U256{2}, api.OK},
		{api.U256{1 << 63}, api.U256{0, 1}, api.OK},
		{api.U256{ones, ones, ones, ones >> 1}, api.U256{ones - 1, ones, ones, ones}, api.OK},
		{api.U256{0, 0, 0, 1 << 62}, api.U256{0, 0, 0, 1 << 63}, api.OK},
		{api.U256{0, 0, 0, 1 << 63}, zero, api.ErrOver},
		{api.U256{1, 0, 0, 1 << 63}, zero, api.ErrOver},
		{greatest, zero, api.ErrOver},
	} {
		if b, e := Double(c.a); b != c.want || e != c.e {
			t.Errorf("Double(%v): %v, %v, want %v, %v", c.a, b, e, c.want, c.e)
		}
	}
}

func TestDoubleIsTheSum(t *testing.T) { // P3.1
	for _, a := range samples() {
		want, fault := zero, api.ErrOver
		if sum := new(big.Int).Add(wide(a), wide(a)); !isOver(sum) {
			want, fault = narrow(sum), api.OK
		}
		if b, e := Double(a); b != want || e != fault {
			t.Errorf("Double(%v): %v, %v, want %v, %v", a, b, e, want, fault)
		}
	}
}

func TestGreaterHasNoLowerLevel(t *testing.T) { // P3.2
	all := samples()
	for i := 1; i < len(all); i++ {
		low, high := all[i-1], all[i]
		if u256.Cmp(low, high) > 0 {
			t.Fatalf("the test's numbers %v, %v are not in their order", low, high)
		}
		if Level(low) > Level(high) || Dist(high, low) < 0 {
			t.Errorf("Level(%v): %d, Level(%v): %d", low, Level(low), high, Level(high))
		}
	}
}

func TestTwiceAsGreatIsEightHigher(t *testing.T) { // P3.2
	for _, a := range samples() {
		b, e := Double(a)
		if e != api.OK || a == zero {
			continue
		}
		if Level(b) != Level(a)+8 || Dist(b, a) != 8 || Dist(a, b) != -8 {
			t.Errorf("Level(%v): %d, of its double %d", a, Level(a), Level(b))
		}
	}
}
