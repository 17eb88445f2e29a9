// Package u256: numbers of 256 bits: see ../../shared/doc/01-u256.md.
package u256

import (
	"math/bits"
	"slices"
	"tarn/api"
)

const (
	limbBits  = 64
	limbBytes = 8
	maxBytes  = 32
)

func Of(n int) (api.U256, api.Errno) {
	if n < 0 {
		return api.U256{}, api.ErrForm
	}
	return api.U256{uint64(n)}, api.OK
}

func Add(a api.U256, b api.U256) (api.U256, api.Errno) {
	var sum api.U256
	var carry uint64
	for i := range sum {
		sum[i], carry = bits.Add64(a[i], b[i], carry)
	}
	if carry != 0 {
		return api.U256{}, api.ErrOver
	}
	return sum, api.OK
}

func Sub(a api.U256, b api.U256) (api.U256, api.Errno) {
	var rest api.U256
	var borrow uint64
	for i := range rest {
		rest[i], borrow = bits.Sub64(a[i], b[i], borrow)
	}
	if borrow != 0 {
		return api.U256{}, api.ErrOver
	}
	return rest, api.OK
}

func Mul(a api.U256, b api.U256) (api.U256, api.Errno) {
	var product api.U256
	over := false
rows:
	for i, x := range a {
		var carry uint64
		for j, y := range b {
			switch {
			case x == 0: // ahead of the last case: b's limbs beyond count for nothing in such a row
				continue rows
			case i+j < len(product):
				product[i+j], carry = mulAdd(x, y, product[i+j], carry)
			case y != 0:
				over = true
				break rows
			}
		}
		// Nothing is ever taken away again: what is over once stays over.
		if carry != 0 {
			over = true
			break rows
		}
	}
	if over {
		return api.U256{}, api.ErrOver
	}
	return product, api.OK
}

// mulAdd tells x*y + z + carry, the lower limb first: it always fits two limbs.
func mulAdd(x, y, z, carry uint64) (low, high uint64) {
	high, low = bits.Mul64(x, y)
	low, c := bits.Add64(low, z, 0)
	high += c
	low, c = bits.Add64(low, carry, 0)
	return low, high + c
}

func Div(a api.U256, b api.U256) (q api.U256, r api.U256, e api.Errno) {
	n := Bits(b)
	if n == 0 {
		return api.U256{}, api.U256{}, api.ErrNone
	}
	if n <= limbBits {
		q, r = divLimb(a, b[0])
	} else {
		q, r = divLong(a, b)
	}
	return q, r, api.OK
}

// divLimb is apart from divLong because fees divide by small numbers, many times over.
func divLimb(a api.U256, by uint64) (q api.U256, r api.U256) {
	var rest uint64
	for i, x := range slices.Backward(a[:]) {
		// rest is below by, so that the quotient fits a limb.
		q[i], rest = bits.Div64(rest, x, by)
	}
	return q, api.U256{rest}
}

// divLong takes b, doubled as often as a has room for, away from a, one bit of the quotient a step.
func divLong(a, b api.U256) (q api.U256, r api.U256) {
	k := Bits(a) - Bits(b)
	part := shiftUp(b, k)
	for ; k >= 0; k-- {
		if rest, e := Sub(a, part); e == api.OK {
			a = rest
			q[k/limbBits] |= 1 << (k % limbBits)
		}
		part = half(part)
	}
	return q, a
}

// shiftUp tells a times 2^k, for a k that leaves no bit behind; a itself, if k is below 1.
func shiftUp(a api.U256, k int) api.U256 {
	if k < 1 {
		return a
	}
	limbs, n := k/limbBits, k%limbBits
	var up api.U256
	for i := limbs; i < len(up); i++ {
		up[i] = a[i-limbs] << n
		if i > limbs {
			up[i] |= a[i-limbs-1] >> (limbBits - n)
		}
	}
	return up
}

func half(a api.U256) api.U256 {
	var down api.U256
	var odd uint64
	for i, x := range slices.Backward(a[:]) {
		down[i] = x>>1 | odd<<(limbBits-1)
		odd = x & 1
	}
	return down
}

func Cmp(a api.U256, b api.U256) int {
	for i, x := range slices.Backward(a[:]) {
		if x < b[i] {
			return -1
		}
		if x > b[i] {
			return 1
		}
	}
	return 0
}

func Bits(a api.U256) int {
	for i, x := range slices.Backward(a[:]) {
		if x != 0 {
			return limbBits*i + bits.Len64(x)
		}
	}
	return 0
}

func Text(a api.U256) string {
	s := make([]byte, (Bits(a)+7)/8)
	for i := range s {
		s[len(s)-1-i] = byte(a[i/limbBytes] >> (8 * (i % limbBytes)))
	}
	return string(s)
}

func Take(s string) (api.U256, api.Errno) {
	if len(s) > maxBytes || s != "" && s[0] == 0 {
		return api.U256{}, api.ErrForm
	}
	var a api.U256
	for i := range len(s) {
		a[i/limbBytes] |= uint64(s[len(s)-1-i]) << (8 * (i % limbBytes))
	}
	return a, api.OK
}
