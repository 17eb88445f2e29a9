package blob

import (
	"hash/fnv"
	"math"
	"slices"
	"strings"
	"testing"

	"tarn/api"
)

// plainHash is P6.1's text with the library's FNV-1a.
func plainHash(b string) uint64 {
	h := fnv.New64a()
	h.Write([]byte("blob"))
	h.Write([]byte(b))
	return h.Sum64()
}

func plainHashes(blobs []string) []uint64 {
	var l []uint64
	for _, b := range blobs {
		l = append(l, plainHash(b))
	}
	return l
}

// sidecar makes n blobs that differ, the first one of nothing, the last one of MaxBlob bytes.
func sidecar(n int) []string {
	all := []string{"", "a", "some bytes \x00\xff", "a", "b", "c", "d"}
	l := slices.Clone(all[:n])
	if n > 0 {
		l[n-1] = strings.Repeat("z", api.MaxBlob)
	}
	return l
}

func longBlob() string { return strings.Repeat("z", api.MaxBlob+1) }

func TestHashOfKnownBlobs(t *testing.T) { // P6.1
	for _, c := range []struct {
		b    string
		want uint64
	}{
		{"", 0xc573b39bc29148ca},
		{"a", 0x14e2dcab9cde7a91},
		{"\x00", 0x14e2fbab9cdeaf3e},
		{strings.Repeat("z", 64), 0xb4455abb0524ab4a},
	} {
		if h, e := Hash(c.b); h != c.want || e != api.OK {
			t.Errorf("%q: %#x, %v, not %#x", c.b, h, e, c.want)
		}
	}
}

func TestHashOfEachLength(t *testing.T) { // P6.1
	for n := range api.MaxBlob + 1 {
		for _, b := range []string{strings.Repeat("\x00", n), strings.Repeat("\xff", n), strings.Repeat("é", n)[:n]} {
			if h, e := Hash(b); h != plainHash(b) || e != api.OK {
				t.Errorf("%d bytes: %#x, %v, not %#x", n, h, e, plainHash(b))
			}
		}
	}
}

func TestHashRefusesWhatIsTooLong(t *testing.T) { // P6.1, R4
	for _, n := range []int{api.MaxBlob + 1, api.MaxBlob + 2, 2 * api.MaxBlob, 256, 256 + api.MaxBlob, 1 << 16, 1<<20 + 1} {
		if h, e := Hash(strings.Repeat("z", n)); h != 0 || e != api.ErrLimit {
			t.Errorf("%d bytes: %#x, %v", n, h, e)
		}
	}
}

func TestHashCountsBytesNotRunes(t *testing.T) { // P6.1
	for _, c := range []struct {
		b string
		e api.Errno
	}{
		{strings.Repeat("é", api.MaxBlob/2), api.OK},
		{strings.Repeat("é", api.MaxBlob/2) + "a", api.ErrLimit},
		{strings.Repeat("é", api.MaxBlob), api.ErrLimit},
	} {
		if _, e := Hash(c.b); e != c.e {
			t.Errorf("%d bytes: %v, not %v", len(c.b), e, c.e)
		}
	}
}

func TestFitsOfEachNumber(t *testing.T) { // P6.1
	for n := range api.MaxBlobs + 3 {
		want := api.ErrForm
		if n >= 1 && n <= api.MaxBlobs {
			want = api.OK
		}
		l := sidecar(n)
		if e := Fits(plainHashes(l), l); e != want {
			t.Errorf("%d blobs: %v, not %v", n, e, want)
		}
	}
}

func TestFitsWantsAsManyHashesAsBlobs(t *testing.T) { // P6.1
	for blobs := range api.MaxBlobs + 2 {
		l := sidecar(blobs)
		for hashes := range api.MaxBlobs + 3 {
			all := append(plainHashes(l), make([]uint64, api.MaxBlobs+3)...)
			e := Fits(all[:hashes], l)
			if hashes != blobs && e != api.ErrForm {
				t.Errorf("%d hashes of %d blobs: %v", hashes, blobs, e)
			}
		}
	}
}

func TestFitsOfNothing(t *testing.T) { // P6.1, R2
	one := []string{"a"}
	for i, c := range []struct {
		hashes []uint64
		blobs  []string
	}{
		{nil, nil}, {[]uint64{}, nil}, {nil, []string{}}, {[]uint64{}, []string{}},
		{nil, one}, {[]uint64{}, one}, {plainHashes(one), nil}, {plainHashes(one), []string{}},
	} {
		if e := Fits(c.hashes, c.blobs); e != api.ErrForm {
			t.Errorf("%d: %v", i, e)
		}
	}
}

func TestFitsRefusesAWrongHashAtEachPlace(t *testing.T) { // P6.1
	for n := 1; n <= api.MaxBlobs; n++ {
		l := sidecar(n)
		for place := range n {
			right := plainHashes(l)
			for _, wrong := range []uint64{0, right[place] + 1, right[place] ^ 1<<63, ^right[place]} {
				hashes := slices.Clone(right)
				hashes[place] = wrong
				if e := Fits(hashes, l); e != api.ErrForm {
					t.Errorf("%d blobs, place %d, %#x: %v", n, place, wrong, e)
				}
			}
		}
	}
}

func TestFitsGoesByPlaces(t *testing.T) { // P6.1
	l := []string{"a", "b"}
	hashes := plainHashes(l)
	if e := Fits([]uint64{hashes[1], hashes[0]}, l); e != api.ErrForm {
		t.Errorf("the other way round: %v", e)
	}
	if e := Fits([]uint64{hashes[0], hashes[0]}, l); e != api.ErrForm {
		t.Errorf("one hash twice: %v", e)
	}
	if e := Fits([]uint64{hashes[0], hashes[0]}, []string{"a", "a"}); e != api.OK {
		t.Errorf("one blob twice: %v", e)
	}
}

func TestFitsRefusesALongBlobAtEachPlace(t *testing.T) { // P6.1
	for n := 1; n <= api.MaxBlobs; n++ {
		for place := range n {
			l := sidecar(n)
			l[place] = longBlob()
			if e := Fits(plainHashes(l), l); e != api.ErrLimit {
				t.Errorf("%d blobs, place %d: %v", n, place, e)
			}
		}
	}
}

func TestALongBlobIsToldAheadOfAWrongHash(t *testing.T) { // P6.1, R4
	for n := 1; n <= api.MaxBlobs; n++ {
		for long := range n {
			for wrong := range n {
				l := sidecar(n)
				l[long] = longBlob()
				hashes := plainHashes(l)
				hashes[wrong]++
				if e := Fits(hashes, l); e != api.ErrLimit {
					t.Errorf("%d blobs, %d too long, %d wrong: %v", n, long, wrong, e)
				}
			}
		}
	}
}

func TestAWrongNumberIsToldAheadOfALongBlob(t *testing.T) { // P6.1, R4
	long := longBlob()
	five := []string{"a", "b", "c", "d", long}
	for i, c := range []struct {
		hashes []uint64
		blobs  []string
	}{
		{nil, []string{long}}, {[]uint64{1, 2}, []string{long}}, {[]uint64{1}, []string{long, "a"}}, {plainHashes(five), five},
	} {
		if e := Fits(c.hashes, c.blobs); e != api.ErrForm {
			t.Errorf("%d: %v", i, e)
		}
	}
}

func TestFitsChangesNothing(t *testing.T) { // R2
	l := append(sidecar(3), "spare")
	hashes := append(plainHashes(l[:3]), 7)
	wereBlobs, wereHashes := slices.Clone(l), slices.Clone(hashes)
	for range 2 { // R1: the same call tells the same
		if e := Fits(hashes[:3], l[:3]); e != api.OK {
			t.Errorf("%v", e)
		}
		if e := Fits(hashes, l); e != api.ErrForm {
			t.Errorf("with the spare one: %v", e)
		}
	}
	if !slices.Equal(l, wereBlobs) || !slices.Equal(hashes, wereHashes) {
		t.Errorf("%q, %x", l, hashes)
	}
}

func TestGas(t *testing.T) { // P6.2
	for _, c := range []struct {
		n, want int
		e       api.Errno
	}{
		{math.MinInt, 0, api.ErrForm}, {-api.MaxBlobs, 0, api.ErrForm}, {-1, 0, api.ErrForm}, {0, 0, api.ErrForm},
		{1, 131072, api.OK}, {2, 262144, api.OK}, {3, 393216, api.OK}, {4, 524288, api.OK},
		{5, 0, api.ErrForm}, {6, 0, api.ErrForm}, {256 + 1, 0, api.ErrForm}, {1<<32 + 1, 0, api.ErrForm}, {math.MaxInt, 0, api.ErrForm},
	} {
		if g, e := Gas(c.n); g != c.want || e != c.e {
			t.Errorf("%d: %d, %v, not %d, %v", c.n, g, e, c.want, c.e)
		}
	}
}

func TestABlobWithOneByteAsAnotherFitsNoMore(t *testing.T) { // P6.3
	l := []string{"some bytes", "a", strings.Repeat("z", api.MaxBlob), "\x00\x00"}
	hashes := plainHashes(l)
	for i, b := range l {
		for place := range len(b) {
			for other := range 256 {
				changed := []byte(b)
				changed[place] = byte(other)
				blobs := slices.Clone(l)
				blobs[i] = string(changed)
				want := api.ErrForm
				if blobs[i] == b {
					want = api.OK
				}
				if e := Fits(hashes, blobs); e != want {
					t.Errorf("blob %d, place %d, byte %d: %v, not %v", i, place, other, e, want)
				}
			}
		}
	}
}
