package shelf

import (
	"bytes"
	"maps"
	"math"
	"math/rand"
	"slices"
	"strings"
	"testing"

	"tarn/api"
	"tarn/disk"
)

var slotSizes = []int{128, 256, 512, 1024}

// held is a slot that is taken, with its text.
type held struct {
	slot int
	text string
}

func heldBy(s *Shelf) []held {
	var l []held
	for slot, text := range s.All() {
		l = append(l, held{slot, text})
	}
	return l
}

func textsOf(s *Shelf) []string {
	var l []string
	for _, text := range s.All() {
		l = append(l, text)
	}
	return l
}

// numbered tells texts in the slots 0, 1 and on.
func numbered(texts []string) []held {
	var l []held
	for i, text := range texts {
		l = append(l, held{i, text})
	}
	return l
}

func emptyDisk() *disk.Disk {
	d, _ := disk.New(nil)
	return d
}

// diskOf is a disk with these bytes in file 0.
func diskOf(t *testing.T, b []byte) *disk.Disk {
	t.Helper()
	l := make([][]byte, api.Files)
	l[0] = b
	d, e := disk.New(l)
	if e != api.OK {
		t.Fatalf("New: %v", e)
	}
	return d
}

func open(t *testing.T, d *disk.Disk, f, n int) *Shelf {
	t.Helper()
	s, e := Open(d, f, n)
	if s == nil || e != api.OK {
		t.Fatalf("Open of %d, %d: %v, %v", f, n, s, e)
	}
	return s
}

// behind opens what a disk keeps of file 0.
func behind(t *testing.T, d *disk.Disk, n int, picks []int) (*Shelf, *disk.Disk) {
	t.Helper()
	kept := diskOf(t, d.Crash(picks)[0])
	return open(t, kept, 0, n), kept
}

func put(t *testing.T, s *Shelf, text string, want int) {
	t.Helper()
	if at, e := s.Put(text); at != want || e != api.OK {
		t.Fatalf("Put of %q: %d, %v, not %d", text, at, e, want)
	}
}

func del(t *testing.T, s *Shelf, slot int) {
	t.Helper()
	wantErr(t, "Del", s.Del(slot), api.OK)
}

func wantErr(t *testing.T, what string, got, want api.Errno) {
	t.Helper()
	if got != want {
		t.Errorf("%s: %v, not %v", what, got, want)
	}
}

func wantPut(t *testing.T, s *Shelf, text string, want api.Errno) {
	t.Helper()
	if at, e := s.Put(text); at != 0 || e != want {
		t.Errorf("Put of %d bytes: %d, %v, not 0, %v", len(text), at, e, want)
	}
}

// wantHeld asks every call that tells what is there.
func wantHeld(t *testing.T, s *Shelf, want ...held) {
	t.Helper()
	if got := heldBy(s); !slices.Equal(got, want) {
		t.Errorf("All: %v, not %v", got, want)
	}
	if s.Len() != len(want) {
		t.Errorf("Len: %d, not %d", s.Len(), len(want))
	}
	for slot := -2; slot < api.MaxSlots+2; slot++ {
		text, e := "", api.ErrNone
		for _, x := range want {
			if x.slot == slot {
				text, e = x.text, api.OK
			}
		}
		if got, f := s.Get(slot); got != text || f != e {
			t.Errorf("Get of %d: %q, %v, not %q, %v", slot, got, f, text, e)
		}
	}
}

func wantLong(t *testing.T, d *disk.Disk, want int) {
	t.Helper()
	if n, e := d.Size(0); n != want || e != api.OK {
		t.Errorf("the file: %d long, %v, not %d", n, e, want)
	}
}

// rowOf tells the bytes of file 0 as they are now.
func rowOf(t *testing.T, d *disk.Disk) []byte {
	t.Helper()
	n, _ := d.Size(0)
	b, e := d.Read(0, 0, n)
	if e != api.OK {
		t.Fatalf("Read: %v", e)
	}
	return b
}

// noSlots are numbers that no slot has.
func noSlots() []int {
	return []int{-1, -2, -api.MaxSlots, math.MinInt, api.MaxSlots, api.MaxSlots + 1, 1 << 32, math.MaxInt}
}

// P10.1, R4
func TestOpenAsksForADiskAFileAndASlot(t *testing.T) {
	files := []int{math.MinInt, -1, 0, 1, api.Files - 1, api.Files, api.Files + 1, math.MaxInt}
	sizes := []int{math.MinInt, math.MinInt + 16, -128, -1, 0, 1, 15, 16, 64, 127, 128, 129, 144, 255, 256, 257, 384, 511, 512, 513, 768, 1023, 1024, 1025, 1040, 2048, math.MaxInt}
	off := emptyDisk()
	off.Off(0)
	for _, f := range files {
		for _, n := range sizes {
			want := api.OK
			if f < 0 || f > 7 || !slices.Contains(slotSizes, n) {
				want = api.ErrForm
			}
			if s, e := Open(emptyDisk(), f, n); e != want || (s == nil) != (e != api.OK) {
				t.Errorf("%d, %d: %v, %v", f, n, s, e)
			}
			if s, e := Open(nil, f, n); s != nil || e != api.ErrForm {
				t.Errorf("no disk, %d, %d: %v, %v", f, n, s, e)
			}
			if want == api.OK {
				want = api.ErrPower
			}
			if s, e := Open(off, f, n); s != nil || e != want {
				t.Errorf("off, %d, %d: %v, %v", f, n, s, e)
			}
		}
	}
}

// P10.1
func TestOpenOfAnEmptyFile(t *testing.T) {
	for _, n := range slotSizes {
		d := emptyDisk()
		s := open(t, d, 0, n)
		wantHeld(t, s)
		wantLong(t, d, 0)
		if s.Failed() {
			t.Errorf("%d: has failed", n)
		}
		put(t, s, "a", 0)
		wantHeld(t, s, held{0, "a"})
	}
}

// P10.1
func TestEachFileIsAShelfOfItsOwn(t *testing.T) {
	d := emptyDisk()
	var shelves []*Shelf
	for f := range api.Files {
		shelves = append(shelves, open(t, d, f, slotSizes[f%4]))
	}
	for f, s := range shelves {
		for i := range f {
			put(t, s, strings.Repeat("f", f)+strings.Repeat("i", i), i)
		}
	}
	l := d.Crash(nil)
	kept, _ := disk.New(l)
	for f := range api.Files {
		if len(l[f]) != f*slotSizes[f%4] {
			t.Errorf("%d: %d long", f, len(l[f]))
		}
		wantHeld(t, open(t, kept, f, slotSizes[f%4]), heldBy(shelves[f])...)
	}
}

// P10.1
func TestOpenNumbersTheTextsAnew(t *testing.T) {
	for pattern := range 1 << 6 {
		d := emptyDisk()
		s := open(t, d, 0, 256)
		var left []string
		for i, text := range []string{"e", "d", "", "c", "c", strings.Repeat("b", 240)} {
			put(t, s, text, i)
			if pattern>>i&1 == 1 {
				left = append(left, text)
			}
		}
		for i := range 6 {
			if pattern>>i&1 == 0 {
				del(t, s, i)
			}
		}
		kept := diskOf(t, d.Crash(nil)[0])
		for range 2 {
			again := open(t, kept, 0, 256)
			wantHeld(t, again, numbered(left)...)
			wantLong(t, kept, 256*len(left))
		}
		again, last := behind(t, kept, 256, nil)
		wantHeld(t, again, numbered(left)...)
		put(t, again, "new", len(left))
		wantLong(t, last, 256*len(left)+256)
	}
}

// P10.1
func TestOpenOfFullShelvesWithHoles(t *testing.T) {
	for _, n := range slotSizes {
		d := emptyDisk()
		s := open(t, d, 0, n)
		var left []string
		for i := range api.MaxSlots {
			text := strings.Repeat(string(rune('a'+i%26)), i%(n-15))
			put(t, s, text, i)
			if i%3 != 0 {
				left = append(left, text)
			}
		}
		again, kept := behind(t, d, n, nil)
		if again.Len() != api.MaxSlots || !slices.Equal(heldBy(again), heldBy(s)) {
			t.Errorf("%d: %v", n, heldBy(again))
		}
		for i := 0; i < api.MaxSlots; i += 3 {
			del(t, again, i)
		}
		again, kept = behind(t, kept, n, nil)
		wantHeld(t, again, numbered(left)...)
		wantLong(t, kept, n*len(left))
	}
}

// wantNone is of P10.1 and R4: no call that counts was made, so what was not safe is so no more than before, and the call that is due to fail is so still.
func wantNone(t *testing.T, what string, b []byte, n int) {
	t.Helper()
	safe := b[:len(b)-1]
	d := diskOf(t, safe)
	wantErr(t, "Write", d.Write(0, len(safe), b[len(safe):]), api.OK)
	d.Fail(1)
	if s, e := Open(d, 0, n); s != nil || e != api.ErrForm {
		t.Errorf("%s: %v, %v", what, s, e)
	}
	wantErr(t, what+": the call behind it", d.Sync(0), api.ErrFailed)
	if got := rowOf(t, d); !bytes.Equal(got, b) {
		t.Errorf("%s: %q is there", what, got)
	}
	if got := d.Crash(nil)[0]; !bytes.Equal(got, safe) {
		t.Errorf("%s: %q is safe", what, got)
	}
}

// P10.1
func TestOpenOfSomethingElse(t *testing.T) {
	for _, n := range slotSizes {
		for what, b := range map[string][]byte{
			"a byte":     {1},
			"a word":     []byte("something else lies here"),
			"many words": []byte(strings.Repeat("something else lies here. ", 50)),
			"of 255":     bytes.Repeat([]byte{255}, 3*n),
			"of 1":       bytes.Repeat([]byte{1}, 4*n),
			"of 2":       bytes.Repeat([]byte{2}, 4*n),
			"behind 0":   append(make([]byte, 2*n), 7),
		} {
			wantNone(t, what, b, n)
		}
		for _, other := range slotSizes {
			if other == n {
				continue
			}
			d := emptyDisk()
			s := open(t, d, 0, other)
			for i := range 4 {
				put(t, s, "of other slots", i)
			}
			wantNone(t, "other slots", rowOf(t, d), n)
			d = emptyDisk()
			put(t, open(t, d, 0, other), "", 0)
			wantNone(t, "one other slot, and holes", append(rowOf(t, d), make([]byte, 2*1024-other)...), n)
		}
	}
}

// P10.1: there are no more than MaxSlots.
func TestOpenOfALongFile(t *testing.T) {
	for _, n := range slotSizes {
		longest := n * api.MaxSlots
		d := diskOf(t, make([]byte, longest))
		wantHeld(t, open(t, d, 0, n))
		wantLong(t, d, 0)
		if longest < api.MaxFile {
			wantNone(t, "a byte more", make([]byte, longest+1), n)
			wantNone(t, "a slot more", make([]byte, longest+n), n)
			d := emptyDisk()
			s := open(t, d, 0, n)
			for i := range api.MaxSlots {
				put(t, s, "x", i)
			}
			wantNone(t, "a byte behind a full one", append(rowOf(t, d), 0), n)
		}
	}
}

// P10.1: whatever byte of a slot that is taken is another one, there is another text, or nothing that may be.
func TestOpenOfATextWithAnotherByte(t *testing.T) {
	d := emptyDisk()
	s := open(t, d, 0, 128)
	for i, text := range []string{"first", strings.Repeat("f", 112), "", "last"} {
		put(t, s, text, i)
	}
	row := rowOf(t, d)
	for at := range row {
		for _, x := range []byte{1, 2, 3, 4, 5, 6, 128, 255} {
			b := slices.Clone(row)
			b[at] ^= x
			again, e := Open(diskOf(t, b), 0, 128)
			switch beside, i := at%128 < 16, at%128-16; {
			case beside && b[at] == 0 && at%128 == 0:
				if e != api.OK || again.Len() != 3 {
					t.Errorf("%d, %d: %v", at, x, e)
				}
			case at%128 == 2 && e == api.OK:
				text := textsOf(again)[at/128]
				if len(text) != int(b[at]) || strings.TrimRight(text, "\x00") != textsOf(s)[at/128] || again.Len() != 4 {
					t.Errorf("%d, %d: %q", at, x, text)
				}
			case !beside && e == api.OK:
				if text := textsOf(again)[at/128]; text[i] != b[at] || again.Len() != 4 {
					t.Errorf("%d, %d: %q", at, x, text)
				}
			case e != api.ErrForm || again != nil:
				t.Errorf("%d, %d: %v, %v", at, x, again, e)
			}
		}
	}
	for long := range len(row) {
		again, e := Open(diskOf(t, row[:long]), 0, 128)
		if long%128 == 0 {
			if e != api.OK || again.Len() != long/128 {
				t.Errorf("%d: %v", long, e)
			}
		} else if again != nil || e != api.ErrForm {
			t.Errorf("%d: %v, %v", long, again, e)
		}
	}
}

// P10.1, P10.4: a move that was broken off is known by its mark; one from nowhere, or of another text, is none.
func TestOpenOfMovesThatMayNotBe(t *testing.T) {
	d := emptyDisk()
	s := open(t, d, 0, 128)
	for i, text := range []string{"a", "b", "x", "c", "x", "d"} {
		put(t, s, text, i)
	}
	del(t, s, 3)
	row := rowOf(t, d)
	for to := range 6 {
		for from := range 254 {
			b := slices.Clone(row)
			b[to*128] = byte(2 + from)
			d := diskOf(t, b)
			again, e := Open(d, 0, 128)
			want := []string{"a", "b", "x", "x", "d"}
			if to == 3 {
				want = []string{"a", "b", "x", "c", "x", "d"}
			}
			switch {
			case to == 2 && from == 4:
				want = []string{"a", "b", "x", "d"}
			case to < 3 && from == 3:
			default:
				if again != nil || e != api.ErrForm {
					t.Errorf("%d from %d: %v, %v", to, from, again, e)
				}
				continue
			}
			if e != api.OK {
				t.Errorf("%d from %d: %v", to, from, e)
				continue
			}
			wantHeld(t, again, numbered(want)...)
			kept, _ := behind(t, d, 128, nil)
			wantHeld(t, kept, numbered(want)...)
		}
	}
}

// P10.1, R4: a call that fails, or the power that goes ahead of it, is the answer.
func TestOpenTellsTheDisksError(t *testing.T) {
	for _, holes := range []int{0, 1, 3} {
		for _, want := range []api.Errno{api.ErrFailed, api.ErrPower} {
			ended := false
			for n := 1; !ended; n++ {
				d := emptyDisk()
				s := open(t, d, 0, 128)
				for i := range 6 {
					put(t, s, strings.Repeat("x", i), i)
				}
				for i := range holes {
					del(t, s, 2*i)
				}
				left := textsOf(s)
				if want == api.ErrPower {
					d.Off(n)
				} else {
					d.Fail(n)
				}
				again, e := Open(d, 0, 128)
				if ended = e == api.OK; ended {
					wantHeld(t, again, numbered(left)...)
					if n < 2 {
						t.Errorf("Open asked for nothing that counts")
					}
					continue
				}
				if again != nil || e != want {
					t.Fatalf("%d: %v, %v", n, again, e)
				}
				if want == api.ErrFailed {
					wantHeld(t, open(t, d, 0, 128), numbered(left)...)
					wantLong(t, d, 128*len(left))
				}
				for _, pick := range []int{0, 1} {
					again, _ := behind(t, d, 128, slices.Repeat([]int{pick}, 50))
					wantHeld(t, again, numbered(left)...)
				}
			}
		}
	}
}

// P10.1: what is told is safe, also if a shelf that failed left it behind.
func TestOpenBehindAShelfThatFailed(t *testing.T) {
	for _, second := range []func(*Shelf) api.Errno{
		func(s *Shelf) api.Errno { _, e := s.Put("new"); return e },
		func(s *Shelf) api.Errno { return s.Del(1) },
		func(s *Shelf) api.Errno { return s.Del(2) },
	} {
		for n := 1; n < 5; n++ {
			d := emptyDisk()
			s := open(t, d, 0, 128)
			for i, text := range []string{"a", "b", "c"} {
				put(t, s, text, i)
			}
			del(t, s, 0)
			d.Fail(n)
			second(s)
			d.Fail(0)
			again := open(t, d, 0, 128)
			told := heldBy(again)
			n, _ := d.Size(0)
			for _, pick := range []int{0, 1} {
				kept, e := disk.New(d.Crash(slices.Repeat([]int{pick}, 50)))
				if e != api.OK {
					t.Fatal(e)
				}
				wantLong(t, kept, n)
				wantHeld(t, open(t, kept, 0, 128), told...)
			}
		}
	}
}

// P10.2
func TestPutTakesTheLowestSlotThatIsFree(t *testing.T) {
	d := emptyDisk()
	s := open(t, d, 0, 128)
	put(t, s, "a", 0)
	put(t, s, "b", 1)
	del(t, s, 0)
	put(t, s, "c", 0)
	wantHeld(t, s, held{0, "c"}, held{1, "b"})
	put(t, s, "d", 2)
	put(t, s, "e", 3)
	del(t, s, 3)
	del(t, s, 1)
	del(t, s, 2)
	wantHeld(t, s, held{0, "c"})
	put(t, s, "f", 1)
	put(t, s, "g", 2)
	put(t, s, "h", 3)
	put(t, s, "i", 4)
	wantHeld(t, s, held{0, "c"}, held{1, "f"}, held{2, "g"}, held{3, "h"}, held{4, "i"})
	for i := range 5 {
		del(t, s, i)
	}
	wantHeld(t, s)
	put(t, s, "j", 0)
	wantHeld(t, s, held{0, "j"})
}

// P10.2
func TestPutOfEachLength(t *testing.T) {
	for _, n := range slotSizes {
		for _, long := range []int{0, 1, 2, 46, 47, 48, 49, 63, 64, 65, n - 80, n - 65, n - 18, n - 17, n - 16} {
			d := emptyDisk()
			s := open(t, d, 0, n)
			put(t, s, "ahead", 0)
			text := strings.Repeat("\x00t\x01\xff", n)[1 : 1+long]
			put(t, s, text, 1)
			put(t, s, "behind", 2)
			wantHeld(t, s, held{0, "ahead"}, held{1, text}, held{2, "behind"})
			again, _ := behind(t, d, n, nil)
			wantHeld(t, again, held{0, "ahead"}, held{1, text}, held{2, "behind"})
		}
		d := emptyDisk()
		s := open(t, d, 0, n)
		for _, long := range []int{n - 15, n - 14, n - 1, n, n + 1, 2 * n, 1 << 16, 1<<16 + 1, 1<<16 + n - 16} {
			wantPut(t, s, strings.Repeat("t", long), api.ErrLimit)
		}
		wantHeld(t, s)
		wantLong(t, d, 0)
		if s.Failed() {
			t.Errorf("%d: has failed", n)
		}
	}
}

// P10.2: a text in a slot in which a longer one was is that text alone.
func TestPutOverALongerText(t *testing.T) {
	d := emptyDisk()
	s := open(t, d, 0, 256)
	put(t, s, strings.Repeat("l", 240), 0)
	put(t, s, "other", 1)
	del(t, s, 0)
	put(t, s, "short", 0)
	again, kept := behind(t, d, 256, nil)
	wantHeld(t, again, held{0, "short"}, held{1, "other"})
	del(t, again, 0)
	put(t, again, "", 0)
	again, _ = behind(t, kept, 256, nil)
	wantHeld(t, again, held{0, ""}, held{1, "other"})
}

// P10.2, R4
func TestPutIsFullAtMaxSlots(t *testing.T) {
	for _, n := range slotSizes {
		d := emptyDisk()
		s := open(t, d, 0, n)
		for i := range api.MaxSlots - 1 {
			put(t, s, "x", i)
		}
		put(t, s, "last", api.MaxSlots-1)
		wantLong(t, d, n*api.MaxSlots)
		d.Fail(1)
		wantPut(t, s, "x", api.ErrFull)
		wantPut(t, s, "", api.ErrFull)
		wantPut(t, s, strings.Repeat("x", n-15), api.ErrLimit)
		wantErr(t, "the call behind them", d.Sync(0), api.ErrFailed)
		if s.Failed() || s.Len() != api.MaxSlots {
			t.Errorf("%d: %v, %d", n, s.Failed(), s.Len())
		}
		for _, slot := range []int{api.MaxSlots - 1, 0, 63} {
			del(t, s, slot)
			put(t, s, "again", slot)
			wantPut(t, s, "x", api.ErrFull)
		}
		del(t, s, 5)
		del(t, s, 3)
		put(t, s, "y", 3)
		put(t, s, "y", 5)
		again, _ := behind(t, d, n, nil)
		wantHeld(t, again, heldBy(s)...)
		wantPut(t, again, "x", api.ErrFull)
	}
}

// P10.2, R4
func TestGetAndDelOfNone(t *testing.T) {
	d := emptyDisk()
	s := open(t, d, 0, 128)
	for i := range 4 {
		put(t, s, "x", i)
	}
	del(t, s, 1)
	d.Fail(1)
	for _, slot := range append(noSlots(), 1, 4, 5, api.MaxSlots-1) {
		if text, e := s.Get(slot); text != "" || e != api.ErrNone {
			t.Errorf("Get of %d: %q, %v", slot, text, e)
		}
		wantErr(t, "Del of none", s.Del(slot), api.ErrNone)
	}
	wantErr(t, "the call behind them", d.Sync(0), api.ErrFailed)
	if s.Failed() {
		t.Errorf("has failed")
	}
	wantHeld(t, s, held{0, "x"}, held{2, "x"}, held{3, "x"})
}

// P10.2
func TestGetAndDelOfTheFirstAndTheLast(t *testing.T) {
	d := emptyDisk()
	s := open(t, d, 0, 1024)
	for i := range api.MaxSlots {
		put(t, s, strings.Repeat("x", i), i)
	}
	for _, slot := range []int{0, api.MaxSlots - 1} {
		if text, e := s.Get(slot); len(text) != slot || e != api.OK {
			t.Errorf("%d: %q, %v", slot, text, e)
		}
		del(t, s, slot)
		if text, e := s.Get(slot); text != "" || e != api.ErrNone {
			t.Errorf("%d: %q, %v", slot, text, e)
		}
		wantErr(t, "Del again", s.Del(slot), api.ErrNone)
	}
	again, kept := behind(t, d, 1024, slices.Repeat([]int{1}, 20))
	if again.Len() != api.MaxSlots-2 {
		t.Errorf("%d", again.Len())
	}
	wantLong(t, kept, 1024*(api.MaxSlots-2))
}

// P10.2: what is told OK is in every crash.
func TestWhatIsToldIsSafe(t *testing.T) {
	d := emptyDisk()
	s := open(t, d, 0, 128)
	for i, c := range "pppdpdppddpp" {
		if c == 'd' {
			del(t, s, i%3)
		} else if _, e := s.Put(strings.Repeat("t", i)); e != api.OK {
			t.Fatal(e)
		}
		want, row := textsOf(s), rowOf(t, d)
		for _, picks := range [][]int{nil, slices.Repeat([]int{0}, 30), slices.Repeat([]int{1}, 30)} {
			twin := diskOf(t, row)
			again, _ := behind(t, twin, 128, picks)
			wantHeld(t, again, numbered(want)...)
		}
		d = diskOf(t, d.Crash(nil)[0])
		if got := rowOf(t, d); !bytes.Equal(got, row) {
			t.Fatalf("%d: %q, not %q", i, got, row)
		}
		s = open(t, d, 0, 128)
	}
}

// P10.2: Get, All and Len go by what is known, on a disk that is off too.
func TestGetAsksNoDisk(t *testing.T) {
	d := emptyDisk()
	s := open(t, d, 0, 128)
	put(t, s, "a", 0)
	put(t, s, "b", 1)
	d.Off(0)
	wantHeld(t, s, held{0, "a"}, held{1, "b"})
	if s.Failed() {
		t.Errorf("has failed")
	}
	wantErr(t, "Del of none", s.Del(2), api.ErrNone)
	wantPut(t, s, strings.Repeat("x", 113), api.ErrLimit)
	wantPut(t, s, "c", api.ErrPower)
	wantPut(t, s, "c", api.ErrFailed)
	wantErr(t, "Del", s.Del(0), api.ErrFailed)
	wantHeld(t, s, held{0, "a"}, held{1, "b"})
}

// P10.2, P10.3, R4: whichever call of the disk fails within a Put or a Del, and what is told from then on.
func TestAfterAFailure(t *testing.T) {
	putNew := func(s *Shelf) api.Errno {
		at, e := s.Put("new")
		if at != 0 {
			t.Errorf("%d, %v", at, e)
		}
		return e
	}
	for _, c := range []struct {
		what string
		do   func(*Shelf) api.Errno
		ok   []held
	}{
		{"Put", putNew, []held{{0, "new"}, {1, "b"}, {2, "c"}}},
		{"Del", func(s *Shelf) api.Errno { return s.Del(1) }, []held{{2, "c"}}},
		{"Del of the last", func(s *Shelf) api.Errno { return s.Del(2) }, []held{{1, "b"}}},
	} {
		for _, want := range []api.Errno{api.ErrFailed, api.ErrPower} {
			for n, ended := 1, false; !ended; n++ {
				d := emptyDisk()
				s := open(t, d, 0, 128)
				for i, text := range []string{"a", "b", "c"} {
					put(t, s, text, i)
				}
				del(t, s, 0)
				if want == api.ErrPower {
					d.Off(n)
				} else {
					d.Fail(n)
				}
				e := c.do(s)
				if ended = e == api.OK; ended {
					wantHeld(t, s, c.ok...)
					if n < 3 || s.Failed() {
						t.Errorf("%s: OK at %d: %v", c.what, n, s.Failed())
					}
					continue
				}
				if e != want || !s.Failed() {
					t.Fatalf("%s: %v, %v", c.what, e, s.Failed())
				}
				d.Fail(0)
				for range 2 {
					wantHeld(t, s, held{1, "b"}, held{2, "c"})
					wantPut(t, s, "more", api.ErrFailed)
					wantPut(t, s, strings.Repeat("x", 113), api.ErrFailed)
					for _, slot := range append(noSlots(), 0, 1, 2, 3) {
						wantErr(t, "Del", s.Del(slot), api.ErrFailed)
					}
				}
			}
		}
	}
}

// P10.2, R4
func TestAShelfThatFailedIsNotFull(t *testing.T) {
	d := emptyDisk()
	s := open(t, d, 0, 128)
	for i := range api.MaxSlots {
		put(t, s, "x", i)
	}
	d.Fail(2)
	wantErr(t, "Del", s.Del(9), api.ErrFailed)
	wantPut(t, s, "x", api.ErrFailed)
	wantErr(t, "Del of none", s.Del(api.MaxSlots), api.ErrFailed)
	if s.Len() != api.MaxSlots || !s.Failed() {
		t.Errorf("%d, %v", s.Len(), s.Failed())
	}
}

// P10.2: nothing is written by a shelf that failed.
func TestAShelfThatFailedWritesNothing(t *testing.T) {
	d := emptyDisk()
	s := open(t, d, 0, 128)
	put(t, s, "a", 0)
	d.Fail(1)
	wantPut(t, s, "b", api.ErrFailed)
	row := rowOf(t, d)
	s.Put("c")
	s.Del(0)
	if got := rowOf(t, d); !bytes.Equal(got, row) {
		t.Errorf("%q, not %q", got, row)
	}
	d.Fail(1)
	s.Put("c")
	s.Del(0)
	wantErr(t, "the call behind them", d.Sync(0), api.ErrFailed)
}

// R1
func TestAShelfThatWasNotOpened(t *testing.T) {
	s := &Shelf{}
	wantHeld(t, s)
	wantPut(t, s, "", api.ErrLimit)
	wantErr(t, "Del", s.Del(0), api.ErrNone)
	if s.Failed() {
		t.Errorf("has failed")
	}
}

// P10.3
func TestAllAsFarAsAnybodyAsks(t *testing.T) {
	s := open(t, emptyDisk(), 0, 128)
	for range s.All() {
		t.Errorf("of an empty one")
	}
	for i, text := range []string{"a", "b", "c", "d", "e"} {
		put(t, s, text, i)
	}
	del(t, s, 0)
	del(t, s, 3)
	want := []held{{1, "b"}, {2, "c"}, {4, "e"}}
	it := s.All()
	for n := range 4 {
		for range 2 {
			var got []held
			if n > 0 {
				for slot, text := range it {
					if got = append(got, held{slot, text}); len(got) == n {
						break
					}
				}
			}
			if !slices.Equal(got, want[:n]) {
				t.Errorf("%d: %v", n, got)
			}
		}
	}
	calls := 0
	it(func(int, string) bool { calls++; return false })
	if calls != 1 {
		t.Errorf("%d calls behind a false", calls)
	}
	for slot := range it {
		for inner, text := range it {
			if slot == inner && text != want[slot/2].text {
				t.Errorf("within: %d: %q", slot, text)
			}
		}
	}
}

// P10.3, R1: what was told of a shelf is of what had been done to it then.
func TestAllIsOfTheShelfAsItWas(t *testing.T) {
	s := open(t, emptyDisk(), 0, 128)
	put(t, s, "a", 0)
	put(t, s, "b", 1)
	put(t, s, "c", 2)
	it := s.All()
	for slot, text := range it {
		if text != string(rune('a'+slot)) {
			t.Errorf("%d: %q", slot, text)
		}
		del(t, s, slot)
		if slot == 1 {
			put(t, s, "new", 0)
			put(t, s, "newer", 1)
			put(t, s, "newest", 3)
		}
	}
	wantHeld(t, s, held{0, "new"}, held{1, "newer"}, held{3, "newest"})
	var got []string
	for _, text := range it {
		got = append(got, text)
	}
	if !slices.Equal(got, []string{"a", "b", "c"}) {
		t.Errorf("again: %q", got)
	}
}

// picksOf tells picks for up to n changes: all, nothing, single ones, all but single ones, and parts of one beside all or none of the others.
func picksOf(n int) [][]int {
	nothing := slices.Repeat([]int{1}, n)
	l := [][]int{nil, nothing, make([]int, n)}
	for i := range n {
		for _, others := range [][]int{make([]int, n), nothing} {
			for _, pick := range []int{-1, 0, 1, 2, 3, 4, 5, 6, 17, 18, 19, 65, 66, 1000} {
				picks := slices.Clone(others)
				picks[i] = pick
				l = append(l, picks)
			}
		}
	}
	return l
}

// crashes tells each of what a disk keeps of file 0, once.
func crashes(d *disk.Disk, n int) [][]byte {
	var l [][]byte
	for _, picks := range picksOf(n/api.Sector + 1) {
		if b := d.Crash(picks)[0]; !slices.ContainsFunc(l, func(x []byte) bool { return bytes.Equal(x, b) }) {
			l = append(l, b)
		}
	}
	return l
}

// inOpens breaks Opens off at every call, so many one behind the other, and looks at what is there then.
func inOpens(t *testing.T, row []byte, n int, deep int, want ...[]string) {
	t.Helper()
	d := diskOf(t, row)
	s := open(t, d, 0, n)
	got := textsOf(s)
	if !slices.ContainsFunc(want, func(l []string) bool { return slices.Equal(l, got) }) {
		t.Fatalf("%q, not one of %q", got, want)
	}
	wantHeld(t, s, numbered(got)...)
	wantLong(t, d, n*len(got))
	if deep == 0 {
		return
	}
	for off := 1; ; off++ {
		d := diskOf(t, row)
		d.Off(off)
		if _, e := Open(d, 0, n); e == api.OK {
			return
		} else if e != api.ErrPower {
			t.Fatalf("Open: %v", e)
		}
		for _, kept := range crashes(d, n) {
			if len(kept) > len(row) {
				t.Fatalf("Open of %d bytes made them %d", len(row), len(kept))
			}
			inOpens(t, kept, n, deep-1, got)
		}
	}
}

// P10.4: the power goes at each call within the last step of a script, and then in Opens.
func TestWhereverThePowerGoes(t *testing.T) {
	for _, script := range []string{"P", "PP", "PPPP", "PD", "PDP", "PPPa", "PPPac", "PPPaP", "PPPPbDp", "PPPc", "PpPDD", "PpPDDP", "PppDc"} {
		theLastStepBreaksOff(t, script, 128, 2)
	}
	theLastStepBreaksOff(t, "PpPaP", 256, 1)
	theLastStepBreaksOff(t, "PpPa", 512, 1)
}

func theLastStepBreaksOff(t *testing.T, script string, n int, deep int) {
	t.Helper()
	steps, last := script[:len(script)-1], len(script)-1
	done, _ := run(t, script, n)
	for off, ended := 1, false; !ended; off++ {
		s, d := run(t, steps, n)
		old, top := heldBy(s), max(len(rowOf(t, d)), n*(s.lowest()+1))
		d.Off(off)
		e := step(s, last, rune(script[last]), n)
		want := [][]string{textsOf(done)}
		if ended = e == api.OK; !ended {
			if e != api.ErrPower {
				t.Fatalf("%s: %v", script, e)
			}
			wantHeld(t, s, old...)
			want = append(want, textsOf(s))
		}
		breaks := deep
		if !ended {
			breaks = 1
		}
		for _, kept := range crashes(d, n) {
			if len(kept) > top {
				t.Fatalf("%s: %d long, not %d", script, len(kept), top)
			}
			inOpens(t, kept, n, breaks, want...)
		}
	}
}

// run does all of a script on a disk that is empty.
func run(t *testing.T, script string, n int) (*Shelf, *disk.Disk) {
	t.Helper()
	d := emptyDisk()
	s := open(t, d, 0, n)
	for i, c := range script {
		if e := step(s, i, c, n); e != api.OK {
			t.Fatalf("%s: %d: %v", script, i, e)
		}
	}
	return s, d
}

// step is a Put for a P (of a long text) or a p, a Del of the lowest slot that is taken for a D, and of slot 0, 1 .. for an a, b ..
func step(s *Shelf, i int, c rune, n int) api.Errno {
	if c == 'P' || c == 'p' {
		text := strings.Repeat(string(rune('a'+i)), i)
		if c == 'P' {
			text = strings.Repeat(string(rune('A'+i)), n-16-i)
		}
		_, e := s.Put(text)
		return e
	}
	slot := int(c - 'a')
	if c == 'D' {
		slot = heldBy(s)[0].slot
	}
	return s.Del(slot)
}

// P10.4: a chain of Opens that are broken off ends with the same texts, in their order, none of them twice.
func TestManyOpensBrokenOff(t *testing.T) {
	r := rand.New(rand.NewSource(104))
	for range 150 {
		n := slotSizes[r.Intn(4)]
		d := emptyDisk()
		s := open(t, d, 0, n)
		for i := range 3 + r.Intn(10) {
			put(t, s, strings.Repeat(string(rune('a'+r.Intn(3))), r.Intn(n-15)), i)
		}
		for slot := range s.All() {
			if r.Intn(2) == 0 {
				del(t, s, slot)
			}
		}
		want := textsOf(s)
		for range 20 {
			before := len(rowOf(t, d))
			if r.Intn(3) == 0 {
				d.Fail(1 + r.Intn(9))
			} else {
				d.Off(1 + r.Intn(9))
			}
			if _, e := Open(d, 0, n); e == api.ErrFailed && r.Intn(2) == 0 {
				continue
			}
			d = diskOf(t, d.Crash(randomPicks(r))[0])
			if len(rowOf(t, d)) > before {
				t.Fatalf("%d long, of %d", len(rowOf(t, d)), before)
			}
		}
		d = diskOf(t, d.Crash(nil)[0])
		wantHeld(t, open(t, d, 0, n), numbered(want)...)
		wantLong(t, d, n*len(want))
	}
}

func randomPicks(r *rand.Rand) []int {
	picks := make([]int, r.Intn(60))
	for i := range picks {
		if picks[i] = r.Intn(4) - 1; r.Intn(3) == 0 {
			picks[i] = r.Intn(70)
		}
	}
	return picks
}

// P10.4: what decides is one byte, and all the rest is safe ahead of it.
func TestTheMarkIsOneByte(t *testing.T) {
	for _, do := range []func(*Shelf){func(s *Shelf) { s.Put("new") }, func(s *Shelf) { s.Del(0) }} {
		var last *disk.Disk
		for off := 1; off < 20; off++ {
			d := emptyDisk()
			s := open(t, d, 0, 128)
			put(t, s, "a", 0)
			d.Off(off)
			if do(s); !s.Failed() {
				break
			}
			last = d
		}
		done, not := last.Crash([]int{0})[0], last.Crash(nil)[0]
		others := 0
		for i := range done {
			if len(done) != len(not) || done[i] != not[i] {
				others++
			}
		}
		if others != 1 {
			t.Errorf("%d bytes: %q, %q", others, not, done)
		}
	}
}

// P10.4: the file is no longer than the slots that were taken need.
func TestHowLongTheFileIs(t *testing.T) {
	d := emptyDisk()
	s := open(t, d, 0, 512)
	for i := range 5 {
		put(t, s, "x", i)
		wantLong(t, d, 512*(i+1))
	}
	del(t, s, 0)
	del(t, s, 2)
	if n, _ := d.Size(0); n > 512*5 {
		t.Errorf("%d", n)
	}
	put(t, s, "y", 0)
	put(t, s, "y", 2)
	wantLong(t, d, 512*5)
	for n := 1; n < 5; n++ {
		d := diskOf(t, rowOf(t, d))
		s := open(t, d, 0, 512)
		d.Fail(n)
		wantPut(t, s, "z", api.ErrFailed)
		if got, _ := d.Size(0); got > 512*6 {
			t.Errorf("%d: %d", n, got)
		}
	}
}

// plainShelf is the chapter's text once more.
type plainShelf struct {
	slots map[int]string
	size  int
	top   int // the greatest slot that was taken since Open, and one, or what was at Open
}

func (p *plainShelf) put(text string) (int, api.Errno) {
	if len(text)+16 > p.size {
		return 0, api.ErrLimit
	}
	if len(p.slots) == 128 {
		return 0, api.ErrFull
	}
	at := 0
	for ; ; at++ {
		if _, there := p.slots[at]; !there {
			break
		}
	}
	p.slots[at] = text
	p.top = max(p.top, at+1)
	return at, api.OK
}

func (p *plainShelf) del(slot int) api.Errno {
	if _, there := p.slots[slot]; !there {
		return api.ErrNone
	}
	delete(p.slots, slot)
	return api.OK
}

func (p *plainShelf) texts() []string {
	var l []string
	for _, slot := range slices.Sorted(maps.Keys(p.slots)) {
		l = append(l, p.slots[slot])
	}
	return l
}

func (p *plainShelf) held() []held {
	var l []held
	for _, slot := range slices.Sorted(maps.Keys(p.slots)) {
		l = append(l, held{slot, p.slots[slot]})
	}
	return l
}

func (p *plainShelf) reopened(texts []string) {
	p.slots = map[int]string{}
	for i, text := range texts {
		p.slots[i] = text
	}
	p.top = len(texts)
}

// P10.1 to P10.4
func TestScriptsOfAllCalls(t *testing.T) {
	r := rand.New(rand.NewSource(10))
	for range 400 {
		n := slotSizes[r.Intn(4)]
		d := emptyDisk()
		s := open(t, d, 0, n)
		p := &plainShelf{slots: map[int]string{}, size: n}
		lively := 1 + r.Intn(4)
		for range 60 {
			if r.Intn(6) == 0 {
				d.Fail(1 + r.Intn(4))
			}
			if r.Intn(8) == 0 {
				d.Off(1 + r.Intn(4))
			}
			var e, want api.Errno
			old := maps.Clone(p.slots)
			if r.Intn(lively+1) > 0 {
				text := strings.Repeat(string(rune('a'+r.Intn(26))), max(0, r.Intn(n)-r.Intn(n)/2))
				var at, wantAt int
				wantAt, want = p.put(text)
				if at, e = s.Put(text); e == api.OK && at != wantAt {
					t.Fatalf("Put: %d, not %d", at, wantAt)
				} else if e != api.OK && at != 0 {
					t.Fatalf("Put: %d, %v", at, e)
				}
			} else {
				slot := r.Intn(2+len(p.slots)*2) - 1
				want, e = p.del(slot), s.Del(slot)
			}
			if long, f := d.Size(0); f == api.OK && long > n*p.top {
				t.Fatalf("%d long, %d slots", long, p.top)
			}
			if e == want {
				wantSame(t, s, p)
				d.Fail(0)
				d.Off(1 << 30)
				continue
			}
			if want != api.OK || e != api.ErrFailed && e != api.ErrPower || !s.Failed() {
				t.Fatalf("%v, not %v", e, want)
			}
			done := p.texts()
			p.slots = old
			wantSame(t, s, p)
			d.Fail(0)
			d.Off(1 << 30)
			if e == api.ErrPower || r.Intn(2) == 0 {
				d = diskOf(t, d.Crash(randomPicks(r))[0])
			}
			s = open(t, d, 0, n)
			if got := textsOf(s); slices.Equal(got, done) {
				p.reopened(done)
			} else {
				p.reopened(p.texts())
			}
			wantSame(t, s, p)
			wantLong(t, d, n*s.Len())
		}
	}
}

func wantSame(t *testing.T, s *Shelf, p *plainShelf) {
	t.Helper()
	if got, want := heldBy(s), p.held(); !slices.Equal(got, want) || s.Len() != len(want) {
		t.Fatalf("%v, not %v", got, want)
	}
}
