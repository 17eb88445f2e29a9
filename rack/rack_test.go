package rack

import (
	"bytes"
	"maps"
	"math"
	"math/rand"
	"slices"
	"strings"
	"testing"

	"tarn/api"
	"tarn/disk"
	"tarn/shelf"
)

var slotSizes = [api.Shelves]int{128, 256, 512, 1024}

// lying is a text and where it lies.
type lying struct {
	at   api.Ref
	text string
}

func on(shelf, slot int) api.Ref { return api.Ref{Shelf: shelf, Slot: slot} }

// longest tells how long the longest text is that a shelf takes.
func longest(shelf int) int { return slotSizes[shelf] - 16 }

// textFor tells one of some fifty texts of which none but this shelf is the first that takes it.
func textFor(shelf, i int) string {
	return strings.Repeat(string(rune('a'+i%26)), longest(shelf)-i%50)
}

func emptyDisk() *disk.Disk {
	d, _ := disk.New(nil)
	return d
}

func diskOf(t *testing.T, rows [][]byte) *disk.Disk {
	t.Helper()
	d, e := disk.New(rows)
	if e != api.OK {
		t.Fatalf("New: %v", e)
	}
	return d
}

func open(t *testing.T, d *disk.Disk, first int) *Rack {
	t.Helper()
	r, e := Open(d, first)
	if r == nil || e != api.OK {
		t.Fatalf("Open at %d: %v, %v", first, r, e)
	}
	return r
}

// behind opens what a disk keeps.
func behind(t *testing.T, d *disk.Disk, first int, picks []int) (*Rack, *disk.Disk) {
	t.Helper()
	kept := diskOf(t, d.Crash(picks))
	return open(t, kept, first), kept
}

func put(t *testing.T, r *Rack, text string, want api.Ref) {
	t.Helper()
	if at, e := r.Put(text); at != want || e != api.OK {
		t.Fatalf("Put of %d bytes: %v, %v, not %v", len(text), at, e, want)
	}
}

func del(t *testing.T, r *Rack, at api.Ref) {
	t.Helper()
	wantErr(t, "Del", r.Del(at), api.OK)
}

func wantErr(t *testing.T, what string, got, want api.Errno) {
	t.Helper()
	if got != want {
		t.Errorf("%s: %v, not %v", what, got, want)
	}
}

func wantPut(t *testing.T, r *Rack, text string, want api.Errno) {
	t.Helper()
	if at, e := r.Put(text); at != (api.Ref{}) || e != want {
		t.Errorf("Put of %d bytes: %v, %v, not %v", len(text), at, e, want)
	}
}

func liesOn(r *Rack) []lying {
	var l []lying
	for at, text := range r.All() {
		l = append(l, lying{at, text})
	}
	return l
}

// wantLies asks every call that tells what is there.
func wantLies(t *testing.T, r *Rack, want ...lying) {
	t.Helper()
	if got := liesOn(r); !slices.Equal(got, want) {
		t.Fatalf("All: %v, not %v", got, want)
	}
	n := 0
	there := map[api.Ref]string{}
	for _, x := range want {
		n += slotSizes[x.at.Shelf]
		there[x.at] = x.text
	}
	if r.Bytes() != n {
		t.Errorf("Bytes: %d, not %d", r.Bytes(), n)
	}
	for shelf := -1; shelf <= api.Shelves; shelf++ {
		for slot := -1; slot <= api.MaxSlots; slot++ {
			text, is := there[on(shelf, slot)]
			e := api.ErrNone
			if is {
				e = api.OK
			}
			if got, f := r.Get(on(shelf, slot)); got != text || f != e {
				t.Errorf("Get of %d, %d: %q, %v, not %q, %v", shelf, slot, got, f, text, e)
			}
		}
	}
}

// noRefs are places at which nothing can lie.
func noRefs() []api.Ref {
	var l []api.Ref
	for _, n := range []int{math.MinInt, -1 << 32, -api.MaxSlots, -2, -1} {
		for i := range api.Shelves {
			l = append(l, on(n, i), on(i, n), on(n, n))
		}
	}
	for _, n := range []int{api.MaxSlots, api.MaxSlots + 1, 1 << 32, math.MaxInt} {
		for i := range api.Shelves {
			l = append(l, on(n, i), on(i, n), on(n, n))
		}
	}
	for n := range 4 {
		l = append(l, on(api.Shelves+n, 0), on(api.Shelves+n, 1))
	}
	return l
}

// plain is the chapter's text once more: of each shelf the slots that are taken.
type plain [api.Shelves]map[int]string

func newPlain() plain {
	var p plain
	for i := range p {
		p[i] = map[int]string{}
	}
	return p
}

func (p plain) put(text string) (api.Ref, api.Errno) {
	for i, l := range p {
		if len(text)+16 > slotSizes[i] {
			continue
		}
		for slot := range 128 {
			if _, there := l[slot]; !there {
				l[slot] = text
				return on(i, slot), api.OK
			}
		}
		return api.Ref{}, api.ErrFull
	}
	return api.Ref{}, api.ErrLimit
}

func (p plain) del(at api.Ref) api.Errno {
	if at.Shelf < 0 || at.Shelf > 3 {
		return api.ErrNone
	}
	if _, there := p[at.Shelf][at.Slot]; !there {
		return api.ErrNone
	}
	delete(p[at.Shelf], at.Slot)
	return api.OK
}

func (p plain) lies() []lying {
	var l []lying
	for i := range p {
		for _, slot := range slices.Sorted(maps.Keys(p[i])) {
			l = append(l, lying{on(i, slot), p[i][slot]})
		}
	}
	return l
}

// opened tells the same texts as an Open tells them.
func (p plain) opened() plain {
	q := newPlain()
	for _, x := range p.lies() {
		q[x.at.Shelf][len(q[x.at.Shelf])] = x.text
	}
	return q
}

func (p plain) clone() plain {
	for i := range p {
		p[i] = maps.Clone(p[i])
	}
	return p
}

// holed is a rack, and what lies there, with texts on each shelf and slots that are free ahead of them and between.
func holed(t *testing.T, d *disk.Disk, first int) (*Rack, plain) {
	t.Helper()
	r, p := open(t, d, first), newPlain()
	for i := range api.Shelves {
		for slot := range 4 {
			put(t, r, textFor(i, slot), on(i, slot))
			p.put(textFor(i, slot))
		}
		for _, slot := range []int{0, 2} {
			del(t, r, on(i, slot))
			p.del(on(i, slot))
		}
	}
	return r, p
}

// P11.1, R4
func TestOpenAsksForADiskAndItsFiles(t *testing.T) {
	off := emptyDisk()
	off.Off(0)
	for _, first := range []int{math.MinInt, -1 << 32, -5, -4, -3, -1, 0, 1, 2, 3, 4, 5, 6, 7, 8, 9, 1 << 32, math.MaxInt - 4, math.MaxInt - 3, math.MaxInt} {
		want := api.ErrForm
		if first >= 0 && first <= 4 {
			want = api.OK
		}
		if r, e := Open(emptyDisk(), first); e != want || (r == nil) != (e != api.OK) {
			t.Errorf("%d: %v, %v", first, r, e)
		}
		if r, e := Open(nil, first); r != nil || e != api.ErrForm {
			t.Errorf("no disk, %d: %v, %v", first, r, e)
		}
		if want == api.OK {
			want = api.ErrPower
		}
		if r, e := Open(off, first); r != nil || e != want {
			t.Errorf("off, %d: %v, %v", first, r, e)
		}
	}
}

// P11.1: where first may not be, no file is asked for.
func TestOpenOfFilesThatMayNotBeChangesNothing(t *testing.T) {
	for _, first := range []int{-1, api.Files - api.Shelves + 1} {
		d := emptyDisk()
		for f := range api.Files {
			wantErr(t, "Write", d.Write(f, 0, []byte("free")), api.OK)
		}
		d.Fail(1)
		if r, e := Open(d, first); r != nil || e != api.ErrForm {
			t.Errorf("%d: %v, %v", first, r, e)
		}
		wantErr(t, "the call behind it", d.Sync(0), api.ErrFailed)
		for f := range api.Files {
			if n, _ := d.Size(f); n != 4 {
				t.Errorf("%d: file %d is %d long", first, f, n)
			}
		}
	}
}

// P11.1
func TestOpenOfEmptyFiles(t *testing.T) {
	for first := range api.Files - api.Shelves + 1 {
		d := emptyDisk()
		r := open(t, d, first)
		wantLies(t, r)
		if r.Failed() {
			t.Errorf("%d: has failed", first)
		}
		for f := range api.Files {
			if n, _ := d.Size(f); n != 0 {
				t.Errorf("%d: file %d is %d long", first, f, n)
			}
		}
	}
}

// P11.1: each file is the shelf of its Slot, and all others are left as they are.
func TestWhichFilesARackTakes(t *testing.T) {
	for first := range api.Files - api.Shelves + 1 {
		rows := make([][]byte, api.Files)
		for f := range rows {
			if f < first || f >= first+api.Shelves {
				rows[f] = []byte("something else lies here")
			}
		}
		d := diskOf(t, rows)
		r := open(t, d, first)
		for i := range api.Shelves {
			for slot := range i + 1 {
				put(t, r, textFor(i, slot), on(i, slot))
			}
		}
		again, kept := behind(t, d, first, nil)
		wantLies(t, again, liesOn(r)...)
		for f, row := range kept.Crash(nil) {
			i := f - first
			if i < 0 || i >= api.Shelves {
				if !bytes.Equal(row, rows[f]) {
					t.Errorf("%d: file %d: %q", first, f, row)
				}
			} else if len(row) != (i+1)*slotSizes[i] {
				t.Errorf("%d: file %d is %d long", first, f, len(row))
			}
		}
		for i := range api.Shelves {
			d := diskOf(t, d.Crash(nil))
			s, e := shelf.Open(d, first+i, slotSizes[i])
			if e != api.OK || s.Len() != i+1 {
				t.Errorf("%d: shelf %d: %v", first, i, e)
			}
		}
	}
}

// P11.1, R2
func TestTwoRacksOfOneDisk(t *testing.T) {
	d := emptyDisk()
	a, b := open(t, d, 0), open(t, d, api.Shelves)
	put(t, a, textFor(2, 0), on(2, 0))
	put(t, b, textFor(2, 1), on(2, 0))
	put(t, b, textFor(0, 1), on(0, 0))
	put(t, a, textFor(3, 0), on(3, 0))
	wantA := []lying{{on(2, 0), textFor(2, 0)}, {on(3, 0), textFor(3, 0)}}
	wantB := []lying{{on(0, 0), textFor(0, 1)}, {on(2, 0), textFor(2, 1)}}
	wantLies(t, a, wantA...)
	wantLies(t, b, wantB...)
	kept := diskOf(t, d.Crash(nil))
	wantLies(t, open(t, kept, 0), wantA...)
	wantLies(t, open(t, kept, api.Shelves), wantB...)
	d = diskOf(t, kept.Crash(nil))
	a, b = open(t, d, 0), open(t, d, api.Shelves)
	d.Fail(1)
	wantPut(t, a, "x", api.ErrFailed)
	if !a.Failed() || b.Failed() {
		t.Errorf("%v, %v", a.Failed(), b.Failed())
	}
	put(t, b, "x", on(0, 1))
}

// P11.1: in the order of the slots, by shelves.
func TestOpenNumbersTheTextsAnew(t *testing.T) {
	for first := range api.Files - api.Shelves + 1 {
		d := emptyDisk()
		_, p := holed(t, d, first)
		want := p.opened()
		for range 2 {
			again := open(t, d, first)
			wantLies(t, again, want.lies()...)
			for i := range api.Shelves {
				if n, _ := d.Size(first + i); n != 2*slotSizes[i] {
					t.Errorf("%d: shelf %d is %d long", first, i, n)
				}
			}
		}
		again, _ := behind(t, d, first, nil)
		wantLies(t, again, want.lies()...)
		for i := range api.Shelves {
			put(t, again, textFor(i, 9), on(i, 2))
		}
	}
}

// P11.1
func TestOpenOfSomethingElse(t *testing.T) {
	for first := range api.Files - api.Shelves + 1 {
		for i := range api.Shelves {
			for _, b := range [][]byte{{1}, []byte("something else lies here"), bytes.Repeat([]byte{255}, 2*slotSizes[i])} {
				d := emptyDisk()
				_, p := holed(t, d, first)
				rows := d.Crash(nil)
				good := rows[first+i]
				rows[first+i] = b
				d = diskOf(t, rows)
				for range 2 {
					if r, e := Open(d, first); r != nil || e != api.ErrForm {
						t.Errorf("%d, shelf %d: %v, %v", first, i, r, e)
					}
				}
				rows = d.Crash(nil)
				if !bytes.Equal(rows[first+i], b) {
					t.Errorf("%d, shelf %d: %q", first, i, rows[first+i])
				}
				rows[first+i] = good
				wantLies(t, open(t, diskOf(t, rows), first), p.opened().lies()...)
			}
		}
	}
}

// P11.1: a shelf of other slots is something else.
func TestOpenOfShelvesInAnotherOrder(t *testing.T) {
	d := emptyDisk()
	r := open(t, d, 2)
	for i := range api.Shelves {
		put(t, r, textFor(i, 0), on(i, 0))
	}
	for a := range api.Shelves {
		for b := range a {
			rows := d.Crash(nil)
			rows[2+a], rows[2+b] = rows[2+b], rows[2+a]
			if r, e := Open(diskOf(t, rows), 2); r != nil || e != api.ErrForm {
				t.Errorf("%d, %d: %v, %v", a, b, r, e)
			}
		}
	}
	for first := range api.Files - api.Shelves + 1 {
		r, e := Open(diskOf(t, d.Crash(nil)), first)
		if first == 2 {
			if e != api.OK {
				t.Errorf("%v", e)
			}
		} else if r != nil || e != api.ErrForm {
			t.Errorf("%d: %v, %v", first, r, e)
		}
	}
}

// P11.1, R4: of two shelves' errors the one of the lower shelf.
func TestOpenTellsTheFirstError(t *testing.T) {
	for bad := range api.Shelves {
		rows := make([][]byte, api.Files)
		rows[1+bad] = []byte("something else lies here")
		for failing := range api.Shelves {
			d := diskOf(t, rows)
			d.Fail(failing + 1) // of empty files one call is asked for, each
			want := api.ErrFailed
			if bad <= failing {
				want = api.ErrForm
			}
			if r, e := Open(d, 1); r != nil || e != want {
				t.Errorf("%d, %d: %v, %v, not %v", bad, failing, r, e, want)
			}
			if want == api.ErrFailed {
				continue
			}
			for range failing - bad {
				wantErr(t, "a call behind it", d.Sync(0), api.OK)
			}
			wantErr(t, "the call that is to fail", d.Sync(0), api.ErrFailed)
		}
	}
}

// P11.1, R4: a call that fails, or the power that goes ahead of it, is the answer.
func TestOpenTellsTheDisksError(t *testing.T) {
	for _, want := range []api.Errno{api.ErrFailed, api.ErrPower} {
		for n, ended := 1, false; !ended; n++ {
			d := emptyDisk()
			_, p := holed(t, d, 3)
			if want == api.ErrPower {
				d.Off(n)
			} else {
				d.Fail(n)
			}
			again, e := Open(d, 3)
			if ended = e == api.OK; ended {
				wantLies(t, again, p.opened().lies()...)
				if n < 9 {
					t.Errorf("Open of four shelves with holes asked for %d calls", n-1)
				}
				continue
			}
			if again != nil || e != want {
				t.Fatalf("%d: %v, %v", n, again, e)
			}
			if want == api.ErrFailed {
				wantLies(t, open(t, d, 3), p.opened().lies()...)
			}
			for _, pick := range []int{0, 1} {
				again, _ := behind(t, d, 3, slices.Repeat([]int{pick}, 50))
				wantLies(t, again, p.opened().lies()...)
			}
		}
	}
}

// P11.2
func TestPutOfEachLength(t *testing.T) {
	d := emptyDisk()
	r := open(t, d, 0)
	for long := range 1009 {
		text := strings.Repeat("\x00t\x01\xff", 300)[1 : 1+long]
		want := on(0, 0)
		switch {
		case long > 496:
			want.Shelf = 3
		case long > 240:
			want.Shelf = 2
		case long > 112:
			want.Shelf = 1
		}
		put(t, r, text, want)
		if got, e := r.Get(want); got != text || e != api.OK {
			t.Errorf("%d: %q, %v", long, got, e)
		}
		if n := r.Bytes(); n != 128<<want.Shelf {
			t.Errorf("%d: %d bytes", long, n)
		}
		if long%16 == 0 || long%16 == 1 {
			again, _ := behind(t, diskOf(t, diskRows(t, d)), 0, nil)
			wantLies(t, again, lying{want, text})
		}
		del(t, r, want)
	}
	wantLies(t, r)
}

// diskRows tells all bytes of a disk as they are now.
func diskRows(t *testing.T, d *disk.Disk) [][]byte {
	t.Helper()
	rows := make([][]byte, api.Files)
	for f := range rows {
		n, _ := d.Size(f)
		b, e := d.Read(f, 0, n)
		if e != api.OK {
			t.Fatalf("Read: %v", e)
		}
		rows[f] = b
	}
	return rows
}

// P11.2, R4
func TestPutOfTextsThatAreTooLong(t *testing.T) {
	d := emptyDisk()
	r := open(t, d, 0)
	put(t, r, "x", on(0, 0))
	d.Fail(1)
	for _, long := range []int{1009, 1010, 1023, 1024, 1025, 2032, 2048, 1<<16 - 1, 1 << 16, 1<<16 + 112} {
		wantPut(t, r, strings.Repeat("t", long), api.ErrLimit)
	}
	wantErr(t, "the call behind them", d.Sync(0), api.ErrFailed)
	wantLies(t, r, lying{on(0, 0), "x"})
	if r.Failed() {
		t.Errorf("has failed")
	}
}

// P11.2: each shelf has slots of its own.
func TestPutTakesTheLowestSlotOfItsShelf(t *testing.T) {
	r := open(t, emptyDisk(), 0)
	for i := range api.Shelves {
		for slot := range 3 {
			put(t, r, textFor(i, slot), on(i, slot))
		}
	}
	del(t, r, on(2, 0))
	del(t, r, on(1, 1))
	for i := range api.Shelves {
		want := on(i, 3)
		switch i {
		case 1:
			want.Slot = 1
		case 2:
			want.Slot = 0
		}
		put(t, r, textFor(i, 7), want)
	}
	put(t, r, textFor(2, 8), on(2, 3))
}

// P11.2, R4: a text that its shelf has no slot for has none on the next one.
func TestPutOnAFullShelf(t *testing.T) {
	for full := range api.Shelves {
		d := emptyDisk()
		r := open(t, d, 4)
		for slot := range api.MaxSlots {
			put(t, r, textFor(full, slot), on(full, slot))
		}
		if n := r.Bytes(); n != api.MaxSlots*slotSizes[full] {
			t.Errorf("%d: %d bytes", full, n)
		}
		want := liesOn(r)
		d.Fail(1)
		for n := range 50 {
			wantPut(t, r, textFor(full, n), api.ErrFull)
		}
		if full == 0 {
			wantPut(t, r, "", api.ErrFull)
		}
		wantPut(t, r, strings.Repeat("t", 1009), api.ErrLimit)
		wantErr(t, "the call behind them", d.Sync(0), api.ErrFailed)
		wantLies(t, r, want...)
		if r.Failed() {
			t.Errorf("%d: has failed", full)
		}
		for i := range api.Shelves {
			if i != full {
				put(t, r, textFor(i, 0), on(i, 0))
			}
		}
		del(t, r, on(full, 77))
		put(t, r, textFor(full, 1), on(full, 77))
		wantPut(t, r, textFor(full, 2), api.ErrFull)
		again, _ := behind(t, d, 4, nil)
		wantLies(t, again, liesOn(r)...)
	}
}

// P11.2, R4
func TestGetAndDelOfNone(t *testing.T) {
	d := emptyDisk()
	r, p := holed(t, d, 0)
	refs := noRefs()
	for i := range api.Shelves {
		refs = append(refs, on(i, 0), on(i, 2), on(i, 4), on(i, api.MaxSlots-1))
	}
	d.Fail(1)
	for _, at := range refs {
		if text, e := r.Get(at); text != "" || e != api.ErrNone {
			t.Errorf("Get of %v: %q, %v", at, text, e)
		}
		wantErr(t, "Del of none", r.Del(at), api.ErrNone)
	}
	wantErr(t, "the call behind them", d.Sync(0), api.ErrFailed)
	wantLies(t, r, p.lies()...)
	if r.Failed() {
		t.Errorf("has failed")
	}
}

// P11.2
func TestGetAndDelOfTheFirstAndTheLast(t *testing.T) {
	d := emptyDisk()
	r := open(t, d, 0)
	for i := range api.Shelves {
		for slot := range api.MaxSlots {
			put(t, r, textFor(i, slot), on(i, slot))
		}
	}
	all := api.MaxSlots * (128 + 256 + 512 + 1024)
	if r.Bytes() != all {
		t.Errorf("%d bytes", r.Bytes())
	}
	for i := range api.Shelves {
		for _, slot := range []int{0, api.MaxSlots - 1} {
			if text, e := r.Get(on(i, slot)); text != textFor(i, slot) || e != api.OK {
				t.Errorf("%d, %d: %q, %v", i, slot, text, e)
			}
			del(t, r, on(i, slot))
			if all -= slotSizes[i]; r.Bytes() != all {
				t.Errorf("%d, %d: %d bytes", i, slot, r.Bytes())
			}
			if text, e := r.Get(on(i, slot)); text != "" || e != api.ErrNone {
				t.Errorf("%d, %d: %q, %v", i, slot, text, e)
			}
			wantErr(t, "Del again", r.Del(on(i, slot)), api.ErrNone)
		}
	}
	again, _ := behind(t, d, 0, nil)
	if again.Bytes() != all || len(liesOn(again)) != 4*(api.MaxSlots-2) {
		t.Errorf("%d bytes", again.Bytes())
	}
}

// P11.2: Get, All and Bytes go by what is known, on a disk that is off too.
func TestGetAsksNoDisk(t *testing.T) {
	d := emptyDisk()
	r, p := holed(t, d, 0)
	d.Off(0)
	wantLies(t, r, p.lies()...)
	if r.Failed() {
		t.Errorf("has failed")
	}
	wantErr(t, "Del of none", r.Del(on(0, 0)), api.ErrNone)
	wantPut(t, r, strings.Repeat("x", 1009), api.ErrLimit)
	wantPut(t, r, "x", api.ErrPower)
	wantPut(t, r, "x", api.ErrFailed)
	wantErr(t, "Del", r.Del(on(3, 1)), api.ErrFailed)
	wantLies(t, r, p.lies()...)
}

// P11.2, R4: whichever call of the disk fails within a Put or a Del, on whichever shelf, and what is told from then on.
func TestAfterAFailure(t *testing.T) {
	for i := range api.Shelves {
		for what, do := range map[string]func(*Rack) api.Errno{
			"Put": func(r *Rack) api.Errno {
				at, e := r.Put(textFor(i, 9))
				if e != api.OK && at != (api.Ref{}) {
					t.Errorf("%d: %v, %v", i, at, e)
				}
				return e
			},
			"Del":             func(r *Rack) api.Errno { return r.Del(on(i, 1)) },
			"Del of the last": func(r *Rack) api.Errno { return r.Del(on(i, 3)) },
		} {
			for _, want := range []api.Errno{api.ErrFailed, api.ErrPower} {
				failsAtEachCall(t, what, do, want)
			}
		}
	}
}

func failsAtEachCall(t *testing.T, what string, do func(*Rack) api.Errno, want api.Errno) {
	t.Helper()
	for n := 1; ; n++ {
		d := emptyDisk()
		r, p := holed(t, d, 0)
		if want == api.ErrPower {
			d.Off(n)
		} else {
			d.Fail(n)
		}
		e := do(r)
		if e == api.OK {
			if n < 3 || r.Failed() {
				t.Errorf("%s: OK at %d: %v", what, n, r.Failed())
			}
			return
		}
		if e != want || !r.Failed() {
			t.Fatalf("%s: %v, %v", what, e, r.Failed())
		}
		d.Fail(0)
		for range 2 {
			wantLies(t, r, p.lies()...)
			wantAllRefused(t, r)
			if !r.Failed() {
				t.Errorf("%s: has failed no more", what)
			}
		}
		if want == api.ErrFailed {
			rows := diskRows(t, d)
			d.Fail(1)
			wantAllRefused(t, r)
			wantErr(t, "the call behind them", d.Sync(0), api.ErrFailed)
			if !slices.EqualFunc(rows, diskRows(t, d), bytes.Equal) {
				t.Errorf("%s: written behind a failure", what)
			}
		}
	}
}

// wantAllRefused asks a rack that failed for Put and Del of what may be, and of what may not.
func wantAllRefused(t *testing.T, r *Rack) {
	t.Helper()
	for i := range api.Shelves {
		wantPut(t, r, textFor(i, 0), api.ErrFailed)
		for slot := range 5 {
			wantErr(t, "Del", r.Del(on(i, slot)), api.ErrFailed)
		}
	}
	wantPut(t, r, "", api.ErrFailed)
	wantPut(t, r, strings.Repeat("t", 1009), api.ErrFailed)
	for _, at := range noRefs() {
		wantErr(t, "Del of none", r.Del(at), api.ErrFailed)
	}
}

// P11.2, R4
func TestARackThatFailedIsNotFull(t *testing.T) {
	for full := range api.Shelves {
		for failing := range api.Shelves {
			d := emptyDisk()
			r := open(t, d, 0)
			for slot := range api.MaxSlots {
				put(t, r, textFor(full, slot), on(full, slot))
			}
			d.Fail(2)
			if failing == full {
				wantErr(t, "Del", r.Del(on(full, 9)), api.ErrFailed)
			} else {
				wantPut(t, r, textFor(failing, 0), api.ErrFailed)
			}
			wantPut(t, r, textFor(full, 0), api.ErrFailed)
			if n := r.Bytes(); n != api.MaxSlots*slotSizes[full] {
				t.Errorf("%d, %d: %d bytes", full, failing, n)
			}
		}
	}
}

// R1
func TestARackThatWasNotOpened(t *testing.T) {
	r := &Rack{}
	wantLies(t, r)
	for i := range api.Shelves {
		wantPut(t, r, textFor(i, 0), api.ErrLimit)
		wantErr(t, "Del", r.Del(on(i, 0)), api.ErrNone)
	}
	if r.Failed() {
		t.Errorf("has failed")
	}
}

// P11.2
func TestAllAsFarAsAnybodyAsks(t *testing.T) {
	empty := open(t, emptyDisk(), 0)
	for range empty.All() {
		t.Errorf("of an empty one")
	}
	r, p := holed(t, emptyDisk(), 0)
	del(t, r, on(1, 1))
	p.del(on(1, 1))
	del(t, r, on(1, 3))
	p.del(on(1, 3))
	want := p.lies() // none on shelf 1
	if len(want) != 6 {
		t.Fatalf("%v", want)
	}
	it := r.All()
	for n := 1; n <= 7; n++ {
		for range 2 {
			var got []lying
			for at, text := range it {
				if got = append(got, lying{at, text}); len(got) == n {
					break
				}
			}
			if !slices.Equal(got, want[:min(n, 6)]) {
				t.Errorf("%d: %v", n, got)
			}
		}
	}
	for n := 1; n <= 6; n++ {
		calls := 0
		it(func(api.Ref, string) bool { calls++; return calls < n })
		if calls != n {
			t.Errorf("%d calls behind a false at %d", calls, n)
		}
	}
	rounds := 0
	for range it {
		for range it {
			rounds++
		}
	}
	if rounds != 36 {
		t.Errorf("%d rounds of one within the other", rounds)
	}
}

// P11.2, R1: what was told of a rack is of what had been done to it then.
func TestAllIsOfTheRackAsItWas(t *testing.T) {
	r, p := holed(t, emptyDisk(), 0)
	want := p.lies()
	it := r.All()
	for round := range 2 {
		var got []lying
		for at, text := range it {
			got = append(got, lying{at, text})
			if round == 0 {
				del(t, r, at)
				put(t, r, textFor(3, 20+len(got)), on(3, []int{0, 2, 4, 5, 6, 7, 1, 3}[len(got)-1]))
			}
		}
		if !slices.Equal(got, want) {
			t.Errorf("%d: %v", round, got)
		}
	}
	if got := liesOn(r); len(got) != 8 || got[0].at != on(3, 0) || got[7].at != on(3, 7) {
		t.Errorf("%v", got)
	}
}

// picksOf tells picks for up to n changes: all, nothing, single ones, all but single ones, and parts of one beside all or none of the others.
func picksOf(n int) [][]int {
	nothing := slices.Repeat([]int{1}, n)
	l := [][]int{nil, nothing, make([]int, n)}
	for i := range n {
		for _, others := range [][]int{make([]int, n), nothing} {
			for _, pick := range []int{0, 1, 3, 34} {
				picks := slices.Clone(others)
				picks[i] = pick
				l = append(l, picks)
			}
		}
	}
	return l
}

// crashes tells each of what a disk keeps, once.
func crashes(d *disk.Disk) [][][]byte {
	var l [][][]byte
	for _, picks := range picksOf(slotSizes[3] / api.Sector) {
		rows := d.Crash(picks)
		if !slices.ContainsFunc(l, func(x [][]byte) bool { return slices.EqualFunc(x, rows, bytes.Equal) }) {
			l = append(l, rows)
		}
	}
	return l
}

// wantOpened tells what lies there, which is one of what is wanted, as opened.
func wantOpened(t *testing.T, rows [][]byte, first int, want ...plain) plain {
	t.Helper()
	got := liesOn(open(t, diskOf(t, rows), first))
	for _, p := range want {
		if slices.Equal(got, p.opened().lies()) {
			return p.opened()
		}
	}
	t.Fatalf("%v, not one of %v", got, want)
	return plain{}
}

// inOpens breaks an Open off at every call, and looks at what is there then.
func inOpens(t *testing.T, rows [][]byte, first int, want plain) {
	t.Helper()
	for off := 1; ; off++ {
		d := diskOf(t, rows)
		d.Off(off)
		if _, e := Open(d, first); e == api.OK {
			return
		} else if e != api.ErrPower {
			t.Fatalf("Open: %v", e)
		}
		for _, kept := range crashes(d) {
			for f := range kept {
				if len(kept[f]) > len(rows[f]) {
					t.Fatalf("Open of %d bytes made them %d", len(rows[f]), len(kept[f]))
				}
			}
			wantOpened(t, kept, first, want)
		}
	}
}

// putOn and delOn do a call on both, and tell the rack's error.
func putOn(r *Rack, p plain, text string) api.Errno {
	p.put(text)
	_, e := r.Put(text)
	return e
}

func delOn(r *Rack, p plain, at api.Ref) api.Errno {
	p.del(at)
	return r.Del(at)
}

// P11.3: the power goes at each call within a Put or a Del on each shelf, and then in Opens.
func TestWhereverThePowerGoes(t *testing.T) {
	for i := range api.Shelves {
		breaksOff(t, i, func(r *Rack, p plain) api.Errno { return putOn(r, p, textFor(i, 9)) })
		breaksOff(t, i, func(r *Rack, p plain) api.Errno { return delOn(r, p, on(i, 1)) })
		breaksOff(t, i, func(r *Rack, p plain) api.Errno { return delOn(r, p, on(i, 3)) })
		breaksOff(t, i, func(r *Rack, p plain) api.Errno { return putOn(r, p, textFor(i, 9)) }, textFor(i, 5), textFor(i, 6))
	}
}

// breaksOff does a call with the power gone at each of its calls of the disk, on a rack with holes of which these texts fill some.
func breaksOff(t *testing.T, first int, do func(*Rack, plain) api.Errno, fill ...string) {
	t.Helper()
	for off, ended := 1, false; !ended; off++ {
		d := emptyDisk()
		r, p := holed(t, d, first)
		for _, text := range fill {
			wantErr(t, "Put", putOn(r, p, text), api.OK)
		}
		old := p.clone()
		d.Off(off)
		e := do(r, p)
		can := []plain{p}
		if ended = e == api.OK; !ended {
			if e != api.ErrPower || !r.Failed() {
				t.Fatalf("%v, %v", e, r.Failed())
			}
			wantLies(t, r, old.lies()...)
			can = append(can, old)
		}
		for n, kept := range crashes(d) {
			is := wantOpened(t, kept, first, can...)
			if n%24 == 0 { // one of each lot is enough: to a rack an Open is its shelves' Opens
				inOpens(t, kept, first, is)
			}
		}
	}
}

// P11.3: chains of Opens that are broken off end with the same texts, on each shelf in their order.
func TestManyOpensBrokenOff(t *testing.T) {
	x := rand.New(rand.NewSource(113))
	for range 60 {
		first := x.Intn(api.Files - api.Shelves + 1)
		d := emptyDisk()
		r, p := open(t, d, first), newPlain()
		for n := range 30 {
			wantErr(t, "Put", putOn(r, p, textFor(x.Intn(4), n)), api.OK)
		}
		for _, l := range p.lies() {
			if x.Intn(2) == 0 {
				wantErr(t, "Del", delOn(r, p, l.at), api.OK)
			}
		}
		for range 20 {
			d = brokenOff(t, x, d, first)
		}
		wantLies(t, open(t, d, first), p.opened().lies()...)
	}
}

// brokenOff opens what may be broken off by the power, or by a call that fails, and tells a disk of what is kept.
func brokenOff(t *testing.T, x *rand.Rand, d *disk.Disk, first int) *disk.Disk {
	t.Helper()
	if x.Intn(3) == 0 {
		d.Fail(1 + x.Intn(40))
	} else {
		d.Off(1 + x.Intn(40))
	}
	if r, e := Open(d, first); e != api.OK && r != nil {
		t.Fatalf("%v, %v", r, e)
	}
	return diskOf(t, d.Crash(randomPicks(x)))
}

func randomPicks(x *rand.Rand) []int {
	picks := make([]int, x.Intn(40))
	for i := range picks {
		if picks[i] = x.Intn(4) - 1; x.Intn(3) == 0 {
			picks[i] = x.Intn(70)
		}
	}
	return picks
}

// script is a rack as it is used by chance, beside what it is to be.
type script struct {
	t     *testing.T
	x     *rand.Rand
	first int
	d     *disk.Disk
	r     *Rack
	p     plain
	top   [api.Shelves]int // of each shelf the greatest slot that was taken since Open, and one, or what was at Open
}

// P11.1 to P11.3
func TestScriptsOfAllCalls(t *testing.T) {
	x := rand.New(rand.NewSource(11))
	for range 150 {
		s := &script{t: t, x: x, first: x.Intn(api.Files - api.Shelves + 1), d: emptyDisk(), p: newPlain()}
		s.r = open(t, s.d, s.first)
		lively := 1 + x.Intn(4)
		for range 60 {
			s.step(x.Intn(lively+1) > 0)
		}
	}
}

func (s *script) step(puts bool) {
	s.t.Helper()
	if s.x.Intn(6) == 0 {
		s.d.Fail(1 + s.x.Intn(4))
	}
	if s.x.Intn(8) == 0 {
		s.d.Off(1 + s.x.Intn(4))
	}
	old := s.p.clone()
	var e, want api.Errno
	if puts {
		e, want = s.put()
	} else {
		at := on(s.x.Intn(6)-1, s.x.Intn(12)-1)
		want, e = s.p.del(at), s.r.Del(at)
	}
	s.wantNoLongerFiles()
	if e != want {
		if want != api.OK || e != api.ErrFailed && e != api.ErrPower || !s.r.Failed() {
			s.t.Fatalf("%v, not %v", e, want)
		}
		s.openBehind(e, old)
	}
	if got := liesOn(s.r); !slices.Equal(got, s.p.lies()) {
		s.t.Fatalf("%v, not %v", got, s.p.lies())
	}
	s.d.Fail(0)
	s.d.Off(1 << 30)
}

func (s *script) put() (e, want api.Errno) {
	text := strings.Repeat(string(rune('a'+s.x.Intn(26))), s.x.Intn(16<<s.x.Intn(7))+s.x.Intn(20))
	wantAt, want := s.p.put(text)
	at, e := s.r.Put(text)
	if e == api.OK && at != wantAt || e != api.OK && at != (api.Ref{}) {
		s.t.Fatalf("Put: %v, %v, not %v, %v", at, e, wantAt, want)
	}
	if want == api.OK {
		s.top[wantAt.Shelf] = max(s.top[wantAt.Shelf], wantAt.Slot+1)
	}
	return e, want
}

func (s *script) wantNoLongerFiles() {
	s.t.Helper()
	for i := range api.Shelves {
		if n, e := s.d.Size(s.first + i); e == api.OK && n > s.top[i]*slotSizes[i] {
			s.t.Fatalf("shelf %d: %d long, %d slots", i, n, s.top[i])
		}
	}
}

// openBehind opens anew behind a call that was not done, or not told.
func (s *script) openBehind(e api.Errno, old plain) {
	s.t.Helper()
	if got := liesOn(s.r); !slices.Equal(got, old.lies()) {
		s.t.Fatalf("behind %v: %v, not %v", e, got, old.lies())
	}
	s.d.Fail(0)
	s.d.Off(1 << 30)
	if e == api.ErrPower || s.x.Intn(2) == 0 {
		s.d = diskOf(s.t, s.d.Crash(randomPicks(s.x)))
		for range s.x.Intn(3) {
			s.d = brokenOff(s.t, s.x, s.d, s.first)
		}
	}
	s.r = open(s.t, s.d, s.first)
	if got := liesOn(s.r); slices.Equal(got, old.opened().lies()) {
		s.p = old.opened()
	} else {
		s.p = s.p.opened()
	}
	for i := range s.top {
		s.top[i] = len(s.p[i])
	}
}
