package disk

import (
	"math"
	"math/rand"
	"slices"
	"strings"
	"testing"

	"tarn/api"
)

// What follows up to the first test is the chapter's text once more, on strings and a byte at a time.

type plainChange struct {
	cut bool
	at  int
	s   string
}

type plainDisk struct {
	now, safe [api.Files]string
	changes   [api.Files][]plainChange
	calls     int // that counted
	offAt     int // the number of the call ahead of which the power goes, 0 if it stays
	failAt    int
	off       bool
}

func (p *plainDisk) fault(f int) api.Errno {
	switch {
	case p.off:
		return api.ErrPower
	case f < 0, f > api.Files-1:
		return api.ErrNone
	}
	return api.OK
}

func (p *plainDisk) count(f int) api.Errno {
	p.calls++
	if p.calls == p.offAt {
		p.off = true
	}
	if !p.off && p.calls == p.failAt {
		return api.ErrFailed
	}
	return p.fault(f)
}

func (p *plainDisk) size(f int) (int, api.Errno) {
	if e := p.fault(f); e != api.OK {
		return 0, e
	}
	return len(p.now[f]), api.OK
}

func (p *plainDisk) read(f, at, n int) (string, api.Errno) {
	if e := p.fault(f); e != api.OK {
		return "", e
	}
	if at < 0 || n < 0 || float64(at)+float64(n) > float64(len(p.now[f])) {
		return "", api.ErrForm
	}
	return p.now[f][at : at+n], api.OK
}

// plainOver is s with w from at on, with bytes 0 between.
func plainOver(s string, at int, w string) string {
	for len(s) < at {
		s += "\x00"
	}
	if at+len(w) >= len(s) {
		return s[:at] + w
	}
	return s[:at] + w + s[at+len(w):]
}

func plainPieces(at int, s string) []plainChange {
	var l []plainChange
	for i := range len(s) {
		if i == 0 || (at+i)%64 == 0 {
			l = append(l, plainChange{at: at + i})
		}
		l[len(l)-1].s += s[i : i+1]
	}
	return l
}

func (p *plainDisk) write(f, at int, s string) api.Errno {
	if e := p.count(f); e != api.OK {
		return e
	}
	if at < 0 || at > len(p.now[f]) {
		return api.ErrForm
	}
	if at+len(s) > api.MaxFile {
		return api.ErrFull
	}
	p.now[f] = plainOver(p.now[f], at, s)
	p.changes[f] = append(p.changes[f], plainPieces(at, s)...)
	return api.OK
}

func (p *plainDisk) cut(f, n int) api.Errno {
	if e := p.count(f); e != api.OK {
		return e
	}
	if n < 0 || n > len(p.now[f]) {
		return api.ErrForm
	}
	p.now[f] = p.now[f][:n]
	p.changes[f] = append(p.changes[f], plainChange{cut: true, at: n})
	return api.OK
}

func (p *plainDisk) sync(f int) api.Errno {
	if e := p.count(f); e != api.OK {
		return e
	}
	p.safe[f], p.changes[f] = p.now[f], nil
	return api.OK
}

func (p *plainDisk) setOff(n int) {
	if n < 1 {
		p.off = true
	}
	p.offAt = p.calls + n
}

func (p *plainDisk) setFail(n int) {
	p.failAt = p.calls + n
	if n < 1 {
		p.failAt = 0
	}
}

func plainKept(s string, c plainChange, pick int) string {
	switch {
	case pick < 0 || pick == 1:
		return s
	case c.cut && pick == 0 && len(s) > c.at:
		return s[:c.at]
	case c.cut:
		return s
	case pick == 0:
		return plainOver(s, c.at, c.s)
	case pick == 2:
		return s
	case pick-2 > len(c.s):
		return plainOver(s, c.at, c.s)
	}
	return plainOver(s, c.at, c.s[:pick-2])
}

func (p *plainDisk) crash(picks []int) [api.Files]string {
	p.off = true
	out, i := p.safe, 0
	for f, l := range p.changes {
		for _, c := range l {
			pick := 1
			if i < len(picks) {
				pick = picks[i]
			}
			i++
			out[f] = plainKept(out[f], c, pick)
		}
	}
	return out
}

// open is a disk whose first files have these bytes.
func open(t *testing.T, files ...string) *Disk {
	t.Helper()
	l := make([][]byte, api.Files)
	for f, s := range files {
		l[f] = []byte(s)
	}
	d, e := New(l)
	if d == nil || e != api.OK {
		t.Fatalf("New: %v, %v", d, e)
	}
	return d
}

func (d *Disk) all(t *testing.T, f int) string {
	t.Helper()
	n, e := d.Size(f)
	if e != api.OK {
		t.Fatalf("Size of %d: %v", f, e)
	}
	b, e := d.Read(f, 0, n)
	if e != api.OK || len(b) != n {
		t.Fatalf("Read of %d: %d bytes, %v", f, len(b), e)
	}
	return string(b)
}

func wantFile(t *testing.T, d *Disk, f int, want string) {
	t.Helper()
	if got := d.all(t, f); got != want {
		t.Errorf("file %d: %q, not %q", f, got, want)
	}
}

func wantErr(t *testing.T, what string, got, want api.Errno) {
	t.Helper()
	if got != want {
		t.Errorf("%s: %v, not %v", what, got, want)
	}
}

// wantCrash asks twice: what is told must be the same.
func wantCrash(t *testing.T, d *Disk, picks []int, want ...string) {
	t.Helper()
	for range 2 {
		l := d.Crash(picks)
		if len(l) != api.Files {
			t.Fatalf("%v: %d rows", picks, len(l))
		}
		for f, b := range l {
			w := ""
			if f < len(want) {
				w = want[f]
			}
			if string(b) != w {
				t.Errorf("%v: file %d: %q, not %q", picks, f, b, w)
			}
		}
	}
}

func write(t *testing.T, d *Disk, f, at int, s string) {
	t.Helper()
	wantErr(t, "Write", d.Write(f, at, []byte(s)), api.OK)
}

func cut(t *testing.T, d *Disk, f, n int) {
	t.Helper()
	wantErr(t, "Cut", d.Cut(f, n), api.OK)
}

func save(t *testing.T, d *Disk, f int) {
	t.Helper()
	wantErr(t, "Sync", d.Sync(f), api.OK)
}

func zeros(n int) string { return strings.Repeat("\x00", n) }

func rows(n, long int) [][]byte {
	l := make([][]byte, n)
	for i := range l {
		l[i] = make([]byte, long)
	}
	return l
}

// noFiles are numbers that no file has.
func noFiles() []int {
	return []int{-1, -2, -api.Files, math.MinInt, api.Files, api.Files + 1, 1 << 32, math.MaxInt}
}

// P9.1
func TestNewOfNone(t *testing.T) {
	for _, l := range [][][]byte{nil, {}} {
		d, e := New(l)
		if d == nil || e != api.OK {
			t.Fatalf("%v, %v", d, e)
		}
		for f := range api.Files {
			wantFile(t, d, f, "")
		}
		wantCrash(t, d, nil)
	}
}

// P9.1
func TestNewOfFilesIsSafe(t *testing.T) {
	l := make([][]byte, api.Files)
	var want []string
	for f := range l {
		want = append(want, strings.Repeat(string(rune('a'+f)), f*30))
		l[f] = []byte(want[f])
	}
	d, e := New(l)
	if e != api.OK {
		t.Fatal(e)
	}
	for f := range l {
		wantFile(t, d, f, want[f])
		if n, e := d.Size(f); n != f*30 || e != api.OK {
			t.Errorf("%d: %d, %v", f, n, e)
		}
	}
	wantCrash(t, d, nil, want...)
	wantCrash(t, d, []int{0, 0, 0}, want...)
}

// P9.1, R4
func TestNewRefusesOtherNumbersOfRows(t *testing.T) {
	for _, n := range []int{1, 2, api.Files - 1, api.Files + 1, 2 * api.Files, 1000} {
		for _, l := range [][][]byte{make([][]byte, n), rows(n, 3), rows(n, 0)} {
			if d, e := New(l); d != nil || e != api.ErrForm {
				t.Errorf("%d: %v, %v", n, d, e)
			}
		}
	}
}

// P9.1, R4
func TestNewOfTheLongestRowAndOneLonger(t *testing.T) {
	for f := range api.Files {
		l := rows(api.Files, 1)
		l[f] = make([]byte, api.MaxFile)
		d, e := New(l)
		if e != api.OK {
			t.Fatalf("%d: %v", f, e)
		}
		if n, e := d.Size(f); n != api.MaxFile || e != api.OK {
			t.Errorf("%d: %d, %v", f, n, e)
		}
		l[f] = make([]byte, api.MaxFile+1)
		if d, e := New(l); d != nil || e != api.ErrForm {
			t.Errorf("%d: %v, %v", f, d, e)
		}
	}
	if d, e := New(rows(api.Files, api.MaxFile)); d == nil || e != api.OK {
		t.Errorf("all: %v", e)
	}
	if d, e := New(rows(1, api.MaxFile+1)); d != nil || e != api.ErrForm {
		t.Errorf("one row, too long: %v, %v", d, e)
	}
}

// P9.1, R2
func TestNewKeepsNothingOfWhatIsHandedIn(t *testing.T) {
	l := rows(api.Files, 3)
	l[2] = append(make([]byte, 0, 100), "abc"...)
	d, _ := New(l)
	write(t, d, 2, 3, "de")
	if string(l[2]) != "abc" || string(l[2][:5]) != "abc"+zeros(2) {
		t.Errorf("%q", l[2][:5])
	}
	l[2][0] = 'z'
	l[3] = []byte("another")
	wantFile(t, d, 2, "abcde")
	wantFile(t, d, 3, zeros(3))
	if got := d.Crash(nil); string(got[2]) != "abc" || string(got[3]) != zeros(3) {
		t.Errorf("%q, %q", got[2], got[3])
	}
	same := []byte("same")
	l = make([][]byte, api.Files)
	for f := range l {
		l[f] = same
	}
	d, _ = New(l)
	write(t, d, 0, 0, "S")
	wantFile(t, d, 1, "same")
}

// P9.1
func TestDisksHaveNothingInCommon(t *testing.T) {
	l := make([][]byte, api.Files)
	l[0] = []byte("abc")
	a, _ := New(l)
	b, _ := New(l)
	write(t, a, 0, 0, "X")
	a.Off(0)
	wantFile(t, b, 0, "abc")
	save(t, b, 0)
	wantCrash(t, b, nil, "abc")
	wantCrash(t, a, []int{0}, "Xbc")
}

// P9.1, P9.2, R4
func TestThereAreNoOtherFiles(t *testing.T) {
	d := open(t, "abc")
	for _, f := range noFiles() {
		if n, e := d.Size(f); n != 0 || e != api.ErrNone {
			t.Errorf("Size of %d: %d, %v", f, n, e)
		}
		for _, n := range []int{-1, 0, 1} {
			if b, e := d.Read(f, 0, n); len(b) != 0 || e != api.ErrNone {
				t.Errorf("Read of %d: %q, %v", f, b, e)
			}
		}
		wantErr(t, "Write", d.Write(f, 0, nil), api.ErrNone)
		wantErr(t, "Write far behind", d.Write(f, 1, make([]byte, api.MaxFile+1)), api.ErrNone)
		wantErr(t, "Cut", d.Cut(f, 0), api.ErrNone)
		wantErr(t, "Cut below 0", d.Cut(f, -1), api.ErrNone)
		wantErr(t, "Sync", d.Sync(f), api.ErrNone)
	}
	wantFile(t, d, 0, "abc")
	wantCrash(t, d, []int{0, 0, 0, 0}, "abc")
}

// P9.1, P9.2
func TestTheFirstAndTheLastFile(t *testing.T) {
	d := open(t)
	for _, f := range []int{0, api.Files - 1} {
		write(t, d, f, 0, "abcd")
		cut(t, d, f, 3)
		save(t, d, f)
		wantFile(t, d, f, "abc")
	}
	for f := 1; f < api.Files-1; f++ {
		wantFile(t, d, f, "")
	}
	wantCrash(t, d, nil, "abc", "", "", "", "", "", "", "abc")
}

// P9.1
func TestReadOfEachPlace(t *testing.T) {
	s := "abcdefg"
	d := open(t, s)
	for at := -3; at < 10; at++ {
		for n := -3; n < 10; n++ {
			b, e := d.Read(0, at, n)
			if at >= 0 && n >= 0 && at+n <= len(s) {
				if string(b) != s[at:at+n] || e != api.OK {
					t.Errorf("%d, %d: %q, %v", at, n, b, e)
				}
			} else if b != nil || e != api.ErrForm {
				t.Errorf("%d, %d: %q, %v", at, n, b, e)
			}
		}
	}
}

// P9.1
func TestReadOfSumsBeyondAnyNumber(t *testing.T) {
	far := []int{math.MinInt, math.MinInt + 1, -1, 1 << 31, 1 << 32, 1 << 62, math.MaxInt - 3, math.MaxInt - 1, math.MaxInt}
	d := open(t, "abc")
	for _, a := range far {
		for _, b := range append([]int{0, 1, 2, 3, 4}, far...) {
			for _, c := range [][2]int{{a, b}, {b, a}} {
				if s, e := d.Read(0, c[0], c[1]); s != nil || e != api.ErrForm {
					t.Errorf("%d, %d: %q, %v", c[0], c[1], s, e)
				}
			}
		}
	}
}

// P9.1
func TestReadOfTheLongestFile(t *testing.T) {
	d := open(t, zeros(api.MaxFile))
	write(t, d, 0, api.MaxFile-1, "z")
	if b, e := d.Read(0, api.MaxFile-1, 1); string(b) != "z" || e != api.OK {
		t.Errorf("%q, %v", b, e)
	}
	if b, e := d.Read(0, api.MaxFile, 0); len(b) != 0 || e != api.OK {
		t.Errorf("%q, %v", b, e)
	}
	for _, c := range [][2]int{{api.MaxFile, 1}, {api.MaxFile + 1, 0}, {0, api.MaxFile + 1}} {
		if b, e := d.Read(0, c[0], c[1]); b != nil || e != api.ErrForm {
			t.Errorf("%v: %v", c, e)
		}
	}
	wantFile(t, d, 0, zeros(api.MaxFile-1)+"z")
}

// P9.1, R2
func TestReadTellsNewMemory(t *testing.T) {
	d := open(t, "abcdef")
	write(t, d, 0, 6, "g")
	one, _ := d.Read(0, 1, 3)
	two, _ := d.Read(0, 1, 3)
	_ = append(one, "####"...)
	for i := range one[:cap(one)] {
		one[:cap(one)][i] = '#'
	}
	if string(two) != "bcd" {
		t.Errorf("%q", two)
	}
	wantFile(t, d, 0, "abcdefg")
	wantCrash(t, d, []int{0}, "abcdefg")
}

// P9.2
func TestWriteAtEachPlace(t *testing.T) {
	for _, c := range []struct {
		at   int
		s    string
		e    api.Errno
		want string
	}{
		{0, "XY", api.OK, "XYcde"},
		{3, "XY", api.OK, "abcXY"},
		{4, "XY", api.OK, "abcdXY"},
		{5, "XY", api.OK, "abcdeXY"},
		{6, "XY", api.ErrForm, "abcde"},
		{-1, "XY", api.ErrForm, "abcde"},
		{math.MinInt, "XY", api.ErrForm, "abcde"},
		{math.MaxInt, "XY", api.ErrForm, "abcde"},
		{0, "", api.OK, "abcde"},
		{3, "", api.OK, "abcde"},
		{5, "", api.OK, "abcde"},
		{6, "", api.ErrForm, "abcde"},
		{-1, "", api.ErrForm, "abcde"},
		{0, "UVWXY", api.OK, "UVWXY"},
		{0, "UVWXYZ", api.OK, "UVWXYZ"},
	} {
		d := open(t, "abcde", "other")
		if e := d.Write(0, c.at, []byte(c.s)); e != c.e {
			t.Errorf("%d, %q: %v", c.at, c.s, e)
		}
		wantFile(t, d, 0, c.want)
		wantFile(t, d, 1, "other")
		if n, e := d.Size(0); n != len(c.want) || e != api.OK {
			t.Errorf("%d, %q: %d, %v", c.at, c.s, n, e)
		}
		all := []int{0, 0, 0}
		wantCrash(t, d, all, c.want, "other")
		wantCrash(t, d, nil, "abcde", "other")
	}
}

// P9.2
func TestWriteUpToTheLongest(t *testing.T) {
	d := open(t)
	wantErr(t, "one more at 0", d.Write(0, 0, make([]byte, api.MaxFile+1)), api.ErrFull)
	wantFile(t, d, 0, "")
	write(t, d, 0, 0, zeros(api.MaxFile))
	wantErr(t, "one more at the end", d.Write(0, api.MaxFile, []byte{1}), api.ErrFull)
	wantErr(t, "one more over the end", d.Write(0, api.MaxFile-1, []byte{1, 1}), api.ErrFull)
	wantErr(t, "one more in all", d.Write(0, 1, make([]byte, api.MaxFile)), api.ErrFull)
	write(t, d, 0, api.MaxFile, "")
	wantErr(t, "behind the end", d.Write(0, api.MaxFile+1, nil), api.ErrForm)
	wantErr(t, "behind the end and too much", d.Write(0, api.MaxFile+1, []byte{1}), api.ErrForm)
	wantErr(t, "far behind the end", d.Write(0, math.MaxInt, make([]byte, 100)), api.ErrForm)
	wantErr(t, "below 0 and too much", d.Write(0, -1, make([]byte, api.MaxFile+9)), api.ErrForm)
	write(t, d, 0, api.MaxFile-2, "yz")
	wantFile(t, d, 0, zeros(api.MaxFile-2)+"yz")
	write(t, d, 1, 0, "ab")
	wantErr(t, "behind two bytes", d.Write(1, 2, make([]byte, api.MaxFile-1)), api.ErrFull)
	wantErr(t, "behind the end of two bytes, and too much", d.Write(1, 3, make([]byte, api.MaxFile)), api.ErrForm)
	write(t, d, 1, 2, zeros(api.MaxFile-2))
	wantFile(t, d, 1, "ab"+zeros(api.MaxFile-2))
}

// P9.2, R4
func TestWriteThatIsRefusedChangesNothing(t *testing.T) {
	d := open(t, zeros(api.MaxFile), "abc")
	wantErr(t, "full", d.Write(0, api.MaxFile-64, []byte(strings.Repeat("x", 65))), api.ErrFull)
	wantErr(t, "form", d.Write(1, 4, []byte("x")), api.ErrForm)
	wantErr(t, "cut", d.Cut(1, 4), api.ErrForm)
	wantFile(t, d, 0, zeros(api.MaxFile))
	wantFile(t, d, 1, "abc")
	wantCrash(t, d, []int{0, 0, 0, 0}, zeros(api.MaxFile), "abc")
}

// P9.2, R2
func TestWriteKeepsNothingOfWhatIsHandedIn(t *testing.T) {
	d := open(t, "abc")
	b := append(make([]byte, 0, 500), strings.Repeat("x", 200)...)
	wantErr(t, "Write", d.Write(0, 3, b), api.OK)
	if string(b) != strings.Repeat("x", 200) || string(b[200:500]) != zeros(300) {
		t.Errorf("changed")
	}
	for i := range b[:500] {
		b[:500][i] = '#'
	}
	want := "abc" + strings.Repeat("x", 200)
	wantFile(t, d, 0, want)
	wantCrash(t, d, []int{0, 0, 0, 0}, want)
}

// P9.2, R2
func TestChangesBehindACrashOfMemoryThatWasHandedIn(t *testing.T) {
	d := open(t)
	b := []byte("abc")
	wantErr(t, "Write", d.Write(0, 0, b), api.OK)
	save(t, d, 0)
	b[0] = '#'
	write(t, d, 0, 1, "B")
	wantCrash(t, d, nil, "abc")
	wantCrash(t, d, []int{0}, "aBc")
}

// P9.2, P9.4: what each pick keeps shows which bytes are one piece.
func TestWriteIsInPieces(t *testing.T) {
	for _, c := range []struct{ at, n, pieces int }{
		{0, 0, 0}, {5, 0, 0}, {64, 0, 0}, {0, 1, 1}, {0, 63, 1}, {0, 64, 1}, {0, 65, 2},
		{1, 62, 1}, {1, 63, 1}, {1, 64, 2}, {63, 1, 1}, {63, 2, 2}, {64, 1, 1}, {64, 64, 1}, {64, 65, 2},
		{65, 63, 1}, {65, 64, 2}, {10, 100, 2}, {10, 118, 2}, {10, 119, 3}, {63, 66, 3}, {0, 192, 3}, {0, 193, 4}, {127, 65, 2}, {127, 66, 3},
	} {
		back := strings.Repeat(".", 300)
		for k := range c.pieces + 2 {
			d := open(t, back)
			write(t, d, 0, c.at, strings.Repeat("x", c.n))
			picks := slices.Repeat([]int{1}, k)
			picks = append(picks, 0)
			want := []byte(back)
			for i := range want {
				if i >= c.at && i < c.at+c.n && i/64 == c.at/64+k {
					want[i] = 'x'
				}
			}
			wantCrash(t, d, picks, string(want))
		}
		d := open(t, back)
		write(t, d, 0, c.at, strings.Repeat("x", c.n))
		write(t, d, 1, 0, "y")
		picks := slices.Repeat([]int{1}, c.pieces)
		wantCrash(t, d, append(picks, 0), back, "y")
	}
}

// P9.2
func TestCutToEachLength(t *testing.T) {
	for _, c := range []struct {
		n    int
		e    api.Errno
		want string
	}{
		{0, api.OK, ""}, {1, api.OK, "a"}, {4, api.OK, "abcd"}, {5, api.OK, "abcde"},
		{6, api.ErrForm, "abcde"}, {-1, api.ErrForm, "abcde"}, {math.MinInt, api.ErrForm, "abcde"}, {math.MaxInt, api.ErrForm, "abcde"},
	} {
		d := open(t, "abcde", "other")
		if e := d.Cut(0, c.n); e != c.e {
			t.Errorf("%d: %v", c.n, e)
		}
		wantFile(t, d, 0, c.want)
		wantFile(t, d, 1, "other")
	}
	d := open(t)
	cut(t, d, 0, 0)
	wantErr(t, "1 of none", d.Cut(0, 1), api.ErrForm)
}

// P9.2
func TestWriteBehindACutHasNothingOfWhatWasThere(t *testing.T) {
	d := open(t, "abcdef")
	cut(t, d, 0, 2)
	wantErr(t, "behind the end", d.Write(0, 3, []byte("Z")), api.ErrForm)
	write(t, d, 0, 2, "Z")
	wantFile(t, d, 0, "abZ")
	cut(t, d, 0, 0)
	write(t, d, 0, 0, "q")
	wantFile(t, d, 0, "q")
	save(t, d, 0)
	write(t, d, 0, 1, "rst")
	wantFile(t, d, 0, "qrst")
	wantCrash(t, d, nil, "q")
}

// P9.2
func TestSyncMakesAllSafeAsItIs(t *testing.T) {
	d := open(t, "abc", "def")
	write(t, d, 0, 1, strings.Repeat("x", 200))
	cut(t, d, 0, 150)
	write(t, d, 0, 149, "yz")
	cut(t, d, 0, 150)
	save(t, d, 0)
	save(t, d, 0)
	want := "a" + strings.Repeat("x", 148) + "y"
	wantFile(t, d, 0, want)
	for _, picks := range [][]int{nil, {0}, {1, 1, 1}, {3, 4, 5, 6}} {
		wantCrash(t, d, picks, want, "def")
	}
}

// calls are of each kind that counts, with what each answers of a disk whose file 0 has three bytes.
func calls() map[string]struct {
	do func(d *Disk) api.Errno
	e  api.Errno
} {
	type row = struct {
		do func(d *Disk) api.Errno
		e  api.Errno
	}
	return map[string]row{
		"Write":           {func(d *Disk) api.Errno { return d.Write(0, 0, []byte("X")) }, api.OK},
		"Write of none":   {func(d *Disk) api.Errno { return d.Write(0, 0, nil) }, api.OK},
		"Write, no file":  {func(d *Disk) api.Errno { return d.Write(-1, 0, []byte("X")) }, api.ErrNone},
		"Write, far off":  {func(d *Disk) api.Errno { return d.Write(0, 4, []byte("X")) }, api.ErrForm},
		"Write, too much": {func(d *Disk) api.Errno { return d.Write(0, 1, make([]byte, api.MaxFile)) }, api.ErrFull},
		"Cut":             {func(d *Disk) api.Errno { return d.Cut(0, 2) }, api.OK},
		"Cut, no file":    {func(d *Disk) api.Errno { return d.Cut(api.Files, 0) }, api.ErrNone},
		"Cut, too long":   {func(d *Disk) api.Errno { return d.Cut(0, 4) }, api.ErrForm},
		"Sync":            {func(d *Disk) api.Errno { return d.Sync(0) }, api.OK},
		"Sync, no file":   {func(d *Disk) api.Errno { return d.Sync(-1) }, api.ErrNone},
	}
}

// P9.3
func TestOffAtEachKindOfCall(t *testing.T) {
	for name, c := range calls() {
		for _, n := range []int{math.MinInt, -1, 0, 1} {
			d := open(t, "abc")
			d.Off(n)
			wantErr(t, name, c.do(d), api.ErrPower)
			wantErr(t, name, c.do(d), api.ErrPower)
			wantCrash(t, d, []int{0, 0, 0}, "abc")
		}
		d := open(t, "abc")
		d.Off(2)
		wantErr(t, name, c.do(d), c.e)
		wantErr(t, "Write behind "+name, d.Write(0, 0, []byte("Y")), api.ErrPower)
		wantErr(t, name, c.do(d), api.ErrPower)
	}
}

// P9.3
func TestFailAtEachKindOfCall(t *testing.T) {
	for name, c := range calls() {
		for _, n := range []int{math.MinInt, -1, 0} {
			d := open(t, "abc")
			d.Fail(n)
			wantErr(t, name, c.do(d), c.e)
		}
		d := open(t, "abc")
		write(t, d, 0, 0, "W")
		d.Fail(1)
		wantErr(t, name, c.do(d), api.ErrFailed)
		wantFile(t, d, 0, "Wbc")
		wantErr(t, name, c.do(d), c.e)
		d = open(t, "abc")
		d.Fail(2)
		wantErr(t, name, c.do(d), c.e)
		wantErr(t, "Sync behind "+name, d.Sync(1), api.ErrFailed)
		wantErr(t, "Sync behind that", d.Sync(1), api.OK)
	}
}

// P9.3, P9.4
func TestWhatFailsDoesNothing(t *testing.T) {
	d := open(t, "abc")
	write(t, d, 0, 0, "X")
	d.Fail(1)
	wantErr(t, "Write", d.Write(0, 1, []byte("Y")), api.ErrFailed)
	d.Fail(1)
	wantErr(t, "Cut", d.Cut(0, 1), api.ErrFailed)
	d.Fail(1)
	wantErr(t, "Sync", d.Sync(0), api.ErrFailed)
	wantFile(t, d, 0, "Xbc")
	wantCrash(t, d, []int{0, 0, 0}, "Xbc")
	wantCrash(t, d, nil, "abc")
}

// P9.3
func TestSizeAndReadDoNotCount(t *testing.T) {
	d := open(t, "abc")
	d.Off(2)
	d.Fail(1)
	for range 5 {
		wantFile(t, d, 0, "abc")
		d.Size(-1)
		d.Read(0, 4, 0)
	}
	wantErr(t, "first", d.Sync(0), api.ErrFailed)
	wantFile(t, d, 0, "abc")
	wantErr(t, "second", d.Sync(0), api.ErrPower)
}

// P9.1, P9.3
func TestOffStaysOff(t *testing.T) {
	for name, off := range map[string]func(d *Disk){
		"Off(0)":  func(d *Disk) { d.Off(0) },
		"Off(-1)": func(d *Disk) { d.Off(-1) },
		"Off(1)":  func(d *Disk) { d.Off(1); d.Sync(0) },
		"Off(2)":  func(d *Disk) { d.Off(2); d.Sync(0); d.Sync(-1) },
		"Crash":   func(d *Disk) { d.Crash(nil) },
	} {
		d := open(t, "abc")
		off(d)
		for range 3 {
			for _, f := range append(noFiles(), 0, 1, api.Files-1) {
				if n, e := d.Size(f); n != 0 || e != api.ErrPower {
					t.Errorf("%s: Size of %d: %d, %v", name, f, n, e)
				}
				if b, e := d.Read(f, 0, 1); b != nil || e != api.ErrPower {
					t.Errorf("%s: Read of %d: %q, %v", name, f, b, e)
				}
				wantErr(t, name, d.Write(f, 0, nil), api.ErrPower)
				wantErr(t, name, d.Cut(f, 0), api.ErrPower)
				wantErr(t, name, d.Sync(f), api.ErrPower)
			}
			d.Off(5)
			d.Fail(1)
		}
		wantCrash(t, d, []int{0}, "abc")
	}
}

// P9.3
func TestOffIsAheadOfTheCallAndNoSooner(t *testing.T) {
	d := open(t, "abc")
	d.Off(1)
	wantFile(t, d, 0, "abc")
	wantErr(t, "Cut", d.Cut(0, 0), api.ErrPower)
	if n, e := d.Size(0); n != 0 || e != api.ErrPower {
		t.Errorf("%d, %v", n, e)
	}
	wantCrash(t, d, []int{0}, "abc")
}

// P9.3
func TestTheLaterOffIsInForce(t *testing.T) {
	for _, c := range []struct{ first, between, second, good int }{
		{1, 0, 3, 2}, {3, 0, 1, 0}, {3, 2, 3, 4}, {3, 1, 1, 1}, {2, 1, 5, 5}, {math.MaxInt, 3, 2, 4}, {1, 0, math.MaxInt, 40},
	} {
		d := open(t, "abc")
		d.Off(c.first)
		for i := range c.good {
			if i == c.between {
				d.Off(c.second)
			}
			wantErr(t, "good", d.Sync(i%api.Files), api.OK)
		}
		if c.good == c.between {
			d.Off(c.second)
		}
		want := api.ErrPower
		if c.second == math.MaxInt {
			want = api.OK
		}
		wantErr(t, "then", d.Sync(0), want)
	}
	d := open(t, "abc")
	d.Off(0)
	d.Off(2)
	wantErr(t, "off already", d.Sync(0), api.ErrPower)
	d = open(t, "abc")
	d.Off(2)
	d.Off(-1)
	wantErr(t, "at once", d.Sync(0), api.ErrPower)
}

// P9.3
func TestTheLaterFailIsInForce(t *testing.T) {
	for _, c := range []struct {
		set  map[int]int // ahead of which call, Fail of what
		want []int       // which calls fail
	}{
		{map[int]int{0: 1}, []int{0}},
		{map[int]int{0: 2}, []int{1}},
		{map[int]int{0: 2, 1: 2}, []int{2}},
		{map[int]int{0: 3, 1: 1}, []int{1}},
		{map[int]int{0: 1, 1: 1}, []int{0, 1}},
		{map[int]int{0: 3, 1: 0}, nil},
		{map[int]int{0: 3, 2: -1}, nil},
		{map[int]int{0: 3, 3: -1}, []int{2}},
		{map[int]int{0: math.MaxInt, 1: 4}, []int{4}},
		{map[int]int{0: 4, 1: math.MaxInt}, nil},
		{map[int]int{0: math.MinInt, 4: 2}, []int{5}},
	} {
		d := open(t, "abc")
		for i := range 9 {
			if n, set := c.set[i]; set {
				d.Fail(n)
			}
			want := api.OK
			if slices.Contains(c.want, i) {
				want = api.ErrFailed
			}
			if e := d.Sync(0); e != want {
				t.Errorf("%v: call %d: %v", c.set, i, e)
			}
		}
	}
	d := open(t, "abc")
	d.Fail(5)
	d.Fail(1)
	wantErr(t, "the later", d.Sync(0), api.ErrFailed)
	d.Fail(1)
	d.Fail(2)
	wantErr(t, "not the former", d.Sync(0), api.OK)
	wantErr(t, "the later", d.Sync(0), api.ErrFailed)
}

// P9.3
func TestWhereBothMeetThePowerGoes(t *testing.T) {
	for n := 1; n < 4; n++ {
		for _, first := range []bool{true, false} {
			d := open(t, "abc")
			if first {
				d.Off(n)
			}
			d.Fail(n)
			if !first {
				d.Off(n)
			}
			for range n - 1 {
				wantErr(t, "before", d.Sync(0), api.OK)
			}
			wantErr(t, "both", d.Sync(0), api.ErrPower)
			wantErr(t, "behind", d.Sync(0), api.ErrPower)
		}
	}
	d := open(t, "abc")
	d.Off(3)
	d.Fail(2)
	wantErr(t, "first", d.Sync(0), api.OK)
	wantErr(t, "second", d.Sync(0), api.ErrFailed)
	wantErr(t, "third: what failed counts, too", d.Sync(0), api.ErrPower)
	d = open(t, "abc")
	d.Off(2)
	d.Fail(3)
	wantErr(t, "first", d.Sync(0), api.OK)
	wantErr(t, "second", d.Sync(0), api.ErrPower)
	wantErr(t, "third", d.Sync(0), api.ErrPower)
	d = open(t, "abc")
	d.Fail(1)
	d.Off(0)
	wantErr(t, "off already", d.Sync(0), api.ErrPower)
}

// P9.4
func TestCrashOfOnePiece(t *testing.T) {
	for pick, want := range map[int]string{
		math.MinInt: "abcdef", -2: "abcdef", -1: "abcdef", 0: "abWXYf", 1: "abcdef", 2: "abcdef",
		3: "abWdef", 4: "abWXef", 5: "abWXYf", 6: "abWXYf", 7: "abWXYf", 1 << 40: "abWXYf", math.MaxInt: "abWXYf",
	} {
		d := open(t, "abcdef")
		write(t, d, 0, 2, "WXY")
		wantCrash(t, d, []int{pick}, want)
		wantCrash(t, d, []int{pick, 0, 0}, want)
	}
}

// P9.4
func TestCrashOfAPieceBehindTheEnd(t *testing.T) {
	for pick, want := range map[int]string{
		-1: "ab", 0: "ab" + zeros(2) + "XYZ", 1: "ab", 2: "ab", 3: "ab" + zeros(2) + "X", 4: "ab" + zeros(2) + "XY", 5: "ab" + zeros(2) + "XYZ", 6: "ab" + zeros(2) + "XYZ",
	} {
		d := open(t, "ab")
		write(t, d, 0, 2, "cd")
		write(t, d, 0, 4, "XYZ")
		wantCrash(t, d, []int{1, pick}, want)
	}
	d := open(t, "ab")
	write(t, d, 0, 2, "cd")
	write(t, d, 0, 4, "ef")
	write(t, d, 0, 3, "Z")
	wantCrash(t, d, []int{1, 0, 1}, "ab"+zeros(2)+"ef")
	wantCrash(t, d, []int{1, 0, 0}, "ab\x00Zef")
	wantCrash(t, d, []int{1, 1, 0}, "ab\x00Z")
	wantCrash(t, d, []int{3, 0, 1}, "abc\x00ef")
}

// P9.4
func TestCrashHasNoughtsWhereACutTookWhatWas(t *testing.T) {
	d := open(t, "abcdefgh")
	cut(t, d, 0, 2)
	write(t, d, 0, 2, "34")
	write(t, d, 0, 4, "56")
	wantCrash(t, d, []int{0, 1, 0}, "ab"+zeros(2)+"56")
	wantCrash(t, d, []int{1, 1, 0}, "abcd56gh")
	wantCrash(t, d, []int{0, 0, 1}, "ab34")
	wantCrash(t, d, []int{0, 3, 3}, "ab3\x005")
	d = open(t, "abcdefgh")
	cut(t, d, 0, 2)
	save(t, d, 0)
	write(t, d, 0, 2, "34")
	write(t, d, 0, 4, "56")
	wantCrash(t, d, []int{1, 0}, "ab"+zeros(2)+"56")
}

// P9.4
func TestCrashOfACut(t *testing.T) {
	for pick, want := range map[int]string{math.MinInt: "abc", -1: "abc", 0: "a", 1: "abc", 2: "abc", 3: "abc", 9: "abc", math.MaxInt: "abc"} {
		d := open(t, "abc")
		cut(t, d, 0, 1)
		wantCrash(t, d, []int{pick}, want)
	}
}

// P9.4
func TestCrashOfACutToTheLengthIsAChange(t *testing.T) {
	d := open(t, "abc")
	cut(t, d, 0, 3)
	write(t, d, 0, 0, "X")
	wantCrash(t, d, []int{0}, "abc")
	wantCrash(t, d, []int{0, 0}, "Xbc")
	d = open(t, "abc")
	cut(t, d, 0, 1)
	cut(t, d, 0, 1)
	wantCrash(t, d, []int{1, 0}, "a")
}

// P9.4
func TestCrashOfACutOfWhatIsShorter(t *testing.T) {
	d := open(t, "abc")
	write(t, d, 0, 3, "def")
	cut(t, d, 0, 5)
	wantCrash(t, d, []int{0, 0}, "abcde")
	wantCrash(t, d, []int{1, 0}, "abc")
	wantCrash(t, d, []int{4, 0}, "abcde")
	wantCrash(t, d, []int{3, 0}, "abcd")
	d = open(t, "abc")
	write(t, d, 0, 3, "def")
	cut(t, d, 0, 4)
	write(t, d, 0, 4, "Z")
	cut(t, d, 0, 3)
	wantCrash(t, d, []int{1, 0, 0, 1}, "abc\x00Z")
	wantCrash(t, d, []int{1, 0, 1, 0}, "abc")
	wantCrash(t, d, []int{0, 1, 1, 1}, "abcdef")
	wantCrash(t, d, []int{0, 0, 1, 1}, "abcd")
}

// P9.4
func TestCrashGoesFileByFile(t *testing.T) {
	d := open(t, "a", "b", "c")
	write(t, d, 7, 0, "7")
	write(t, d, 2, 0, "C")
	write(t, d, 0, 0, "A")
	write(t, d, 2, 1, "D")
	write(t, d, 0, 1, "B")
	cut(t, d, 2, 1)
	for _, c := range []struct {
		picks []int
		want  []string
	}{
		{nil, []string{"a", "b", "c"}},
		{[]int{0}, []string{"A", "b", "c"}},
		{[]int{1, 0}, []string{"aB", "b", "c"}},
		{[]int{1, 1, 0}, []string{"a", "b", "C"}},
		{[]int{1, 1, 1, 0}, []string{"a", "b", "cD"}},
		{[]int{1, 1, 1, 0, 0}, []string{"a", "b", "c"}},
		{[]int{1, 1, 1, 1, 1, 0}, []string{"a", "b", "c", "", "", "", "", "7"}},
		{[]int{0, 0, 0, 0, 1, 3}, []string{"AB", "b", "CD", "", "", "", "", "7"}},
		{[]int{-1, 0, -7, 0, 2, 2}, []string{"aB", "b", "cD"}},
		{[]int{0, 0, 0, 0, 0, 0, 0, 0}, []string{"AB", "b", "C", "", "", "", "", "7"}},
	} {
		wantCrash(t, d, c.picks, c.want...)
	}
}

// P9.4
func TestCrashBehindASyncOfOneFileAlone(t *testing.T) {
	d := open(t, "abc", "def")
	write(t, d, 0, 0, "X")
	write(t, d, 1, 0, "Y")
	save(t, d, 1)
	write(t, d, 1, 1, "Z")
	wantCrash(t, d, nil, "abc", "Yef")
	wantCrash(t, d, []int{0}, "Xbc", "Yef")
	wantCrash(t, d, []int{1, 0}, "abc", "YZf")
	wantCrash(t, d, []int{0, 0}, "Xbc", "YZf")
}

// P9.4: example 1
func TestCrashTellsWhatWasSynced(t *testing.T) {
	d := open(t)
	write(t, d, 0, 0, "first")
	save(t, d, 0)
	write(t, d, 0, 0, "later")
	wantCrash(t, d, nil, "first")
}

// P9.3, P9.4
func TestCrashBehindOffTellsWhatWasDoneAheadOfIt(t *testing.T) {
	d := open(t, "abc")
	d.Off(3)
	write(t, d, 0, 0, "X")
	wantErr(t, "far off", d.Write(0, 9, nil), api.ErrForm)
	wantErr(t, "gone", d.Write(0, 1, []byte("Y")), api.ErrPower)
	wantErr(t, "gone", d.Sync(0), api.ErrPower)
	wantCrash(t, d, []int{0, 0}, "Xbc")
	wantCrash(t, d, nil, "abc")
}

// P9.4, R2
func TestCrashTellsNewMemory(t *testing.T) {
	d := open(t, "abc", "def")
	write(t, d, 0, 3, strings.Repeat("x", 100))
	cut(t, d, 1, 1)
	for _, picks := range [][]int{nil, {0, 0, 0}, {0, 1, 0}, {10, 0, 0}} {
		same := slices.Clone(picks)
		one, two, old := d.Crash(picks), d.Crash(picks), d.Crash(picks)
		for _, row := range one {
			_ = append(row, "####"...)
			for i := range row[:cap(row)] {
				row[:cap(row)][i] = '#'
			}
		}
		three := d.Crash(picks)
		for f := range api.Files {
			if !slices.Equal(two[f], old[f]) || !slices.Equal(three[f], old[f]) {
				t.Errorf("%v: file %d: %q, %q, not %q", picks, f, two[f], three[f], old[f])
			}
		}
		if !slices.Equal(picks, same) {
			t.Errorf("%v changed to %v", same, picks)
		}
	}
}

// P9.4
func TestWhatIsKeptMakesANewDisk(t *testing.T) {
	d := open(t, "abc")
	write(t, d, 0, 3, strings.Repeat("x", 100))
	kept := d.Crash([]int{0, 1})
	again, e := New(kept)
	if e != api.OK {
		t.Fatal(e)
	}
	want := "abc" + strings.Repeat("x", 61)
	wantFile(t, again, 0, want)
	write(t, again, 0, 0, "Y")
	wantCrash(t, again, nil, want)
	if string(kept[0]) != want {
		t.Errorf("%q", kept[0])
	}
}

// P9.4: a whole file, all of its pieces.
func TestCrashOfTheLongestFile(t *testing.T) {
	d := open(t)
	write(t, d, 7, 0, strings.Repeat("x", api.MaxFile))
	pieces := api.MaxFile / api.Sector
	l := d.Crash(append(slices.Repeat([]int{1}, pieces-1), 0))
	if string(l[7]) != zeros(api.MaxFile-64)+strings.Repeat("x", 64) {
		t.Errorf("the last piece: %d bytes", len(l[7]))
	}
	l = d.Crash(slices.Repeat([]int{0}, pieces))
	if string(l[7]) != strings.Repeat("x", api.MaxFile) {
		t.Errorf("all pieces: %d bytes", len(l[7]))
	}
	l = d.Crash(slices.Repeat([]int{0}, pieces-1))
	if string(l[7]) != strings.Repeat("x", api.MaxFile-64) {
		t.Errorf("all but the last: %d bytes", len(l[7]))
	}
}

// somePicks are any that may come.
func somePicks(r *rand.Rand) []int {
	picks := make([]int, r.Intn(12))
	for i := range picks {
		switch r.Intn(5) {
		case 0:
			picks[i] = r.Intn(80) - 5
		case 1:
			picks[i] = []int{math.MinInt, math.MaxInt, -1, 66, 67}[r.Intn(5)]
		default:
			picks[i] = r.Intn(5)
		}
	}
	return picks
}

// P9.5
func TestWhatWasSyncedIsInEveryCrash(t *testing.T) {
	r := rand.New(rand.NewSource(95))
	for range 300 {
		d := open(t, "abc", "def", "ghi")
		for range 5 {
			write(t, d, r.Intn(3), r.Intn(4), strings.Repeat("x", r.Intn(150)))
		}
		f := r.Intn(3)
		want := d.all(t, f)
		save(t, d, f)
		for range 5 {
			g := (f + 1 + r.Intn(2)) % 3
			write(t, d, g, r.Intn(4), strings.Repeat("y", r.Intn(150)))
			cut(t, d, g, r.Intn(2))
			write(t, d, g, 0, "again")
			d.Write(f, len(want)+1, []byte("no"))
			d.Cut(f, len(want)+1)
			d.Fail(1)
			wantErr(t, "failed", d.Write(f, 0, []byte("no")), api.ErrFailed)
		}
		for range 5 {
			if l := d.Crash(somePicks(r)); string(l[f]) != want {
				t.Fatalf("%q, not %q", l[f], want)
			}
		}
	}
}

// P9.5: of a file that was changed, what was synced and lies beside the changes.
func TestWhatLiesBesideTheChangesIsInEveryCrash(t *testing.T) {
	r := rand.New(rand.NewSource(96))
	for range 300 {
		d := open(t)
		write(t, d, 0, 0, strings.Repeat("s", 300))
		save(t, d, 0)
		at, n := 1+r.Intn(150), 1+r.Intn(140)
		write(t, d, 0, at, strings.Repeat("x", n))
		for range 5 {
			got := string(d.Crash(somePicks(r))[0])
			if len(got) != 300 || strings.Trim(got[:at]+got[at+n:], "s") != "" || strings.Trim(got[at:at+n], "sx") != "" {
				t.Fatalf("%d, %d: %q", at, n, got)
			}
		}
	}
}

// script does the same to both, and holds each answer against the other.
func script(t *testing.T, r *rand.Rand, d *Disk, p *plainDisk) {
	t.Helper()
	for range 40 {
		f := r.Intn(4)
		if r.Intn(12) == 0 {
			f = []int{-1, api.Files, api.Files - 1}[r.Intn(3)]
		}
		long := 0
		if f >= 0 && f < api.Files {
			long = len(p.now[f])
		}
		at := r.Intn(long+3) - 1
		var got, want api.Errno
		switch r.Intn(9) {
		case 0, 1, 2, 3:
			b := make([]byte, r.Intn(4)*r.Intn(50))
			r.Read(b)
			got, want = d.Write(f, at, b), p.write(f, at, string(b))
		case 4:
			got, want = d.Cut(f, at), p.cut(f, at)
		case 5:
			got, want = d.Sync(f), p.sync(f)
		case 6:
			n := r.Intn(40) - 1
			if n < 1 && r.Intn(10) > 0 {
				n = 30
			}
			d.Off(n)
			p.setOff(n)
		case 7:
			n := r.Intn(8) - 1
			d.Fail(n)
			p.setFail(n)
		case 8:
			n := r.Intn(long+3) - 1
			b, e := d.Read(f, at, n)
			s, want := p.read(f, at, n)
			if string(b) != s || e != want {
				t.Fatalf("Read(%d, %d, %d): %q, %v, not %q, %v", f, at, n, b, e, s, want)
			}
		}
		if got != want {
			t.Fatalf("%v, not %v", got, want)
		}
		n, e := d.Size(f)
		if m, want := p.size(f); n != m || e != want {
			t.Fatalf("Size(%d): %d, %v, not %d, %v", f, n, e, m, want)
		}
	}
}

// P9.1 to P9.5
func TestScriptsAgainstTheChaptersText(t *testing.T) {
	r := rand.New(rand.NewSource(9))
	for range 3000 {
		p := &plainDisk{}
		l := make([][]byte, api.Files)
		for f := range 4 {
			l[f] = make([]byte, r.Intn(100))
			r.Read(l[f])
			p.now[f], p.safe[f] = string(l[f]), string(l[f])
		}
		d, _ := New(l)
		script(t, r, d, p)
		for range 6 {
			picks := somePicks(r)
			got, want := d.Crash(picks), p.crash(picks)
			for f := range api.Files {
				if string(got[f]) != want[f] {
					t.Fatalf("%v: file %d: %q, not %q", picks, f, got[f], want[f])
				}
			}
		}
		wantErr(t, "behind", d.Sync(0), api.ErrPower)
	}
}
