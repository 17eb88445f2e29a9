package item

import (
	"math/big"
	"reflect"
	"strings"
	"testing"

	"tarn/api"
)

func text(s string) api.Item { return api.Item{Text: s} }

func list(l ...api.Item) api.Item { return api.Item{List: true, Items: l} }

// within is it inside n lists, one within another.
func within(n int, it api.Item) api.Item {
	for range n {
		it = list(it)
	}
	return it
}

func same(a, b api.Item) bool {
	if a.List != b.List || a.Text != b.Text || len(a.Items) != len(b.Items) {
		return false
	}
	for i, x := range a.Items {
		if !same(x, b.Items[i]) {
			return false
		}
	}
	return true
}

func isZero(it api.Item) bool {
	return reflect.DeepEqual(it, api.Item{})
}

func letters(n int) string {
	return strings.Repeat("x", n)
}

// slowBytes is P4.1's text for an item whose bytes nothing limits.
func slowBytes(it api.Item) string {
	short, long, body := 128, 183, it.Text
	if it.List {
		short, long = 192, 247
		var all strings.Builder
		for _, x := range it.Items {
			all.WriteString(slowBytes(x))
		}
		body = all.String()
	} else if len(body) == 1 && body[0] < 128 {
		return body
	}
	if len(body) <= 55 {
		return string([]byte{byte(short + len(body))}) + body
	}
	length := string(big.NewInt(int64(len(body))).Bytes())
	return string([]byte{byte(long + len(length))}) + length + body
}

// slowTake is P4.2's text, with s within so many lists.
func slowTake(s string, lists int) (api.Item, int, api.Errno) {
	if len(s) == 0 {
		return api.Item{}, 0, api.ErrCut
	}
	first := int(s[0])
	if first < 128 {
		return text(s[:1]), 1, api.OK
	}
	own, said := 0, 0
	switch {
	case first > 247:
		own = first - 247
	case first >= 192:
		said = first - 192
	case first > 183:
		own = first - 183
	default:
		said = first - 128
	}
	if len(s) < 1+own {
		return api.Item{}, 0, api.ErrCut
	}
	if own > 0 {
		length := new(big.Int).SetBytes([]byte(s[1 : 1+own]))
		if s[1] == 0 || length.Cmp(big.NewInt(56)) < 0 || length.Cmp(big.NewInt(int64(api.MaxBytes-1-own))) > 0 {
			return api.Item{}, 0, api.ErrForm
		}
		said = int(length.Int64())
	}
	end := 1 + own + said
	if len(s) < end {
		return api.Item{}, 0, api.ErrCut
	}
	body := s[1+own : end]
	if first < 192 {
		if len(body) == 1 && body[0] < 128 {
			return api.Item{}, 0, api.ErrForm
		}
		return text(body), end, api.OK
	}
	if lists == api.MaxDeep {
		return api.Item{}, 0, api.ErrForm
	}
	it := list()
	for len(body) > 0 {
		x, k, e := slowTake(body, lists+1)
		if e != api.OK {
			return api.Item{}, 0, api.ErrForm
		}
		it.Items = append(it.Items, x)
		body = body[k:]
	}
	return it, end, api.OK
}

// good tells items that may be, at all the edges.
func good() []api.Item {
	all := []api.Item{
		list(), list(text("a"), text("")), list(list(), text("\x80"), list(list(text("b")), text(letters(60)))),
		within(api.MaxDeep, text("a")), within(api.MaxDeep, text("")), within(api.MaxDeep, text(letters(56))), within(api.MaxDeep-1, list()),
		list(within(api.MaxDeep-1, text("a")), within(api.MaxDeep-2, list()), text("b"), within(api.MaxDeep-1, text("c"))),
		text(letters(api.MaxBytes - 3)), list(text(letters(api.MaxBytes - 6))),
		{List: true, Items: []api.Item{}}, {Text: "a", Items: []api.Item{}},
	}
	for _, n := range []int{0, 1, 2, 3, 54, 55, 56, 57, 58, 253, 254, 255, 256, 257, 4096, api.MaxBytes - 5, api.MaxBytes - 4} {
		all = append(all, text(letters(n)))
	}
	for _, n := range []int{0, 1, 2, 3, 52, 53, 54, 55, 56, 57, 252, 253, 254, 255, 256, api.MaxBytes - 10, api.MaxBytes - 9} {
		all = append(all, list(text(letters(n))), list(text(letters(n)), list(), text("\xff")))
	}
	for _, n := range []int{1, 54, 55, 56, 57, 255, 256, api.MaxBytes - 4, api.MaxBytes - 3} {
		all = append(all, many(n, text("a")), many(n, text("")), many(n, list()))
	}
	for n := range 256 {
		all = append(all, text(string([]byte{byte(n)})), text(string([]byte{byte(n), 0})))
	}
	return append(all, mixed(300)...)
}

// many is a list of n times the same.
func many(n int, it api.Item) api.Item {
	l := make([]api.Item, n)
	for i := range l {
		l[i] = it
	}
	return list(l...)
}

// mixed tells n items of all shapes, the same ones in each run.
func mixed(n int) []api.Item {
	seed := uint64(20)
	next := func(below int) int {
		seed ^= seed << 13
		seed ^= seed >> 7
		seed ^= seed << 17
		return int(seed % uint64(below))
	}
	var grow func(deep int) api.Item
	grow = func(deep int) api.Item {
		if deep == api.MaxDeep || next(3) == 0 {
			b := make([]byte, next(1+next(80)))
			for i := range b {
				b[i] = byte(next(256))
			}
			return text(string(b))
		}
		it := list()
		for range next(4) {
			it.Items = append(it.Items, grow(deep+1))
		}
		return it
	}
	var all []api.Item
	for range n {
		all = append(all, grow(0))
	}
	return all
}

// mixedUp tells items that are a text and a list at once, or have one inside that is.
func mixedUp() []api.Item {
	var all []api.Item
	for _, it := range []api.Item{
		{Text: "a", Items: []api.Item{text("b")}}, {Items: []api.Item{text("")}},
		{List: true, Text: "a"}, {List: true, Text: "\x00", Items: []api.Item{text("b")}},
	} {
		all = append(all, it, list(it), list(text("a"), list(it, text("b"))), within(api.MaxDeep-1, it))
	}
	return all
}

// beyond tells items that are well made, but too deep or too long.
func beyond() []api.Item {
	half := text(letters(api.MaxBytes / 2))
	return []api.Item{
		within(api.MaxDeep, list()), within(api.MaxDeep+1, text("a")), within(1000, text("")),
		list(text("a"), within(api.MaxDeep, text("b")), text("c")),
		text(letters(api.MaxBytes - 2)), text(letters(api.MaxBytes)), text(letters(api.MaxBytes + 1)), text(letters(1 << 24)),
		list(text(letters(api.MaxBytes - 5))), list(text(letters(api.MaxBytes - 3))), list(text(letters(api.MaxBytes - 2))),
		list(text(letters(api.MaxBytes-8)), list(), text("\xff")),
		list(half, half), list(list(half), list(half)), list(half, text(letters(api.MaxBytes/2-8))),
		many(api.MaxBytes-2, text("a")), many(api.MaxBytes-2, text("")), many(api.MaxBytes-2, list()), many(api.MaxBytes, list()),
	}
}

func TestBytesAreTheChaptersText(t *testing.T) { // P4.1
	for i, it := range good() {
		if s, e := Bytes(it); s != slowBytes(it) || e != api.OK {
			t.Errorf("%d: %.40x, %d; want %.40x", i, s, e, slowBytes(it))
		}
		if e := Check(it); e != api.OK {
			t.Errorf("%d: %d", i, e)
		}
	}
}

func TestBytesOfSomeForms(t *testing.T) { // P4.1
	for _, c := range []struct {
		it   api.Item
		want string
	}{
		{text(""), "\x80"}, {text("\x00"), "\x00"}, {text("\x7f"), "\x7f"}, {text("\x80"), "\x81\x80"}, {text("\xff"), "\x81\xff"},
		{text("ab"), "\x82ab"}, {text("\x00\x00"), "\x82\x00\x00"},
		{text(letters(55)), "\xb7" + letters(55)}, {text(letters(56)), "\xb8\x38" + letters(56)},
		{text(letters(255)), "\xb8\xff" + letters(255)}, {text(letters(256)), "\xb9\x01\x00" + letters(256)},
		{list(), "\xc0"}, {list(text("a"), text("")), "\xc2a\x80"}, {list(list(list()), text("\x80")), "\xc4\xc1\xc0\x81\x80"},
		{list(text(letters(54))), "\xf7\xb6" + letters(54)}, {list(text(letters(55))), "\xf8\x38\xb7" + letters(55)},
		{many(255, list()), "\xf8\xff" + strings.Repeat("\xc0", 255)}, {many(256, text("")), "\xf9\x01\x00" + strings.Repeat("\x80", 256)},
		{text(letters(api.MaxBytes - 3)), "\xb9\xff\xfd" + letters(api.MaxBytes-3)},
		{many(api.MaxBytes-3, text("a")), "\xf9\xff\xfd" + strings.Repeat("a", api.MaxBytes-3)},
	} {
		if s, e := Bytes(c.it); s != c.want || e != api.OK {
			t.Errorf("%.40x, %d; want %.40x", s, e, c.want)
		}
	}
}

func TestWhatMayNotBe(t *testing.T) { // P4.1
	for i, it := range append(append(mixedUp(), beyond()...), within(1<<16-1, text(""))) {
		if e := Check(it); e != api.ErrForm {
			t.Errorf("%d: Check tells %d", i, e)
		}
		if s, e := Bytes(it); s != "" || e != api.ErrForm {
			t.Errorf("%d: Bytes tells %.40x, %d", i, s, e)
		}
	}
}

// A list that shares its Items with others is small to hand in, and without end, or nearly so, to walk.
func TestCheckEndsWhereItemsAreShared(t *testing.T) { // P4.1, R1
	wide := list()
	for range api.MaxDeep - 1 {
		wide = many(100, wide)
	}
	empty := many(100, list())
	round := make([]api.Item, 2)
	round[0], round[1] = list(round...), list(round...)
	for i, it := range []api.Item{wide, list(text("a"), wide), many(1000, many(1000, empty)), round[0], list(round...)} {
		s, e := Bytes(it)
		if s != "" || e != api.ErrForm || Check(it) != api.ErrForm {
			t.Errorf("%d: %.40x, %d", i, s, e)
		}
	}
	twice := list(empty, empty, list(empty))
	if s, e := Bytes(twice); s != slowBytes(twice) || e != api.OK {
		t.Errorf("%.40x, %d", s, e)
	}
}

func TestWhatIsHandedInStays(t *testing.T) { // R2
	it, before := list(text("a"), list(text("b"), text(""))), list(text("a"), list(text("b"), text("")))
	spare := append(make([]api.Item, 0, 8), it.Items...)
	it.Items = spare
	Check(it)
	Bytes(it)
	for x := range Each(it) {
		x.Text += "more"
	}
	if !same(it, before) || !isZero(spare[:3][2]) {
		t.Errorf("%v", it)
	}
}

func TestTakeTellsWhatItBeginsWith(t *testing.T) { // P4.2
	for i, it := range good() {
		s := slowBytes(it)
		for _, more := range []string{"", "a", "\x00", "\x81", "\xff\xff", letters(70), letters(api.MaxBytes)} {
			x, k, e := Take(s + more)
			if !same(x, it) || k != len(s) || e != api.OK {
				t.Errorf("%d, %.20x behind it: %d, %d", i, more, k, e)
			}
			x, e = Parse(s + more)
			if more == "" && (!same(x, it) || e != api.OK) || more != "" && (!isZero(x) || e != api.ErrForm) {
				t.Errorf("%d, %.20x behind it: Parse tells %d", i, more, e)
			}
		}
	}
}

func TestTakeTellsWhereItIsCut(t *testing.T) { // P4.2
	for i, it := range good() {
		s := slowBytes(it)
		for k := range min(len(s), 300) {
			isCut(t, i, s[:k])
		}
		isCut(t, i, s[:len(s)-1])
	}
}

func isCut(t *testing.T, i int, s string) {
	t.Helper()
	if x, k, e := Take(s); !isZero(x) || k != 0 || e != api.ErrCut {
		t.Errorf("%d, the first %d: %v, %d, %d", i, len(s), x, k, e)
	}
	if x, e := Parse(s); !isZero(x) || e != api.ErrCut {
		t.Errorf("%d, the first %d: Parse tells %v, %d", i, len(s), x, e)
	}
}

type takeCase struct {
	s string
	e api.Errno
}

// takesFault holds both calls against faults; what is OK here is read to its end.
func takesFault(t *testing.T, cases []takeCase) {
	t.Helper()
	for _, c := range cases {
		x, k, e := Take(c.s)
		if e != c.e || e != api.OK && (!isZero(x) || k != 0) || e == api.OK && k != len(c.s) {
			t.Errorf("Take(%.40x): %d, %d; want %d", c.s, k, e, c.e)
		}
		if x, e := Parse(c.s); e != c.e || e != api.OK && !isZero(x) {
			t.Errorf("Parse(%.40x): %d; want %d", c.s, e, c.e)
		}
	}
}

func TestTakeOfLengths(t *testing.T) { // P4.2
	takesFault(t, []takeCase{
		{"", api.ErrCut},
		{"\xb8", api.ErrCut}, {"\xb9\x38", api.ErrCut}, {"\xb9\x00", api.ErrCut}, {"\xbf", api.ErrCut}, {"\xbf\x00\x00\x00\x00\x00\x00\x00", api.ErrCut},
		{"\xf8", api.ErrCut}, {"\xf9\x00", api.ErrCut}, {"\xff\xff\xff\xff\xff\xff\xff\xff", api.ErrCut},
		{"\xb8\x00", api.ErrForm}, {"\xb9\x00\x38", api.ErrForm}, {"\xb9\x00\xff" + letters(255), api.ErrForm}, {"\xbf\x00\x00\x00\x00\x00\x00\x00\x38" + letters(56), api.ErrForm},
		{"\xf8\x00", api.ErrForm}, {"\xf9\x00\x38" + letters(56), api.ErrForm},
		{"\xb8\x01", api.ErrForm}, {"\xb8\x01\xff", api.ErrForm}, {"\xb8\x37", api.ErrForm}, {"\xb8\x37" + letters(55), api.ErrForm},
		{"\xf8\x01", api.ErrForm}, {"\xf8\x37", api.ErrForm}, {"\xf8\x37" + letters(55), api.ErrForm},
		{"\xb8\x38", api.ErrCut}, {"\xb8\x38" + letters(55), api.ErrCut}, {"\xb8\x38" + letters(56), api.OK},
		{"\xf8\x38", api.ErrCut}, {"\xf8\x38" + letters(55), api.ErrCut}, {"\xf8\x38" + letters(56), api.OK},
		{"\xb7" + letters(54), api.ErrCut}, {"\xb7" + letters(55), api.OK}, {"\xf7" + letters(54), api.ErrCut}, {"\xf7" + letters(55), api.OK},
	})
}

func TestTakeOfTooMuch(t *testing.T) { // P4.2
	takesFault(t, []takeCase{
		{"\xb9\xff\xfd", api.ErrCut}, {"\xb9\xff\xfd" + letters(api.MaxBytes-4), api.ErrCut}, {"\xb9\xff\xfd" + letters(api.MaxBytes-3), api.OK},
		{"\xb9\xff\xfe", api.ErrForm}, {"\xb9\xff\xfe" + letters(api.MaxBytes-2), api.ErrForm}, {"\xb9\xff\xff", api.ErrForm},
		{"\xf9\xff\xfd", api.ErrCut}, {"\xf9\xff\xfd" + letters(api.MaxBytes-3), api.OK},
		{"\xf9\xff\xfe", api.ErrForm}, {"\xf9\xff\xfe" + letters(api.MaxBytes-2), api.ErrForm},
		{"\xba\x01\x00\x00", api.ErrForm}, {"\xba\x01\x00\x00" + letters(api.MaxBytes), api.ErrForm}, {"\xfa\x01\x00\x01", api.ErrForm},
		{"\xbb\x80\x00\x00\x00", api.ErrForm}, {"\xbc\x01\x00\x00\x00\x38" + letters(56), api.ErrForm},
		{"\xbf\x80\x00\x00\x00\x00\x00\x00\x00", api.ErrForm}, {"\xbf\xff\xff\xff\xff\xff\xff\xff\xff", api.ErrForm}, {"\xff\xff\xff\xff\xff\xff\xff\xff\xf7", api.ErrForm},
	})
}

func TestTakeOfOneByte(t *testing.T) { // P4.2
	takesFault(t, []takeCase{{"\x81", api.ErrCut}, {"\x80", api.OK}, {"\xc0", api.OK}, {"\xc1\x00", api.OK}})
	for n := range 256 {
		c := takeCase{string([]byte{129, byte(n)}), api.OK}
		if n < 128 {
			c.e = api.ErrForm
		}
		takesFault(t, []takeCase{c})
	}
}

func TestTakeOfFaultsWithinLists(t *testing.T) { // P4.2
	takesFault(t, []takeCase{
		{"\xc1\x81", api.ErrForm}, {"\xc1\xc1", api.ErrForm}, {"\xc1\xb8", api.ErrForm}, {"\xc2\x82a", api.ErrForm}, {"\xc3a\xc2\xc0", api.ErrForm},
		{"\xc2\x81\x01", api.ErrForm}, {"\xc3\xc2\x81\x01", api.ErrForm}, {"\xc4\xc0\xc2\x81\x7f", api.ErrForm},
		{"\xc1\x81\xff", api.ErrForm}, {"\xc2\xc2\xc0\xc0", api.ErrForm},
		{"\xc3\xb8\x37a", api.ErrForm}, {"\xc2\xb8\x00", api.ErrForm}, {"\xc3\xb9\xff\xff", api.ErrForm},
		{"\xc3\x81\x01", api.ErrCut}, {"\xc2\x81", api.ErrCut}, {"\xc3\xc2\xc1", api.ErrCut}, {"\xf8\x38\x81\x01", api.ErrCut},
		{"\xc3\xc2\xc1\xc0", api.OK}, {"\xc4\xc1\xc0\x81\x80", api.OK},
	})
	// Within a list's bytes the rest of s is no more to be seen, however long it is.
	for _, more := range []string{"", "a", "\x80", letters(100)} {
		if x, k, e := Take("\xc1\x81" + "\xff" + more); !isZero(x) || k != 0 || e != api.ErrForm {
			t.Errorf("%v, %d, %d", x, k, e)
		}
	}
}

func TestTakeOfListsWithinLists(t *testing.T) { // P4.2
	takesFault(t, []takeCase{
		{slowBytes(within(api.MaxDeep-1, list())), api.OK}, {slowBytes(within(api.MaxDeep, list())), api.ErrForm},
		{slowBytes(within(api.MaxDeep, text("a"))), api.OK}, {slowBytes(within(api.MaxDeep+1, text("a"))), api.ErrForm},
		{slowBytes(within(api.MaxDeep, text(letters(200)))), api.OK}, {slowBytes(within(api.MaxDeep+1, text(letters(200)))), api.ErrForm},
		{slowBytes(list(text("a"), within(api.MaxDeep-2, list()), within(api.MaxDeep-1, text("b")))), api.OK},
		{slowBytes(list(text("a"), within(api.MaxDeep-1, list()), text("b"))), api.ErrForm},
		{slowBytes(within(1000, text("a"))), api.ErrForm}, {slowBytes(within(10000, list())), api.ErrForm},
	})
	s := slowBytes(within(api.MaxDeep, list()))
	takesFault(t, []takeCase{{s[:len(s)-1], api.ErrCut}, {s[1:], api.OK}})
}

func TestTakeIsTheChaptersText(t *testing.T) { // P4.2
	hold := func(s string) {
		x, k, e := Take(s)
		y, n, f := slowTake(s, 0)
		if !same(x, y) || k != n || e != f {
			t.Errorf("Take(%.40x): %v, %d, %d; want %v, %d, %d", s, x, k, e, y, n, f)
		}
	}
	eachShort(hold)
	for _, it := range mixed(300) {
		s := slowBytes(it)
		for i := range min(len(s), 100) {
			for _, b := range []byte{0, 1, 0x7f, 0x80, 0x81, 0xb7, 0xb8, 0xb9, 0xc0, 0xc1, 0xf7, 0xf8, 0xff, s[i] - 1, s[i] + 1} {
				hold(s[:i] + string([]byte{b}) + s[i+1:])
			}
			hold(s[:i] + s[i+1:])
			hold(s[i:])
		}
	}
}

// eachShort calls f with all texts of up to two bytes, and with those of up to five that edges of heads make.
func eachShort(f func(s string)) {
	for a := range 256 {
		f(string([]byte{byte(a)}))
		for b := range 256 {
			f(string([]byte{byte(a), byte(b)}))
		}
	}
	edges := []byte{0, 0x37, 0x38, 0x7f, 0x80, 0x81, 0x82, 0xb8, 0xb9, 0xc0, 0xc1, 0xc2, 0xc3, 0xf8}
	var grow func(s string)
	grow = func(s string) {
		f(s)
		if len(s) < 5 {
			for _, b := range edges {
				grow(s + string([]byte{b}))
			}
		}
	}
	grow("")
}

func TestWhatIsTakenIsNew(t *testing.T) { // P4.2, R2
	s := slowBytes(list(list(text("a"), text("b")), list(text("c")), list()))
	first, _, _ := Take(s)
	again, _, _ := Take(s)
	want, _, _ := slowTake(s, 0)
	first.Items[0].Items = append(first.Items[0].Items, text("more"))
	first.Items[0].Items[0] = text("changed")
	if !same(first.Items[1], want.Items[1]) || !same(first.Items[2], want.Items[2]) {
		t.Errorf("%v", first)
	}
	first.Items[1] = text("changed")
	if !same(again, want) {
		t.Errorf("%v", again)
	}
}

func told(it api.Item) []api.Item {
	var all []api.Item
	for x := range Each(it) {
		all = append(all, x)
	}
	return all
}

func TestEachTellsTheItemsInOrder(t *testing.T) { // P4.3
	for i, it := range append(good(), api.Item{List: true, Text: "a", Items: []api.Item{text("b")}}, within(1000, text("a"))) {
		want := it.Items
		if !same(list(told(it)...), list(want...)) {
			t.Errorf("%d: %v", i, told(it))
		}
	}
}

func TestEachOfATextTellsNone(t *testing.T) { // P4.3
	for _, it := range []api.Item{{}, text("a"), text(letters(100)), {Items: []api.Item{text("a")}}, {Text: "a", Items: []api.Item{list()}}} {
		if l := told(it); len(l) != 0 {
			t.Errorf("%v: %v", it, l)
		}
	}
}

func TestEachIsLeftEarly(t *testing.T) { // P4.3
	it := list(text("a"), list(text("b")), text("c"), text("d"))
	seq := Each(it)
	for stop := range 5 {
		n := 0
		seq(func(x api.Item) bool {
			if n > stop || !same(x, it.Items[n]) {
				t.Errorf("%d tells %v behind its end %d", n, x, stop)
			}
			n++
			return n <= stop
		})
		if n != min(stop+1, 4) {
			t.Errorf("left behind %d: %d told", stop, n)
		}
	}
}

func TestWhatEachTellsIsNew(t *testing.T) { // P4.3, R2
	shared := list(text("b"), list(text("c")))
	it := list(text("a"), shared, shared)
	want := list(text("a"), list(text("b"), list(text("c"))), list(text("b"), list(text("c"))))
	seq := Each(it)
	for x := range seq {
		for i := range x.Items {
			x.Items[i].Text += "changed"
			for j := range x.Items[i].Items {
				x.Items[i].Items[j] = text("changed")
			}
		}
	}
	if !same(it, want) {
		t.Errorf("what was handed in is %v now", it)
	}
	it.Items[0] = text("changed")
	shared.Items[1].Items[0] = text("changed")
	var again []api.Item
	for x := range seq {
		again = append(again, x)
	}
	if !same(list(again...), want) {
		t.Errorf("the second time it tells %v", again)
	}
}

func TestTheyUndoEachOther(t *testing.T) { // P4.4
	for i, it := range good() {
		s, _ := Bytes(it)
		if x, e := Parse(s); !same(x, it) || e != api.OK {
			t.Errorf("%d: %d", i, e)
		}
	}
	for i, it := range beyond() {
		if x, e := Parse(slowBytes(it)); !isZero(x) || e != api.ErrForm {
			t.Errorf("%d may not be, and was read: %d", i, e)
		}
	}
}

func TestEachItemHasOneForm(t *testing.T) { // P4.4
	forms := 0
	eachShort(func(s string) {
		it, k, e := Take(s)
		if e != api.OK {
			return
		}
		forms++
		if back, f := Bytes(it); back != s[:k] || f != api.OK || Check(it) != api.OK {
			t.Errorf("%x: %x, %d", s, back, f)
		}
	})
	if forms == 0 {
		t.Error("nothing was read")
	}
}
