package pick

import (
	"fmt"
	"math/rand"
	"slices"
	"strings"
	"testing"

	"legate/api"
	"legate/value"
)

// P11.1, P11.2: the chapter's examples.
func TestExamples(t *testing.T) {
	v := object(names("a", "b"), number(1), str("x"))
	o := Of(v)
	if n, e := o.Num("a", 0, 9), o.Done(); n != 1 || e != api.ErrMore {
		t.Error(n, e)
	}
	if s, e := o.Text("b"), o.Done(); s != "x" || e != api.OK {
		t.Error(s, e)
	}
	o = Of(v)
	if n, e := o.Num("a", 2, 9), o.Err(); n != 0 || e != api.ErrArg {
		t.Error(n, e)
	}
	if s, e := o.Text("b"), o.Done(); s != "" || e != api.ErrArg {
		t.Error(s, e)
	}
	o = Of(v)
	if s, e := o.Text("c"), o.Err(); s != "" || e != api.ErrNone {
		t.Error(s, e)
	}
	o = Of(v)
	if b, e := o.Bool("a"), o.Err(); b || e != api.ErrKind {
		t.Error(b, e)
	}
	a, b := Member{"a", number(1)}, Member{"b", number(2)}
	if v, e := ObjectOf(b, a); !equal(v, object(names("a", "b"), number(1), number(2))) || e != api.OK {
		t.Error(v, e)
	}
	if v, e := ObjectOf(a, a); !equal(v, api.Value{}) || e != api.ErrTwice {
		t.Error(v, e)
	}
}

// P11.1: values that are no objects, and objects whose Names and Items are wrong; the Kind is examined first.
func TestOfWrong(t *testing.T) {
	for _, v := range noObjects() {
		wantStopped(t, Of(v), api.ErrKind, v.Names...)
	}
	for _, v := range misnamed() {
		wantStopped(t, Of(v), api.ErrForm, v.Names...)
	}
	// A request is the first thing that is asked; then Has.
	for _, r := range requests("a") {
		want(t, Of(list()), r, r.zero, api.ErrKind)
		want(t, Of(object(names("a"))), r, r.zero, api.ErrForm)
	}
	if Of(object(names("b", "a"), ones(2)...)).Has("a") || Of(object(names("a", "a"), ones(2)...)).Has("a") || Of(api.Value{Kind: api.List, Names: names("a"), Items: ones(1)}).Has("a") {
		t.Error("a wrong value has a member")
	}
}

// P11.1: only the Names of the value itself are examined, and none for being a name or UTF-8.
func TestOf(t *testing.T) {
	for _, v := range sound() {
		o := Of(v)
		if o.Err() != api.OK {
			t.Errorf("%s: %v", brief(v), o.Err())
		}
	}
	for _, x := range append(members(), list(ones(api.MaxValues+1)...)) {
		o := Of(object(names("a"), x))
		want(t, o, whatever("a"), x, api.OK)
		wantDone(t, o, api.OK, api.OK)
	}
	long := strings.Repeat("a", 3*api.MaxText)
	want(t, Of(object(names(long), number(1))), num(long, 1, 1), number(1), api.OK)
	deep := number(1)
	for range 3 * api.MaxDepth {
		deep = list(deep)
	}
	want(t, Of(object(names("a"), deep)), whatever("a"), deep, api.OK)
}

// P11.1: a nil picker.
func TestNil(t *testing.T) {
	wantStopped(t, nil, api.ErrNil)
	var o *Obj
	o.Fail(api.ErrArg)
	wantStopped(t, o, api.ErrNil)
}

// P11.1: a zero picker.
func TestZero(t *testing.T) {
	wantStopped(t, &Obj{}, api.ErrKind)
	var o Obj
	wantStopped(t, &o, api.ErrKind, "")
	for _, e := range append(errnos, api.OK) {
		var o Obj
		o.Fail(e)
		wantDone(t, &o, api.ErrKind, api.ErrKind)
	}
	if (&Obj{}).Has("") {
		t.Error("Has")
	}
	for _, r := range requests("") {
		want(t, &Obj{}, r, r.zero, api.ErrKind)
	}
}

// P11.7: every method, of members of every Kind and of none.
func TestKinds(t *testing.T) {
	for _, v := range members() {
		taken := map[string]api.Value{"Any": v}
		switch v.Kind {
		case api.Bool:
			taken["Bool"] = boolean(v.N)
		case api.Num:
			taken[num("", least, greatest).label] = number(v.N)
		case api.Text:
			taken["Text"] = str(v.T)
		case api.List:
			taken[items("", many).label] = list(v.Items...)
			if !slices.ContainsFunc(v.Items, func(x api.Value) bool { return x.Kind != api.Text }) {
				taken[texts("", many).label] = clean(v)
			}
		case api.Obj:
			taken[inner("", many).label] = v
		}
		for _, r := range requests("k") {
			wantTaken(t, object(names("k"), v), r, taken)
			wantTaken(t, object(names("k", "l"), v, str("x")), r, taken)
			wantTaken(t, object(names("", "j", "k"), list(), number(1), v), r, taken)
			wantTaken(t, object(names("", "j", "k", "l"), list(), number(1), v, str("x")), r, taken)
		}
	}
}

// clean is a list of texts without what texts do not use.
func clean(v api.Value) api.Value {
	out := list()
	for _, x := range v.Items {
		out.Items = append(out.Items, str(x.T))
	}
	return out
}

// wantTaken holds that a request returns what is given for its method, or ErrKind if there is nothing.
func wantTaken(t *testing.T, v api.Value, r request, taken map[string]api.Value) {
	t.Helper()
	o := Of(v)
	if result, takes := taken[r.label]; takes {
		want(t, o, r, result, api.OK)
		want(t, o, r, result, api.OK)
		return
	}
	want(t, o, r, r.zero, api.ErrKind)
	wantStopped(t, o, api.ErrKind, v.Names...)
}

// P11.1: a Bool is true if its N is 1, whatever else it may be.
func TestBool(t *testing.T) {
	for n := range int64(300) {
		want(t, Of(object(names("a"), boolean(n))), truth("a"), boolean(map[bool]int64{true: 1}[n == 1]), api.OK)
	}
	for _, n := range []int64{-1, 1 << 8, 1<<8 + 1, 1 << 32, 1<<32 + 1, 1<<63 - 1, least, least + 1} {
		want(t, Of(object(names("a"), boolean(n))), truth("a"), boolean(0), api.OK)
	}
}

// P11.1: numbers at exactly low and high, one below and above, and with low greater than high.
func TestNum(t *testing.T) {
	bounds := []int64{least, least + 1, -1 << 32, -2, -1, 0, 1, 2, 9, 1 << 32, api.MaxVersion, greatest - 1, greatest}
	for _, n := range bounds {
		for _, low := range bounds {
			for _, high := range bounds {
				o, r := Of(object(names("a", "b"), number(n), str("x"))), num("a", low, high)
				if low <= n && n <= high {
					want(t, o, r, number(n), api.OK)
					want(t, o, text("b"), str("x"), api.OK)
					continue
				}
				want(t, o, r, number(0), api.ErrArg)
				want(t, o, text("b"), str(""), api.ErrArg)
			}
		}
	}
	for n := int64(-12); n <= 12; n++ {
		want(t, Of(object(names("a"), number(n))), num("a", n, n), number(n), api.OK)
		want(t, Of(object(names("a"), number(n))), num("a", n+1, 20), number(0), api.ErrArg)
		want(t, Of(object(names("a"), number(n))), num("a", -20, n-1), number(0), api.ErrArg)
		want(t, Of(object(names("a"), number(n))), num("a", n+1, n-1), number(0), api.ErrArg)
		want(t, Of(object(names("a"), number(n))), num("a", n, n-1), number(0), api.ErrArg)
		want(t, Of(object(names("a"), number(n))), num("a", n+1, n), number(0), api.ErrArg)
	}
}

// P11.1: lists and objects of exactly most Items, of one more and one less, and with most 0 and below.
func TestMost(t *testing.T) {
	for _, n := range []int{0, 1, 2, 3, 16, 255, 256, 257, 300, api.MaxValues + 1} {
		var l []string
		for i := range n {
			l = append(l, fmt.Sprintf("%04d", i))
		}
		v := object(names("list", "object", "texts"), list(ones(n)...), object(l, ones(n)...), strs(l...))
		for _, most := range []int{least, -1 << 32, -2, -1, 0, 1, 2, n - 2, n - 1, n, n + 1, n + 2, 256, 1<<32 - 1, 1 << 32, greatest} {
			for i, r := range []request{items("list", most), inner("object", most), texts("texts", most), items("texts", most)} {
				o := Of(v)
				if most < n {
					want(t, o, r, r.zero, api.ErrLong)
					wantStopped(t, o, api.ErrLong, v.Names...)
					continue
				}
				want(t, o, r, v.Items[min(i, 2)], api.OK)
			}
		}
	}
	// Of an object Items count, not Names; of a list, not what is within its Items.
	names3 := object(names("a", "b", "c"), number(1))
	want(t, Of(object(names("a"), names3)), inner("a", 1), names3, api.OK)
	want(t, Of(object(names("a"), names3)), inner("a", 0), api.Value{}, api.ErrLong)
	items3 := object(names("a"), ones(3)...)
	want(t, Of(object(names("a"), items3)), inner("a", 3), items3, api.OK)
	want(t, Of(object(names("a"), items3)), inner("a", 2), api.Value{}, api.ErrLong)
	want(t, Of(object(names("a"), list(list(ones(9)...)))), items("a", 1), list(list(ones(9)...)), api.OK)
	want(t, Of(object(names("a"), object(names("a"), list(ones(9)...)))), inner("a", 1), object(names("a"), list(ones(9)...)), api.OK)
}

// P11.1: an Item that is no Text, at each place of lists of texts; how many there are is examined first.
func TestTexts(t *testing.T) {
	for _, n := range []int{1, 2, 3, 7} {
		for at := range n {
			for _, x := range members() {
				l := strs("", "x", "\xff", "x", "é", "1", "true")
				l.Items = l.Items[:n]
				l.Items[at] = x
				v := object(names("a"), l)
				if x.Kind == api.Text {
					want(t, Of(v), texts("a", n), clean(l), api.OK)
				} else {
					want(t, Of(v), texts("a", n), list(), api.ErrKind)
				}
				want(t, Of(v), texts("a", n-1), list(), api.ErrLong)
				want(t, Of(v), items("a", n), l, api.OK)
			}
		}
	}
}

// P11.1: of several errors the one that is named first.
func TestOrder(t *testing.T) {
	for _, name := range []string{"", "A", "aa", "c", "\x00", "a\x00"} {
		for _, r := range append(requests(name), narrow(name)...) {
			want(t, Of(object(names("a", "b"), ones(2)...)), r, r.zero, api.ErrNone)
			want(t, Of(object(nil)), r, r.zero, api.ErrNone)
		}
	}
	for _, x := range members() {
		for _, r := range narrow("a") {
			e := map[uint8]api.Errno{api.Num: api.ErrArg, api.List: api.ErrLong, api.Obj: api.ErrLong}[x.Kind]
			if _, is := r.meant(x); is == api.ErrKind {
				e = api.ErrKind
			}
			want(t, Of(object(names("a"), x)), r, r.zero, e)
		}
	}
	want(t, Of(object(names("a"), str("x"))), num("a", 1, 0), number(0), api.ErrKind)
	want(t, Of(object(names("a"), object(nil))), items("a", -1), list(), api.ErrKind)
	want(t, Of(object(names("a"), object(nil))), texts("a", -1), list(), api.ErrKind)
	want(t, Of(object(names("a"), list())), inner("a", -1), api.Value{}, api.ErrKind)
	want(t, Of(object(names("a"), list())), texts("a", -1), list(), api.ErrLong)
	want(t, Of(object(names("a"), list(ones(2)...))), texts("a", 1), list(), api.ErrLong)
}

// P11.1: names are those of the object itself, byte by byte.
func TestNames(t *testing.T) {
	v := object(names("", "A", "a", "aa", "ab", "b", "é"), number(0), number(1), number(2), number(3), number(4), object(names("inner"), number(9)), number(6))
	for i, name := range v.Names {
		want(t, Of(v), whatever(name), v.Items[i], api.OK)
	}
	for _, name := range []string{"\x00", "0", "B", "aaa", "a\x00", "ac", "c", "e\u0301", "\xc3", "é\x00", "\xff", "inner", "b.inner", " ", strings.Repeat("a", 5000)} {
		if Of(v).Has(name) {
			t.Errorf("%.20q is there", name)
		}
		for _, r := range requests(name) {
			want(t, Of(v), r, r.zero, api.ErrNone)
		}
	}
}

// P11.1: Has is no request, and is the same before and after one.
func TestHas(t *testing.T) {
	for _, v := range sound() {
		o := Of(v)
		has := func() {
			t.Helper()
			for _, name := range append(someNames, v.Names...) {
				if o.Has(name) != slices.Contains(v.Names, name) {
					t.Errorf("%s: Has(%q): %v", brief(v), name, o.Has(name))
				}
			}
		}
		for i, r := range ownAll(v) {
			has()
			wantDone(t, o, api.ErrMore, api.OK)
			want(t, o, r, r.ask(Of(v)), api.OK)
			if i == len(v.Names)-1 {
				wantDone(t, o, api.OK, api.OK)
			}
		}
		has()
		wantDone(t, o, api.OK, api.OK)
		if o.Fail(api.ErrShort); slices.ContainsFunc(v.Names, o.Has) {
			t.Errorf("%s: Has after an error", brief(v))
		}
	}
}

// P11.3: each member is returned as it is, in every order of the requests, once and more than once; Done asked in between is OK from the last one on.
func TestExactly(t *testing.T) {
	for _, v := range sound() {
		all := ownAll(v)
		turns := orders(all[:min(len(all), 6)])
		if len(all) > 6 {
			turns = [][]request{all}
		}
		for _, turn := range turns {
			o, asking := Of(v), Of(v)
			for i, r := range turn {
				at := slices.Index(v.Names, r.name)
				result, _ := r.meant(v.Items[at])
				want(t, o, r, result, api.OK)
				for range 2 {
					want(t, asking, r, result, api.OK)
					wantDone(t, asking, map[bool]api.Errno{true: api.ErrMore}[i < len(turn)-1], api.OK)
				}
				want(t, asking, turn[0], turn[0].ask(Of(v)), api.OK)
			}
			wantDone(t, o, api.OK, api.OK)
			wantDone(t, asking, api.OK, api.OK)
			for _, r := range turn { // Done does not end a picker
				result, _ := r.meant(v.Items[slices.Index(v.Names, r.name)])
				want(t, o, r, result, api.OK)
			}
			wantDone(t, o, api.OK, api.OK)
		}
	}
}

// P11.3: of one member, its own method and Any are requests, each alone.
func TestEither(t *testing.T) {
	for _, x := range members() {
		for _, r := range append(requests("a"), own("a", x)) {
			result, e := r.meant(x)
			if e != api.OK {
				continue
			}
			o := Of(object(names("a", "b"), x, x))
			want(t, o, r, result, api.OK)
			want(t, o, whatever("a"), x, api.OK)
			want(t, o, r, result, api.OK)
			wantDone(t, o, api.ErrMore, api.OK)
			want(t, o, whatever("b"), x, api.OK)
			wantDone(t, o, api.OK, api.OK)
		}
	}
}

// P11.3, P11.4: an object of many members, whose requests come in any order.
func TestMany(t *testing.T) {
	r := rand.New(rand.NewSource(1))
	v := object(nil)
	for i := range 600 {
		v.Names, v.Items = append(v.Names, fmt.Sprintf("%05d", i)), append(v.Items, number(int64(i)))
	}
	for range 3 {
		o := Of(v)
		for _, i := range r.Perm(len(v.Names)) {
			wantDone(t, o, api.ErrMore, api.OK)
			want(t, o, num(v.Names[i], 0, 600), v.Items[i], api.OK)
		}
		wantDone(t, o, api.OK, api.OK)
		want(t, o, num("00600", 0, 600), number(0), api.ErrNone)
		wantDone(t, o, api.ErrNone, api.ErrNone)
	}
}

// P11.4: a name that was not requested, wherever it is, however often the others were; Done does not record it.
func TestMore(t *testing.T) {
	for _, v := range sound() {
		all := ownAll(v)
		for i, left := range all {
			o := Of(v)
			for range 3 {
				for j, r := range all {
					if j != i {
						want(t, o, r, r.ask(Of(v)), api.OK)
					}
				}
				o.Has(left.name)
				o.Fail(api.OK)
				wantDone(t, o, api.ErrMore, api.OK)
			}
			want(t, o, left, left.ask(Of(v)), api.OK)
			wantDone(t, o, api.OK, api.OK)
		}
	}
}

// P11.4: a request for a name that is absent, before the others, among them, and after them.
func TestLess(t *testing.T) {
	for _, v := range sound() {
		all := ownAll(v)
		for i := range len(all) + 1 {
			for _, r := range append(requests("absent"), narrow("absent")...) {
				o := Of(v)
				for _, x := range all[:i] {
					want(t, o, x, x.ask(Of(v)), api.OK)
				}
				want(t, o, r, r.zero, api.ErrNone)
				for _, x := range all[i:] {
					want(t, o, x, x.zero, api.ErrNone)
				}
				wantDone(t, o, api.ErrNone, api.ErrNone)
			}
		}
	}
}

// P11.5: each first error persists, whatever is asked then, before names were requested and after.
func TestFirst(t *testing.T) {
	v := object(names("a", "b", "c", "d"), number(5), str("x"), list(number(1), str("x")), object(nil))
	for _, c := range []struct {
		r request
		e api.Errno
	}{
		{text("absent"), api.ErrNone}, {whatever("absent"), api.ErrNone}, {num("absent", 0, 9), api.ErrNone}, {items("absent", 9), api.ErrNone}, {texts("absent", 9), api.ErrNone}, {inner("absent", 9), api.ErrNone}, {truth("absent"), api.ErrNone},
		{text("a"), api.ErrKind}, {truth("b"), api.ErrKind}, {num("b", 0, 9), api.ErrKind}, {items("d", 9), api.ErrKind}, {texts("d", 9), api.ErrKind}, {inner("c", 9), api.ErrKind},
		{num("a", 6, 9), api.ErrArg}, {num("a", 0, 4), api.ErrArg}, {items("c", 1), api.ErrLong}, {texts("c", 1), api.ErrLong}, {texts("c", 2), api.ErrKind}, {inner("d", -1), api.ErrLong},
	} {
		for n := range 5 {
			o := Of(v)
			for _, r := range ownAll(v)[:n] {
				want(t, o, r, r.ask(Of(v)), api.OK)
			}
			want(t, o, c.r, c.r.zero, c.e)
			wantStopped(t, o, c.e, v.Names...)
		}
	}
}

// P11.1, P11.5: Fail with an error, with OK, and with a second error.
func TestFail(t *testing.T) {
	v := object(names("a", "b"), number(1), str("x"))
	for _, e := range errnos {
		for n := range 3 {
			o := Of(v)
			o.Fail(api.OK)
			for _, r := range ownAll(v)[:n] {
				want(t, o, r, r.ask(Of(v)), api.OK)
				o.Fail(api.OK)
			}
			wantDone(t, o, map[bool]api.Errno{true: api.ErrMore}[n < 2], api.OK)
			o.Fail(e)
			wantStopped(t, o, e, v.Names...)
		}
		o := Of(v)
		o.Text("a")
		o.Fail(e)
		wantDone(t, o, api.ErrKind, api.ErrKind)
	}
	o := Of(object(nil))
	o.Fail(api.OK)
	wantDone(t, o, api.OK, api.OK)
}

// P11.1: pickers of the same value have nothing in common.
func TestPickers(t *testing.T) {
	v := object(names("a", "b"), number(1), str("x"))
	one, two := Of(v), Of(v)
	want(t, one, whatever("a"), number(1), api.OK)
	want(t, one, whatever("b"), str("x"), api.OK)
	wantDone(t, two, api.ErrMore, api.OK)
	two.Fail(api.ErrArg)
	wantDone(t, one, api.OK, api.OK)
	wantDone(t, two, api.ErrArg, api.ErrArg)
	wantDone(t, Of(v), api.ErrMore, api.OK)
}

// P11.2, P11.6: objects of members in every order; each is found by its Name.
func TestObjectOf(t *testing.T) {
	for _, v := range sound() {
		v.N, v.T = 0, ""
		var l []Member
		for i, name := range v.Names {
			l = append(l, Member{name, v.Items[i]})
		}
		turns := orders(l[:min(len(l), 6)])
		if len(l) > 6 {
			r := rand.New(rand.NewSource(2))
			turns = [][]Member{l}
			for range 200 {
				turns = append(turns, slices.Clone(l))
				r.Shuffle(len(l), func(i, j int) {
					last := turns[len(turns)-1]
					last[i], last[j] = last[j], last[i]
				})
			}
		}
		for _, turn := range turns {
			given := slices.Clone(turn)
			out, e := ObjectOf(given...)
			if !equal(out, v) || e != api.OK {
				t.Fatalf("%v: %s %v, not %s", turn, brief(out), e, brief(v))
			}
			if !slices.EqualFunc(given, turn, func(a, b Member) bool { return a.Name == b.Name && equal(a.Value, b.Value) }) {
				t.Errorf("the members are %v, and were %v", given, turn)
			}
			for _, m := range turn {
				if x, has := value.Get(out, m.Name); !has || !equal(x, m.Value) {
					t.Errorf("%q: %s %v, not %s", m.Name, brief(x), has, brief(m.Value))
				}
			}
			o := Of(out)
			for _, r := range ownAll(v) {
				want(t, o, r, r.ask(Of(v)), api.OK)
			}
			wantDone(t, o, api.OK, api.OK)
		}
	}
	for _, l := range [][]Member{nil, {}} {
		if v, e := ObjectOf(l...); !equal(v, object(nil)) || e != api.OK {
			t.Error(v, e)
		}
	}
}

// P11.2: names and values are not examined.
func TestObjectOfAny(t *testing.T) {
	long := strings.Repeat("x", 2*api.MaxText)
	for _, x := range members() {
		if v, e := ObjectOf(Member{"\xff", x}, Member{"", x}, Member{long, number(1)}); !equal(v, object(names("", long, "\xff"), x, number(1), x)) || e != api.OK {
			t.Errorf("%s %v", brief(v), e)
		}
	}
	var l []Member
	for i := range 3000 {
		l = append(l, Member{fmt.Sprintf("%05d", (i*1009)%3000), number(int64(i))})
	}
	v, e := ObjectOf(l...)
	if e != api.OK || len(v.Names) != 3000 || len(v.Items) != 3000 || !slices.IsSorted(v.Names) {
		t.Fatal(len(v.Names), len(v.Items), e)
	}
	for i, name := range v.Names {
		if name != fmt.Sprintf("%05d", i) || (v.Items[i].N*1009)%3000 != int64(i) {
			t.Error(i, name, v.Items[i].N)
		}
	}
}

// P11.2: two members with the same Name, side by side and apart, in every order, with the same Value and with others.
func TestTwice(t *testing.T) {
	for _, l := range [][]string{{"a", "a"}, {"", ""}, {"a", "a", "a"}, {"a", "a", "b"}, {"a", "b", "b"}, {"", "", "a", "b"}, {"", "a", "a", "b"}, {"a", "b", "c", "d", "d"}, {"a", "aa", "aa", "aaa", "b"}, {"é", "é", "z"}, {"\xff", "\xff"}} {
		for _, turn := range orders(l) {
			for _, x := range []api.Value{number(1), list(), {}} {
				var same, others []Member
				for i, name := range turn {
					same, others = append(same, Member{name, x}), append(others, Member{name, number(int64(i))})
				}
				for _, m := range [][]Member{same, others} {
					if v, e := ObjectOf(m...); !equal(v, api.Value{}) || e != api.ErrTwice {
						t.Errorf("%q: %s %v", turn, brief(v), e)
					}
				}
			}
		}
	}
	var l []Member
	for i := range 500 {
		l = append(l, Member{fmt.Sprint(i), number(1)})
	}
	if v, e := ObjectOf(append(l, Member{"250", number(1)})...); !equal(v, api.Value{}) || e != api.ErrTwice {
		t.Error(brief(v), e)
	}
}

// P11.2: values of the other kinds.
func TestValues(t *testing.T) {
	for _, s := range []string{"", "x", "1", "é€𝄞", "\x00", "\xff", strings.Repeat("x", 2*api.MaxText)} {
		if v := TextOf(s); !equal(v, str(s)) {
			t.Errorf("%.20q: %s", s, brief(v))
		}
	}
	for _, n := range []int64{0, 1, -1, 2, 1 << 32, greatest, least} {
		if v := NumOf(n); !equal(v, number(n)) {
			t.Errorf("%d: %s", n, brief(v))
		}
	}
	if v, w := BoolOf(true), BoolOf(false); !equal(v, boolean(1)) || !equal(w, boolean(0)) {
		t.Error(v, w)
	}
	for _, l := range [][]api.Value{nil, {}, {number(1)}, {{}}, {list()}, {number(2), number(1), number(2)}, members()} {
		if v := ListOf(l...); !equal(v, list(l...)) {
			t.Errorf("%s: %s", brief(list(l...)), brief(v))
		}
	}
	for _, l := range [][]string{nil, {}, {""}, {"x"}, {"b", "a", "b", "\xff", ""}} {
		if v := TextsOf(l); !equal(v, strs(l...)) {
			t.Errorf("%q: %s", l, brief(v))
		}
	}
}

// P11.2, P11.7: what is constructed is picked.
func TestThereAndBack(t *testing.T) {
	v, e := ObjectOf(Member{"t", TextOf("x")}, Member{"s", TextsOf(names("x", "y"))}, Member{"n", NumOf(-5)}, Member{"l", ListOf(NumOf(1), TextOf(""))}, Member{"f", BoolOf(false)}, Member{"b", BoolOf(true)})
	if e != api.OK || !value.May(v) {
		t.Fatal(v, e)
	}
	o := Of(v)
	if !o.Bool("b") || o.Bool("f") || o.Num("n", -5, -5) != -5 || o.Text("t") != "x" || !slices.Equal(o.Texts("s", 2), names("x", "y")) || !equal(list(o.List("l", 2)...), list(number(1), str(""))) {
		t.Error(o.Err())
	}
	wantDone(t, o, api.OK, api.OK)
}

// P11.8, R3: a picker's value, and results, are not changed by writing into another one.
func TestIndependence(t *testing.T) {
	nested := list(strs("x", "y"), object(names("p", "q"), list(number(1)), strs("z")))
	v := object(names("a", "b", "c", "d"), nested, object(names("k", "l"), nested, strs("x")), strs("x", "y", "z"), number(1))
	asks := []request{items("a", 9), whatever("a"), inner("b", 9), whatever("b"), items("c", 9), texts("c", 9), whatever("c")}
	for _, r := range asks {
		given := roomy(v)
		o := Of(given)
		first, second := r.ask(o), r.ask(o)
		result := clone(first)
		scribble(first)
		if !equal(second, result) || !equal(given, v) || !isRoomy(given) {
			t.Errorf("%s(%s): shared", r.label, r.name)
		}
		for _, s := range append(asks, num("d", 1, 1)) {
			want(t, o, s, s.ask(Of(v)), api.OK)
		}
		scribble(given)
		if !equal(second, result) {
			t.Errorf("%s(%s): shared with the argument", r.label, r.name)
		}
		for _, s := range append(asks, num("d", 1, 1)) {
			want(t, o, s, s.ask(Of(v)), api.OK)
		}
		wantDone(t, o, api.OK, api.OK)
		if o.Has("scribble") {
			t.Error("the picker has what was written into its argument")
		}
	}
}

// P11.8, R3: a picker remembers which names its value had, and which were requested, whatever is written into the value.
func TestIndependentNames(t *testing.T) {
	for n := range 4 {
		v := roomy(object(names("a", "b", "c"), ones(3)...))
		o := Of(v)
		for _, name := range names("a", "b", "c")[:n] {
			want(t, o, whatever(name), number(1), api.OK)
		}
		v.Names[0], v.Names[1], v.Names[2] = "c", "a", "x"
		v.Items[0], v.Items[1], v.Items[2] = str("u"), str("v"), str("w")
		for _, name := range names("a", "b", "c")[n:] {
			wantDone(t, o, api.ErrMore, api.OK)
			want(t, o, whatever(name), number(1), api.OK)
		}
		wantDone(t, o, api.OK, api.OK)
	}
}

// P11.8, R3: texts are returned in new memory, too.
func TestIndependentTexts(t *testing.T) {
	o := Of(object(names("a"), strs("x", "y", "z")))
	one, two := o.Texts("a", 3), o.Texts("a", 3)
	for i := range one[:cap(one)] {
		one[:cap(one)][i] = "scribble"
	}
	if l := names("x", "y", "z"); !slices.Equal(two, l) || !slices.Equal(o.Texts("a", 3), l) {
		t.Error(two, o.Texts("a", 3))
	}
}

// P11.8, R3: what is constructed, and of what, are not changed by writing into each other.
func TestIndependentValues(t *testing.T) {
	part := list(strs("x"), object(names("p"), list(number(1))))
	parts := list(part, part, str("y"))
	construct := map[string]func(l []api.Value) api.Value{
		"ListOf": func(l []api.Value) api.Value { return ListOf(l...) },
		"ObjectOf": func(l []api.Value) api.Value {
			m := []Member{{"c", l[2]}, {"a", l[0]}, {"b", l[1]}, {"room", number(1)}}[:3]
			v, _ := ObjectOf(m...)
			clear(m[:4])
			return v
		},
	}
	for label, build := range construct {
		given := roomy(parts)
		v := build(given.Items)
		result := clone(v)
		scribble(v)
		if !equal(given, parts) || !isRoomy(given) {
			t.Errorf("%s: the argument is changed", label)
		}
		v = build(given.Items)
		scribble(given)
		if !equal(v, result) {
			t.Errorf("%s: shared with the argument", label)
		}
		v = build(parts.Items) // whose first two share memory
		scribble(v.Items[0])
		if !equal(v.Items[1], part) {
			t.Errorf("%s: parts share memory", label)
		}
	}
	l := names("x", "y", room)[:2]
	v := TextsOf(l)
	l[0] = "scribble"
	if !equal(v, strs("x", "y")) {
		t.Error(v)
	}
	l[0] = "x"
	scribble(v)
	if !slices.Equal(l[:3], names("x", "y", room)) {
		t.Error(l[:3])
	}
}

// R1, R3: nothing that a picker is asked changes its value.
func TestValueStays(t *testing.T) {
	for _, v := range slices.Concat(sound(), misnamed(), noObjects()) {
		given := roomy(v)
		o := Of(given)
		for _, name := range append(someNames, v.Names...) {
			for _, r := range append(requests(name), narrow(name)...) {
				r.ask(o)
				r.ask(Of(given))
				o.Has(name)
			}
		}
		o.Fail(api.ErrLong)
		o.Done()
		if !equal(given, v) || !isRoomy(given) {
			t.Errorf("%s: changed to %s", brief(v), brief(given))
		}
	}
}

// P11.1, P11.3, P11.4, P11.5: calls at random, of objects at random, are as the model's.
func TestRandom(t *testing.T) {
	r := rand.New(rand.NewSource(3))
	l := members()
	for range 20000 {
		v := anyObject(r, l)
		o, m := Of(v), modelOf(v)
		for range r.Intn(16) {
			switch name := someNames[r.Intn(len(someNames))]; r.Intn(24) {
			case 0:
				e := api.Errno(r.Intn(4))
				o.Fail(e)
				m.fail(e)
			case 1, 2:
				if o.Has(name) != m.has(name) {
					t.Fatalf("%s: Has(%q): %v", brief(v), name, o.Has(name))
				}
			case 3, 4:
				if o.Done() != m.done() {
					t.Fatalf("%s, %q: %v, not %v", brief(v), m.asked, o.Done(), m.done())
				}
			default:
				x := anyRequest(r, v)
				want(t, o, x, m.ask(x), m.e)
			}
		}
		wantDone(t, o, m.done(), m.e)
		if t.Failed() {
			t.Fatalf("%s, %q", brief(v), m.asked)
		}
	}
}
