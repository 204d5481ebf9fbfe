package value

import (
	"fmt"
	"math"
	"math/rand"
	"slices"
	"sort"
	"strings"
	"testing"

	"legate/api"
)

// P8.1, P8.2: the chapter's examples.
func TestExamples(t *testing.T) {
	v := object(names("a"), number(1))
	wantMay(t, v, true)
	wantWith(t, v, "b", boolean(1), object(names("a", "b"), number(1), boolean(1)))
	wantMay(t, object(names("b", "a"), number(1), boolean(1)), false)
	if l := list(list()); Depth(l) != 2 || Count(l) != 2 {
		t.Error(Depth(l), Count(l))
	}
	wantMay(t, boolean(2), false)
	wantMay(t, text(strings.Repeat("a", 4097)), false)
	wantMay(t, text("\xff"), false)
}

// P8.1: values of each Kind, alone and in others.
func TestMay(t *testing.T) {
	for _, v := range samples() {
		wantMay(t, v, true)
		for _, w := range within(v) {
			wantMay(t, w, Depth(w) <= api.MaxDepth)
		}
	}
	wantMay(t, api.Value{Kind: api.List, Names: []string{}, Items: nil}, true)
	wantMay(t, api.Value{Kind: api.Obj, Names: nil, Items: []api.Value{}}, true)
	wantMay(t, api.Value{Kind: api.Obj, Names: []string{}, Items: nil}, true)
	wantMay(t, api.Value{Kind: api.Num, N: 1, Names: []string{}, Items: []api.Value{}}, true)
}

// P8.1: what is not valid, alone and in others.
func TestMayNot(t *testing.T) {
	for cause, v := range broken() {
		if May(v) {
			t.Errorf("%s is valid", cause)
		}
		for _, w := range within(v) {
			if May(w) {
				t.Errorf("%s is valid in %s", cause, brief(w))
			}
		}
	}
	for k := range 256 {
		for _, n := range []int64{0, 1, 2} {
			v := api.Value{Kind: uint8(k), N: n}
			wantMay(t, v, isValid(v))
		}
	}
}

// P8.1: texts and names of MaxText bytes; those of one more are among the broken ones.
func TestMayText(t *testing.T) {
	for _, s := range longTexts() {
		wantMay(t, text(s), true)
		wantMay(t, object(names(s), text(s)), true)
		wantMay(t, object(names("", s), numbers(2)...), true)
		wantMay(t, list(text("a"), object(names(s), number(1))), true)
		wantMay(t, text(s+"a"), false)
		wantMay(t, object(names(s+"a"), text(s)), false)
		wantMay(t, list(text("a"), object(names(s[:4092]+s), number(1))), false)
	}
	for n := range api.MaxText + 10 {
		s := strings.Repeat("a", n)
		wantMay(t, text(s), n <= api.MaxText)
		wantMay(t, object(names(s), number(1)), n <= api.MaxText)
	}
}

// P8.1: nesting of up to MaxDepth, and of more, of lists and objects, with and without something in the last one.
func TestMayDepth(t *testing.T) {
	for _, inner := range []api.Value{list(), object(nil), numbersList(2), object(names("a"), text("b"))} {
		lists, objects, mixed, last := inner, inner, inner, inner
		for d := 1; d <= 3*api.MaxDepth; d++ {
			for _, v := range []api.Value{lists, objects, mixed, last} {
				wantMay(t, v, d <= api.MaxDepth)
				if Depth(v) != d {
					t.Errorf("%s: %d, not %d", brief(v), Depth(v), d)
				}
			}
			lists, objects, mixed = list(lists), object(names("a"), objects), deep(d, inner)
			last = list(list(), number(1), last)
			if d%2 == 0 {
				last = object(names("a", "b", "c"), last.Items[0], last.Items[2], number(1))
			}
		}
	}
	for _, v := range alone() {
		wantMay(t, deep(api.MaxDepth-1, v), true)
		wantMay(t, deep(api.MaxDepth, v), v.Kind != api.List && v.Kind != api.Obj)
		wantMay(t, deep(api.MaxDepth+1, v), false)
	}
	// Many beside each other are not nested in each other.
	wide := list()
	for range 4 * api.MaxDepth {
		wide.Items = append(wide.Items, deep(api.MaxDepth-1, number(1)))
	}
	wantMay(t, wide, true)
	wide.Items = append(wide.Items, deep(api.MaxDepth, number(1)))
	wantMay(t, wide, false)
}

// spread are values that consist of exactly n values: in one list, in one object, in many of them, and in a deep one.
func spread(n int) []api.Value {
	flat := object(nil)
	for i := range n - 1 {
		flat.Names, flat.Items = append(flat.Names, fmt.Sprintf("%06d", i)), append(flat.Items, text("x"))
	}
	many, pairs := list(), list()
	for left := n - 1; left > 0; {
		size := min(left, 1+len(many.Items)%97)
		many.Items = append(many.Items, numbersList(size-1))
		left -= size
	}
	for left := n - 1; left > 0; {
		if left == 1 {
			pairs.Items = append(pairs.Items, number(1))
			break
		}
		pairs.Items = append(pairs.Items, object(names("a"), boolean(0)))
		left -= 2
	}
	chain := numbersList(5)
	for range 8 {
		chain = list(number(1), chain, number(2))
	}
	chain.Items = append(chain.Items, numbers(n-Count(chain))...)
	return []api.Value{numbersList(n - 1), flat, many, pairs, chain}
}

// P8.1: up to MaxValues values, and more, wherever they are.
func TestMayCount(t *testing.T) {
	for _, n := range []int{100, 4096, api.MaxValues - 2, api.MaxValues - 1, api.MaxValues, api.MaxValues + 1, api.MaxValues + 2, 2*api.MaxValues - 1, 2 * api.MaxValues, 1<<16 + 1} {
		for i, v := range spread(n) {
			if Count(v) != n || May(v) != (n <= api.MaxValues) {
				t.Errorf("%d: %d of %d: %v", i, Count(v), n, May(v))
			}
			if May(list(v)) != (n+1 <= api.MaxValues) || May(object(names("a", "b"), number(1), v)) != (n+2 <= api.MaxValues) || May(list(v, numbersList(7))) != (n+9 <= api.MaxValues) {
				t.Errorf("%d: %d, in others", i, n)
			}
		}
	}
}

// P8.1: where Items share memory, every occurrence counts; nothing that is too large is gone through.
func TestShared(t *testing.T) {
	inner := numbersList(90)
	wantMay(t, list(slices.Repeat(items(inner), 90)...), true)
	wantMay(t, list(slices.Repeat(items(inner), 91)...), false)
	pair := number(1)
	for d := 1; d <= api.MaxDepth; d++ {
		pair = list(pair, pair)
		if Count(pair) != 1<<(d+1)-1 || Depth(pair) != d {
			t.Errorf("%d: %d %d", d, Count(pair), Depth(pair))
		}
		wantMay(t, pair, true)
	}
	huge := numbersList(api.MaxValues)
	for range api.MaxDepth - 1 {
		huge = list(slices.Repeat(items(huge), api.MaxValues-1)...)
	}
	wantMay(t, huge, false)
	for range 50 {
		pair = list(pair, pair)
	}
	wantMay(t, pair, false)
}

// P8.7, R3: where Items share memory, those of a result do not.
func TestSharedNoMore(t *testing.T) {
	inner := numbersList(90)
	shared := list(inner, inner, object(names("a", "b"), inner, inner))
	c := Copy(shared)
	c.Items[0].Items[0] = text("x")
	c.Items[2].Items[1].Items[1] = text("y")
	if want := list(numbersList(90), numbersList(90), object(names("a", "b"), numbersList(90), numbersList(90))); !equal(shared, want) || !equal(c.Items[1], inner) || !equal(c.Items[2].Items[0], inner) {
		t.Error(shared, c)
	}
	v := object(names("a"), inner)
	out, _ := With(v, "b", inner)
	out.Items[0].Items[0] = text("x")
	if !equal(out.Items[1], numbersList(90)) || !equal(inner, numbersList(90)) {
		t.Error(out)
	}
	out, _ = With(v, "b", v)
	out.Items[1].Items[0].Items[0] = text("x")
	if !equal(out.Items[0], numbersList(90)) || !equal(v, object(names("a"), numbersList(90))) {
		t.Error(out)
	}
	out, _ = Without(object(names("a", "b", "c"), inner, inner, inner), "a")
	out.Items[0].Items[0] = text("x")
	if !equal(out.Items[1], numbersList(90)) {
		t.Error(out)
	}
}

// P8.1: how many values, and how deep, whether valid or not: Items count whatever the Kind, and nest in lists and objects alone.
func TestCountDepth(t *testing.T) {
	for _, c := range []struct {
		v            api.Value
		count, depth int
	}{
		{api.Value{}, 1, 0}, {boolean(1), 1, 0}, {number(-5), 1, 0}, {text("[[]]"), 1, 0}, {list(), 1, 1}, {object(nil), 1, 1},
		{list(number(1)), 2, 1}, {numbersList(5), 6, 1}, {object(names("a", "b"), numbers(2)...), 3, 1},
		{list(list()), 2, 2}, {list(object(nil)), 2, 2}, {object(names("a"), list()), 2, 2}, {list(list(), list()), 3, 2}, {list(list(list())), 3, 3},
		{list(list(list()), list()), 4, 3}, {list(list(), list(list())), 4, 3}, {list(number(1), list(number(1), list(), number(2)), number(3)), 7, 3},
		{object(names("a", "b"), list(text("x")), object(names("c"), list(list()))), 6, 4},
		{object(names("a", "b")), 1, 1}, {object(nil, number(1), list()), 3, 2}, {object(names("b", "a"), list(list()), number(1)), 4, 3}, {object(names("a"), list(list()), list()), 4, 3},
		{api.Value{Kind: api.Num, Items: items(list())}, 2, 0}, {api.Value{Kind: api.Bool, Items: items(list(list()), number(1))}, 4, 0}, {api.Value{Kind: api.Text, T: "a", Names: names("a")}, 1, 0},
		{api.Value{Items: items(list())}, 2, 0}, {api.Value{Kind: 6, Items: items(list(), list())}, 3, 0}, {api.Value{Kind: 255, Items: numbers(4)}, 5, 0},
		{list(api.Value{Kind: api.Num, Items: items(list(list()))}), 4, 1}, {list(api.Value{Kind: 0, Items: items(list(list()))}, list()), 5, 2},
		{api.Value{Kind: api.List, N: 7, T: "a", Names: names("a", "b"), Items: items(list())}, 2, 2},
	} {
		if Count(c.v) != c.count || Depth(c.v) != c.depth {
			t.Errorf("%v: %d %d, not %d %d", c.v, Count(c.v), Depth(c.v), c.count, c.depth)
		}
	}
}

// P8.1, P8.3: no two samples are the same, and each is the same as itself, however its empty slices are made.
func TestSame(t *testing.T) {
	l := samples()
	for i, a := range l {
		for j, b := range l {
			wantSame(t, a, clone(b), i == j)
			wantSame(t, roomy(a), b, i == j)
		}
	}
	for _, v := range broken() {
		wantSame(t, v, clone(v), true)
		wantSame(t, list(v), list(roomy(v)), true)
	}
	none := api.Value{Kind: api.Obj, Names: nil, Items: nil}
	empty := api.Value{Kind: api.Obj, Names: []string{}, Items: []api.Value{}}
	wantSame(t, none, empty, true)
	wantSame(t, list(none, empty), list(empty, none), true)
	wantSame(t, api.Value{}, api.Value{Names: []string{}, Items: []api.Value{}}, true)
}

// P8.1, P8.3: values that differ in one field alone, of any part, whether the Kind uses it or not.
func TestSameNot(t *testing.T) {
	for _, v := range samples() {
		for _, w := range spoiled(v) {
			wantSame(t, v, w, false)
			wantSame(t, list(number(1), v), list(number(1), w), false)
		}
	}
	for _, c := range [][2]api.Value{
		{object(names("a", "b"), number(1), number(2)), object(names("b", "a"), number(2), number(1))},
		{list(number(1), number(2)), list(number(2), number(1))},
		{list(), object(nil)},
		{boolean(1), number(1)},
		{boolean(0), {}},
		{text(""), {}},
		{list(list(number(1)), list()), list(list(), list(number(1)))},
		{list(list(number(1)), number(2)), list(list(number(1), number(2)))},
		{object(names("ab", "c"), numbers(2)...), object(names("a", "bc"), numbers(2)...)},
		{object(names("a", "")), object(names("a"))},
		{numbersList(api.MaxValues), list(append(numbers(api.MaxValues-1), number(2))...)},
	} {
		wantSame(t, c[0], c[1], false)
	}
}

// P8.1, P8.3, P8.7: a copy is equal, valid or not, and shares no memory with the value.
func TestCopy(t *testing.T) {
	l := samples()
	for _, v := range broken() {
		l = append(l, v)
	}
	for _, v := range samples() {
		l = append(l, spoiled(v)...)
	}
	for _, v := range l {
		own := roomy(v)
		c := Copy(own)
		if !equal(c, v) || !equal(own, v) || !Same(c, v) || May(c) != May(v) || Count(c) != Count(v) || Depth(c) != Depth(v) {
			t.Fatalf("%s: %s", brief(v), brief(c))
		}
		scribble(c)
		if !equal(own, v) {
			t.Fatalf("%s: shared", brief(v))
		}
		c = Copy(own)
		scribble(own)
		if !equal(c, v) {
			t.Fatalf("%s: shared", brief(v))
		}
	}
}

// P8.4: the parts of a valid value are valid, and Count is 1 more than the sum over its Items.
func TestParts(t *testing.T) {
	for _, v := range append(samples(), spread(api.MaxValues)...) {
		sum, deepest := 1, 0
		for _, x := range v.Items {
			wantMay(t, x, true)
			sum, deepest = sum+Count(x), max(deepest, Depth(x))
		}
		if v.Kind == api.List || v.Kind == api.Obj {
			deepest++
		}
		if Count(v) != sum || Depth(v) != deepest {
			t.Errorf("%s: %d %d, not %d %d", brief(v), Count(v), Depth(v), sum, deepest)
		}
	}
}

// P8.6: a valid value with anything added that its Kind does not use, in each part of it.
func TestMayNothingElse(t *testing.T) {
	uses := map[uint8]string{api.Bool: "N", api.Num: "N", api.Text: "T", api.List: "Items", api.Obj: "NamesItems"}
	for _, v := range alone() {
		var added []api.Value
		for _, n := range []int64{1, -1, 2, 1 << 32, math.MinInt64} {
			added = append(added, api.Value{Kind: v.Kind, N: n, T: v.T})
		}
		for _, s := range []string{"a", "\x00", " ", "\xff"} {
			added = append(added, api.Value{Kind: v.Kind, N: v.N, T: s})
		}
		if uses[v.Kind] == "T" {
			added = added[:5]
		} else if strings.Contains(uses[v.Kind], "N") && uses[v.Kind] != "NamesItems" {
			added = added[5:]
		}
		for _, l := range [][]string{names(""), names("a"), names("a", "b")} {
			added = append(added, api.Value{Kind: v.Kind, N: v.N, T: v.T, Names: l})
		}
		if !strings.Contains(uses[v.Kind], "Items") {
			added = append(added, api.Value{Kind: v.Kind, N: v.N, T: v.T, Items: items(number(1))}, api.Value{Kind: v.Kind, N: v.N, T: v.T, Items: items(list(), list())})
			added = append(added, api.Value{Kind: v.Kind, N: v.N, T: v.T, Names: names("a"), Items: items(number(1))})
		}
		for _, w := range added {
			wantMay(t, w, false)
			for _, x := range within(w) {
				wantMay(t, x, false)
			}
		}
	}
	wantMay(t, api.Value{Kind: api.List, Names: names("a"), Items: numbers(1)}, false)
	wantMay(t, api.Value{Kind: api.List, N: 1, Items: numbers(1)}, false)
	wantMay(t, api.Value{Kind: api.List, T: "a", Items: numbers(1)}, false)
	wantMay(t, api.Value{Kind: api.Obj, N: 1, Names: names("a"), Items: numbers(1)}, false)
	wantMay(t, api.Value{Kind: api.Obj, T: "a", Names: names("a"), Items: numbers(1)}, false)
}

// P8.1, P8.6: samples that are changed in any field of any part, against S2.
func TestMayChanged(t *testing.T) {
	for _, v := range samples() {
		for _, w := range spoiled(v) {
			wantMay(t, w, isValid(w))
		}
	}
}

// ladder is an object of n names, every second one of those of two digits, each with its own Item.
func ladder(n int) api.Value {
	out := object(nil)
	for i := range n {
		out.Names, out.Items = append(out.Names, fmt.Sprintf("%02d", 2*i+1)), append(out.Items, list(number(int64(i)), object(names("k"), text(fmt.Sprint(i)))))
	}
	return out
}

// P8.2: names that stand first, last, in the middle, and nowhere, in objects of many sizes.
func TestAnyPlace(t *testing.T) {
	x := list(text("new"), object(names("p", "q"), list(), number(4)))
	for n := range 20 {
		v := ladder(n)
		for i := range 2*n + 3 {
			name := fmt.Sprintf("%02d", i)
			at, found := i/2, i%2 == 1 && i/2 < n
			if found {
				wantGet(t, v, name, v.Items[at])
				with := clone(v)
				with.Items[at] = x
				wantWith(t, v, name, x, with)
				without := clone(v)
				without.Names, without.Items = slices.Delete(without.Names, at, at+1), slices.Delete(without.Items, at, at+1)
				wantWithout(t, v, name, without, true)
				continue
			}
			at = min(at, n)
			wantNoGet(t, v, name)
			with := clone(v)
			with.Names, with.Items = slices.Insert(with.Names, at, name), slices.Insert(with.Items, at, x)
			wantWith(t, v, name, x, with)
			wantWithout(t, v, name, v, false)
		}
	}
}

// P8.2: names are whole, and bytes; the name of no bytes is one.
func TestNames(t *testing.T) {
	v := object(names("", "A", "a", "aa", "ab", "é", "\uffff", "\U00010000"), number(0), number(1), number(2), number(3), number(4), number(5), number(6), number(7))
	wantMay(t, v, true)
	for i, name := range v.Names {
		wantGet(t, v, name, number(int64(i)))
		short := clone(v)
		short.Names, short.Items = slices.Delete(short.Names, i, i+1), slices.Delete(short.Items, i, i+1)
		wantWithout(t, v, name, short, true)
		wantWith(t, short, name, number(int64(i)), v)
		wantNoGet(t, short, name)
	}
	for _, name := range []string{" ", "\x00", "AA", "aA", "aaa", "b", "e", "e\u0301", "\xc3", "\xff", "É", "a\x00", "\U00010001"} {
		wantNoGet(t, v, name)
		wantWithout(t, v, name, v, false)
	}
	wantNoGet(t, object(nil), "")
	wantNoGet(t, object(nil), "a")
	wantWithout(t, object(nil), "", object(nil), false)
	wantWith(t, object(nil), "", list(), object(names(""), list()))
	wantWith(t, object(names("a"), number(1)), "", number(2), object(names("", "a"), number(2), number(1)))
	wantWithout(t, object(names(""), number(1)), "", object(nil), true)
	// A name, or a value, that is not valid is inserted as it is.
	long := strings.Repeat("a", 5000)
	wantWith(t, object(names("a"), number(1)), "\xff", boolean(2), object(names("a", "\xff"), number(1), boolean(2)))
	wantWith(t, object(names("b"), number(1)), long, api.Value{}, object(names(long, "b"), api.Value{}, number(1)))
	wantGet(t, object(names("\xff"), boolean(2)), "\xff", boolean(2))
	wantWithout(t, object(names(long, "\xff"), number(1), boolean(2)), "\xff", object(names(long), number(1)), true)
	wantGet(t, object(names("a"), api.Value{}), "a", api.Value{})
}

// P8.2: what is no object, even if it has Names and Items.
func TestNoObject(t *testing.T) {
	l := alone()[:len(alone())-1]
	for _, k := range append([]uint8{api.Bool, api.Num, api.Text, api.List}, noKinds...) {
		l = append(l, api.Value{Kind: k, N: 1, T: "t", Names: names("a", "b"), Items: items(number(1), list())}, api.Value{Kind: k, Names: names("b", "a"), Items: numbers(3)}, api.Value{Kind: k})
	}
	for _, v := range l {
		for _, name := range []string{"", "a", "b", "c"} {
			wantNoGet(t, v, name)
			wantNoWith(t, v, name, number(1), api.ErrKind)
			wantWithout(t, v, name, v, false)
		}
	}
}

// P8.2, errors: Names and Items that differ in number. Get needs only the one Item.
func TestUnpaired(t *testing.T) {
	few := object(names("a", "b", "c"), number(1), list(number(2)))
	wantGet(t, few, "a", number(1))
	wantGet(t, few, "b", list(number(2)))
	for _, name := range []string{"c", "d", ""} {
		wantNoGet(t, few, name)
	}
	many := object(names("a", "b"), number(1), list(number(2)), number(3))
	wantGet(t, many, "a", number(1))
	wantGet(t, many, "b", list(number(2)))
	wantNoGet(t, many, "c")
	wantNoGet(t, object(names("a")), "a")
	wantNoGet(t, object(nil, number(1)), "")
	mixed := object(names("b", "a", "b", "a"), number(1))
	wantGet(t, mixed, "b", number(1))
	wantNoGet(t, mixed, "a")
	for _, v := range []api.Value{few, many, mixed, object(names("a")), object(names("")), object(nil, number(1)), object(names("b", "a"), numbers(3)...)} {
		for _, name := range []string{"", "a", "b", "c", "z"} {
			wantNoWith(t, v, name, number(1), api.ErrForm)
			wantWithout(t, v, name, v, false)
		}
	}
}

// P8.2, errors: Names that are not ascending. Get finds the first one, and Without leaves none.
func TestUnsorted(t *testing.T) {
	for _, l := range [][]string{
		{"b", "a"}, {"a", "a"}, {"", ""}, {"a", "b", "a"}, {"b", "a", "b"}, {"a", "b", "b"}, {"a", "a", "b"}, {"c", "b", "a"}, {"b", "a", "c"}, {"a", "c", "b"},
		{"a", "b", "c", "b", "d"}, {"d", "a", "d", "b", "d", "c", "d"}, {"a", "a", "a", "a"}, {"a", "", "b"}, {"z", "a", "b", "c", "d", "e", "f"}, {"b", "c", "d", "e", "f", "g", "a"},
		{"a", "b", "c", "d", "d", "e", "f"}, {"c", "a", "b", "c", "d", "c", "e", "c"}, {"aa", "a"}, {"a", "B"}, {"é", "z"}, {"\U00010000", "\uffff"},
	} {
		v := object(l)
		v.N, v.T = 7, "beside"
		for i := range l {
			v.Items = append(v.Items, list(number(int64(i))))
		}
		for _, name := range append([]string{"", "0", "a", "b", "bb", "c", "zz", "\xff"}, l...) {
			wantNoWith(t, v, name, number(1), api.ErrForm)
			want := object(nil)
			want.N, want.T = v.N, v.T
			at := -1
			for i := range l {
				if l[i] != name {
					want.Names, want.Items = append(want.Names, l[i]), append(want.Items, v.Items[i])
				} else if at < 0 {
					at = i
				}
			}
			wantWithout(t, v, name, want, at >= 0)
			if at < 0 {
				wantNoGet(t, v, name)
			} else {
				wantGet(t, v, name, v.Items[at])
			}
		}
	}
}

// P8.2: what an object has besides stays.
func TestBeside(t *testing.T) {
	v := api.Value{Kind: api.Obj, N: math.MinInt64, T: "\xff", Names: names("a", "c"), Items: items(number(1), boolean(9))}
	wantGet(t, v, "c", boolean(9))
	wantWith(t, v, "b", list(), api.Value{Kind: api.Obj, N: v.N, T: v.T, Names: names("a", "b", "c"), Items: items(number(1), list(), boolean(9))})
	wantWith(t, v, "a", list(), api.Value{Kind: api.Obj, N: v.N, T: v.T, Names: names("a", "c"), Items: items(list(), boolean(9))})
	wantWithout(t, v, "a", api.Value{Kind: api.Obj, N: v.N, T: v.T, Names: names("c"), Items: items(boolean(9))}, true)
	wantWithout(t, v, "b", v, false)
	alone := api.Value{Kind: api.Obj, N: 3, T: "t", Names: names("a"), Items: numbers(1)}
	wantWithout(t, alone, "a", api.Value{Kind: api.Obj, N: 3, T: "t"}, true)
	// So does what is in a new Item, and in the old ones.
	odd := api.Value{Kind: 9, N: -1, T: "x", Names: names("z", "y"), Items: items(v)}
	wantWith(t, object(names("m"), odd), "n", odd, object(names("m", "n"), odd, odd))
	wantGet(t, object(names("m"), odd), "m", odd)
	wantWithout(t, object(names("m", "n"), odd, odd), "n", object(names("m"), odd), true)
}

// wantInserted holds that a value is inserted into an object, that the other names keep their Items, and that Without takes it out again.
func wantInserted(t *testing.T, v api.Value, name string, x api.Value, valid bool) {
	t.Helper()
	out, e := With(v, name, x)
	if e != api.OK || May(out) != valid {
		t.Errorf("%s, %.20q, %s: %s %v, not %v", brief(v), name, brief(x), brief(out), e, valid)
	}
	if got, ok := Get(out, name); !ok || !Same(got, x) {
		t.Errorf("%s, %.20q: %s %v", brief(out), name, brief(got), ok)
	}
	for i, other := range v.Names {
		if got, ok := Get(out, other); other != name && (!ok || !Same(got, v.Items[i])) {
			t.Errorf("%s, %.20q, %.20q: %s %v", brief(out), name, other, brief(got), ok)
		}
	}
	back, ok := Without(out, name)
	rest, was := Without(v, name)
	if !ok || !Same(back, rest) || !was && !Same(back, v) {
		t.Errorf("%s, %.20q: %s %v", brief(out), name, brief(back), ok)
	}
	if n := len(out.Names) - len(v.Names); n != 0 && was || n != 1 && !was {
		t.Errorf("%s, %.20q: %s", brief(v), name, brief(out))
	}
}

// P8.5: valid values are inserted into valid objects.
func TestInsertion(t *testing.T) {
	for _, v := range append(samples(), ladder(9)) {
		if v.Kind != api.Obj {
			continue
		}
		for _, x := range append(alone(), numbersList(3), object(names("a", "b"), list(), text("b"))) {
			for _, name := range []string{"", "0", "a", "aa", "b", "é", strings.Repeat("n", api.MaxText)} {
				wantInserted(t, v, name, x, true)
			}
		}
	}
}

// P8.5: what is inserted makes an object too deep, or too large, or just not.
func TestInsertionLimits(t *testing.T) {
	for _, v := range []api.Value{object(nil), ladder(1), ladder(9), object(names("a"), deep(api.MaxDepth-1, number(1)))} {
		for d := range api.MaxDepth + 3 {
			wantInserted(t, v, "a", deep(d, text("x")), d < api.MaxDepth)
			wantInserted(t, v, "zz", deep(d, text("x")), d < api.MaxDepth)
		}
		for n := api.MaxValues - Count(v) - 1; n <= api.MaxValues-Count(v)+2; n++ {
			for _, x := range spread(n) {
				wantInserted(t, v, "zz", x, Count(v)+n <= api.MaxValues && Depth(x) < api.MaxDepth)
			}
		}
	}
	most := spread(api.MaxValues)[1]
	wantInserted(t, most, most.Names[5], number(2), true)
	wantInserted(t, most, most.Names[5], list(number(2)), false)
	wantInserted(t, most, "", number(2), false)
}

// P8.5: names that are inserted in any order become ascending.
func TestInsertMany(t *testing.T) {
	from := rand.New(rand.NewSource(3))
	for n := range 60 {
		v, want := object(nil), map[string]int64{}
		for range n {
			name := fmt.Sprintf("%x", from.Intn(40))
			want[name] = from.Int63()
			v, _ = With(v, name, number(want[name]))
			if from.Intn(4) == 0 {
				gone := fmt.Sprintf("%x", from.Intn(40))
				_, was := want[gone]
				delete(want, gone)
				out, ok := Without(v, gone)
				if ok != was {
					t.Errorf("%v, %q: %v", v, gone, ok)
				}
				v = out
			}
		}
		wantMay(t, v, true)
		if len(v.Names) != len(want) {
			t.Errorf("%v, not %v", v, want)
		}
		for name, x := range want {
			wantGet(t, v, name, number(x))
		}
	}
}

// random returns a value that is often valid, and often not.
func random(from *rand.Rand, depth int) api.Value {
	odd := func(n int) bool { return from.Intn(n) == 0 }
	texts := []string{"", "a", "b", "ab", "é", "z"}
	v := api.Value{Kind: uint8(1 + from.Intn(5))}
	if depth == 0 {
		v.Kind = uint8(1 + from.Intn(3))
	}
	if odd(30) {
		v.Kind = uint8(from.Intn(8))
	}
	if v.Kind == api.Num || v.Kind == api.Bool || odd(30) {
		v.N = int64(from.Intn(2))
	}
	if v.Kind == api.Text || odd(30) {
		v.T = texts[from.Intn(len(texts))]
	}
	if v.Kind == api.List || v.Kind == api.Obj || odd(30) {
		for range from.Intn(4) {
			v.Items = append(v.Items, random(from, max(depth-1, 0)))
		}
	}
	if v.Kind == api.Obj || odd(30) {
		for range v.Items {
			v.Names = append(v.Names, texts[from.Intn(len(texts))])
		}
		if !odd(4) {
			sort.Strings(v.Names)
		}
	}
	if odd(30) {
		v.Names = append(v.Names, "~")
	}
	return v
}

// P8.1, P8.3: values at random, against the chapter; two of them next to each other, too, since many are the same.
func TestRandom(t *testing.T) {
	from := rand.New(rand.NewSource(4))
	last, valid, same := api.Value{}, 0, 0
	for range 30000 {
		v := random(from, 3)
		l, depths := parts(v, 0)
		if Count(v) != len(l) {
			t.Fatalf("%v: %d, not %d", v, Count(v), len(l))
		}
		good := isValid(v)
		wantMay(t, v, good)
		if good && Depth(v) != slices.Max(depths) {
			t.Fatalf("%v: %d, not %d", v, Depth(v), slices.Max(depths))
		}
		wantSame(t, v, last, equal(v, last))
		if good {
			valid++
		}
		if equal(v, last) {
			same++
		}
		last = v
	}
	if valid < 5000 || valid > 25000 || same < 500 {
		t.Error(valid, same)
	}
}

// R1: nested far deeper than may be, all calls return.
func TestFarTooDeep(t *testing.T) {
	const levels = 1<<16 - 1
	v := deep(levels, text("x"))
	wantMay(t, v, false)
	if Count(v) != levels+1 || Depth(v) != levels {
		t.Error(Count(v), Depth(v))
	}
	if c := Copy(v); !Same(c, v) || Same(c, deep(levels, text("y"))) {
		t.Error("another copy")
	}
	out, e := With(object(nil), "a", v)
	if x, ok := Get(out, "a"); e != api.OK || !ok || !Same(x, v) {
		t.Error(e, ok)
	}
	if rest, ok := Without(out, "a"); !ok || !Same(rest, object(nil)) {
		t.Error(ok)
	}
}
