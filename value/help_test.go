package value

import (
	"fmt"
	"math"
	"reflect"
	"slices"
	"sort"
	"strings"
	"testing"
	"unicode/utf8"

	"legate/api"
)

func boolean(n int64) api.Value         { return api.Value{Kind: api.Bool, N: n} }
func number(n int64) api.Value          { return api.Value{Kind: api.Num, N: n} }
func text(s string) api.Value           { return api.Value{Kind: api.Text, T: s} }
func list(items ...api.Value) api.Value { return api.Value{Kind: api.List, Items: items} }
func names(l ...string) []string        { return l }
func items(l ...api.Value) []api.Value  { return l }
func numbers(n int) []api.Value         { return slices.Repeat(items(number(1)), n) }
func numbersList(n int) api.Value       { return list(numbers(n)...) }
func object(l []string, x ...api.Value) api.Value {
	return api.Value{Kind: api.Obj, Names: l, Items: x}
}

// kinds are the five; noKinds are numbers of none.
var (
	kinds   = []uint8{api.Bool, api.Num, api.Text, api.List, api.Obj}
	noKinds = []uint8{0, 6, 7, 8, 16, 127, 128, 129, 130, 133, 254, 255}
)

// alone are valid values without Items, of each Kind.
func alone() []api.Value {
	return []api.Value{
		boolean(0), boolean(1),
		number(0), number(1), number(2), number(-1), number(api.MaxVersion), number(math.MaxInt64), number(math.MinInt64),
		text(""), text("a"), text("true"), text("1"), text("\x00\x1f\"\\"), text("é€𝄞\ufffd\U0010ffff"), text(strings.Repeat("a", api.MaxText)),
		list(), object(nil),
	}
}

// samples are valid values of each Kind, alone, in lists and in objects, nested in each other; no two are the same.
func samples() []api.Value {
	out := alone()
	for i, v := range alone() {
		w := alone()[(i+5)%len(alone())]
		out = append(out, list(v), list(v, v), list(v, w), list(v, w, v), list(list(v)), list(list(v), w), list(w, list(v)))
		out = append(out, object(names("a"), v), object(names("b"), v), object(names(""), v), object(names("a", "b"), v, w), object(names("a", "c"), v, w), object(names("a", "b", "c"), v, w, v))
		out = append(out, list(object(names("a"), v)), object(names("a"), list(v)), object(names("a"), object(names("a"), v)), object(names("a"), object(names("b"), v)), object(names("a", "b"), list(v, w), object(names("x", "y"), w, v)))
	}
	return append(out, numbersList(3), object(names("A", "Z", "a", "z", "é", "€", "\uffff", "\U00010000"), numbers(8)...), deep(api.MaxDepth, number(7)))
}

// broken are values that are not valid, each for one cause.
func broken() map[string]api.Value {
	out := map[string]api.Value{
		"a boolean of 2":          boolean(2),
		"a boolean of -1":         boolean(-1),
		"a boolean of 256":        boolean(256),
		"a boolean of 2^32":       boolean(1 << 32),
		"a boolean of 2^32+1":     boolean(1<<32 + 1),
		"the least boolean":       boolean(math.MinInt64),
		"the greatest boolean":    boolean(math.MaxInt64),
		"no value":                {},
		"a name too many":         object(names("a", "b"), number(1)),
		"a name, and no item":     object(names("a")),
		"an item too many":        object(names("a"), number(1), number(2)),
		"an item, and no name":    object(nil, number(1)),
		"descending":              object(names("b", "a"), numbers(2)...),
		"descending at the end":   object(names("a", "c", "b"), numbers(3)...),
		"descending at the begin": object(names("b", "a", "c"), numbers(3)...),
		"descending by length":    object(names("aa", "a"), numbers(2)...),
		"no name behind another":  object(names("a", ""), numbers(2)...),
		"ascending by case":       object(names("a", "B"), numbers(2)...),
		"by runes of 16 bits":     object(names("\U00010000", "\uffff"), numbers(2)...),
		"by signed bytes":         object(names("é", "z"), numbers(2)...),
		"a name twice":            object(names("a", "a"), numbers(2)...),
		"no name twice":           object(names("", ""), numbers(2)...),
		"a last name twice":       object(names("a", "b", "b"), numbers(3)...),
		"a name twice, apart":     object(names("a", "b", "a"), numbers(3)...),
	}
	for _, s := range wrongTexts() {
		cause := fmt.Sprintf("%.20q (%d)", s, len(s))
		out["the text "+cause] = text(s)
		out["the name "+cause] = object(names(s), number(1))
		out["the last name "+cause] = object(names("", s), numbers(2)...)
		out["the name "+cause+" before another"] = object(names(s, s+"a"), numbers(2)...)
	}
	for _, k := range noKinds {
		out[fmt.Sprint("the kind ", k)] = api.Value{Kind: k}
		out[fmt.Sprint("a number of kind ", k)] = api.Value{Kind: k, N: 1}
		out[fmt.Sprint("a text of kind ", k)] = api.Value{Kind: k, T: "a"}
		out[fmt.Sprint("a list of kind ", k)] = api.Value{Kind: k, Items: numbers(1)}
	}
	return out
}

// wrongTexts are no UTF-8, or too long.
func wrongTexts() []string {
	const most = api.MaxText
	return []string{
		"\xff", "\x80", "a\xff", "\xffa", "\xe2\x82", "€\xe2\x82", "\xc0\x80", "\xed\xa0\x80", "\xf4\x90\x80\x80", "\xc3(",
		strings.Repeat("a", most-1) + "\xff", strings.Repeat("a", most-1) + "\xc3",
		strings.Repeat("a", most+1), strings.Repeat("a", most+2), strings.Repeat("a", 2*most), strings.Repeat("a", 1<<16+1), strings.Repeat("\x00", most+1),
		strings.Repeat("a", most-1) + "é", strings.Repeat("a", most-2) + "€", strings.Repeat("é", most/2) + "a", strings.Repeat("€", most/2), strings.Repeat("é", most), strings.Repeat("a", most) + "\xff",
	}
}

// longTexts are texts of exactly MaxText bytes.
func longTexts() []string {
	const most = api.MaxText
	return []string{
		strings.Repeat("a", most), strings.Repeat("\x00", most), strings.Repeat("é", most/2), strings.Repeat("𝄞", most/4),
		strings.Repeat("€", most/3) + "a", strings.Repeat("a", most-2) + "é", strings.Repeat("a", most-3) + "€", strings.Repeat("a", most-4) + "𝄞",
	}
}

// deep nests a value in that many lists and objects, by turns.
func deep(n int, v api.Value) api.Value {
	for i := range n {
		if i%2 == 0 {
			v = list(v)
		} else {
			v = object(names("k"), v)
		}
	}
	return v
}

// within are values that contain this one somewhere, and are valid if it is.
func within(v api.Value) []api.Value {
	return []api.Value{
		list(v), list(v, number(1)), list(number(1), v), list(number(1), v, number(2)), list(list(), v), list(list(v)), list(list(), list(number(1), v)),
		object(names("k"), v), object(names("a", "k"), number(1), v), object(names("k", "z"), v, text("z")), object(names("a", "k", "z"), number(1), v, text("z")),
		object(names("a", "k"), list(), list(v)), object(names("a", "k"), object(nil), object(names("k"), v)), list(object(names("k"), v)), list(object(nil), object(names("a", "k"), list(), list(number(1), v))),
	}
}

// spoiled are a value with each field changed in turn, in it and in each part of it.
func spoiled(v api.Value) []api.Value {
	var out []api.Value
	change := func(do func(x *api.Value)) {
		x := clone(v)
		do(&x)
		out = append(out, x)
	}
	change(func(x *api.Value) { x.Kind++ })
	change(func(x *api.Value) { x.Kind += 128 })
	change(func(x *api.Value) { x.N++ })
	change(func(x *api.Value) { x.N += 1 << 32 })
	change(func(x *api.Value) { x.T += "\x00" })
	change(func(x *api.Value) { x.T = "b" + x.T })
	change(func(x *api.Value) { x.Names = append(x.Names, "") })
	change(func(x *api.Value) { x.Names = append(x.Names, "~") })
	change(func(x *api.Value) { x.Names = append(names("-"), x.Names...) })
	change(func(x *api.Value) { x.Items = append(x.Items, api.Value{}) })
	change(func(x *api.Value) { x.Items = append(x.Items, list()) })
	change(func(x *api.Value) { x.Items = append(items(api.Value{}), x.Items...) })
	for i, name := range v.Names {
		change(func(x *api.Value) { x.Names[i] = name + "a" })
		change(func(x *api.Value) { x.Names[i] = "\xff" + name })
		change(func(x *api.Value) { x.Names = slices.Delete(x.Names, i, i+1) })
		change(func(x *api.Value) { x.Names = x.Names[:i] })
	}
	for i, item := range v.Items {
		change(func(x *api.Value) { x.Items = slices.Delete(x.Items, i, i+1) })
		change(func(x *api.Value) { x.Items = x.Items[:i] })
		for _, y := range spoiled(item) {
			change(func(x *api.Value) { x.Items[i] = y })
		}
	}
	return out
}

// What follows here is the chapter's, in other ways than the package's own.

// clone is an equal value in new memory.
func clone(v api.Value) api.Value {
	out := v
	out.Names = append([]string{}, v.Names...)
	out.Items = make([]api.Value, 0, len(v.Items))
	for i := range v.Items {
		out.Items = append(out.Items, clone(v.Items[i]))
	}
	return out
}

// equal holds all fields against each other; empty and nil slices are the same.
func equal(a, b api.Value) bool {
	return reflect.DeepEqual(clone(a), clone(b))
}

// parts are all of which a value consists, each with the number of lists and objects that it is in, or is.
func parts(v api.Value, around int) (l []api.Value, depths []int) {
	if v.Kind == api.List || v.Kind == api.Obj {
		around++
	}
	l, depths = items(v), []int{around}
	for _, x := range v.Items {
		m, d := parts(x, around)
		l, depths = append(l, m...), append(depths, d...)
	}
	return l, depths
}

// isValid is S2.
func isValid(v api.Value) bool {
	l, depths := parts(v, 0)
	good := len(l) <= api.MaxValues && slices.Max(depths) <= api.MaxDepth
	for _, x := range l {
		uses := api.Value{Kind: x.Kind}
		switch x.Kind {
		case api.Bool, api.Num:
			uses.N = x.N
		case api.Text:
			uses.T = x.T
		case api.List:
			uses.Items = x.Items
		case api.Obj:
			uses.Names, uses.Items = x.Names, x.Items
		}
		good = good && slices.Contains(kinds, x.Kind) && reflect.DeepEqual(clone(uses), clone(x))
		good = good && (x.Kind != api.Bool || x.N == 0 || x.N == 1) && (x.Kind != api.Obj || len(x.Names) == len(x.Items))
		for _, s := range append(names(x.T), x.Names...) {
			good = good && utf8.ValidString(s) && len(s) <= api.MaxText
		}
		sorted := slices.Clone(x.Names)
		sort.Strings(sorted)
		good = good && slices.Equal(slices.Compact(sorted), x.Names)
	}
	return good
}

// scribble writes into all memory that a value holds, also where its slices could still grow.
func scribble(v api.Value) {
	for i := range v.Names[:cap(v.Names)] {
		v.Names[:cap(v.Names)][i] = "scribble"
	}
	for i := range v.Items[:cap(v.Items)] {
		x := &v.Items[:cap(v.Items)][i]
		scribble(*x)
		*x = text("scribble")
	}
}

// roomy is an equal value whose slices have room for more.
func roomy(v api.Value) api.Value {
	out := v
	out.Names = append(make([]string, 0, len(v.Names)+3), v.Names...)
	out.Items = make([]api.Value, 0, len(v.Items)+3)
	for _, x := range v.Items {
		out.Items = append(out.Items, roomy(x))
	}
	return out
}

// brief is the beginning of a value, for messages.
func brief(v api.Value) string {
	const most = 300
	out := fmt.Sprintf("{%d %d %.20q %.20q", v.Kind, v.N, v.T, v.Names[:min(len(v.Names), 9)])
	for _, x := range v.Items {
		if len(out) > most {
			return out + " .."
		}
		out += " " + brief(x)
	}
	return out + "}"
}

// wantMay holds that a value is valid, or is not.
func wantMay(t *testing.T, v api.Value, want bool) {
	t.Helper()
	if May(v) != want {
		t.Errorf("%s: not %v", brief(v), want)
	}
}

// wantSame holds that two values are the same, or are not, either way.
func wantSame(t *testing.T, a, b api.Value, want bool) {
	t.Helper()
	if Same(a, b) != want || Same(b, a) != want {
		t.Errorf("%s and %s: not %v", brief(a), brief(b), want)
	}
}

// wantGet holds that Get returns an Item, and that neither it nor the value is changed by writing into the other.
func wantGet(t *testing.T, v api.Value, name string, want api.Value) {
	t.Helper()
	own := roomy(v)
	x, ok := Get(own, name)
	if !equal(x, want) || !ok || !equal(own, v) {
		t.Errorf("%s, %q: %s %v, not %s", brief(v), name, brief(x), ok, brief(want))
		return
	}
	scribble(x)
	if !equal(own, v) {
		t.Errorf("%s, %q: shared", brief(v), name)
	}
	x, _ = Get(own, name)
	scribble(own)
	if !equal(x, want) {
		t.Errorf("%s, %q: shared", brief(v), name)
	}
}

// wantNoGet holds that Get returns no Item.
func wantNoGet(t *testing.T, v api.Value, name string) {
	t.Helper()
	if x, ok := Get(v, name); !equal(x, api.Value{}) || ok {
		t.Errorf("%s, %q: %s %v", brief(v), name, brief(x), ok)
	}
}

// wantWith holds that With returns a value, and that none of it, the value and what was inserted is changed by writing into another.
func wantWith(t *testing.T, v api.Value, name string, x, want api.Value) {
	t.Helper()
	own, ownX := roomy(v), roomy(x)
	out, e := With(own, name, ownX)
	if !equal(out, want) || e != api.OK || !equal(own, v) || !equal(ownX, x) {
		t.Errorf("%s, %q, %s: %s %v, not %s", brief(v), name, brief(x), brief(out), e, brief(want))
		return
	}
	scribble(out)
	if !equal(own, v) || !equal(ownX, x) {
		t.Errorf("%s, %q, %s: shared", brief(v), name, brief(x))
	}
	out, _ = With(own, name, ownX)
	scribble(own)
	scribble(ownX)
	if !equal(out, want) {
		t.Errorf("%s, %q, %s: shared", brief(v), name, brief(x))
	}
}

// wantNoWith holds that With returns an error, and nothing else.
func wantNoWith(t *testing.T, v api.Value, name string, x api.Value, want api.Errno) {
	t.Helper()
	own, ownX := roomy(v), roomy(x)
	if out, e := With(own, name, ownX); !equal(out, api.Value{}) || e != want || !equal(own, v) || !equal(ownX, x) {
		t.Errorf("%s, %q, %s: %s %v, not %v", brief(v), name, brief(x), brief(out), e, want)
	}
}

// wantWithout holds that Without returns a value, and that neither it nor the other one is changed by writing into the other.
func wantWithout(t *testing.T, v api.Value, name string, want api.Value, was bool) {
	t.Helper()
	own := roomy(v)
	out, ok := Without(own, name)
	if !equal(out, want) || ok != was || !equal(own, v) {
		t.Errorf("%s, %q: %s %v, not %s %v", brief(v), name, brief(out), ok, brief(want), was)
		return
	}
	scribble(out)
	if !equal(own, v) {
		t.Errorf("%s, %q: shared", brief(v), name)
	}
	out, _ = Without(own, name)
	scribble(own)
	if !equal(out, want) {
		t.Errorf("%s, %q: shared", brief(v), name)
	}
}
