package pick

import (
	"fmt"
	"math"
	"math/rand"
	"reflect"
	"slices"
	"testing"

	"legate/api"
)

func boolean(n int64) api.Value     { return api.Value{Kind: api.Bool, N: n} }
func number(n int64) api.Value      { return api.Value{Kind: api.Num, N: n} }
func str(s string) api.Value        { return api.Value{Kind: api.Text, T: s} }
func list(l ...api.Value) api.Value { return api.Value{Kind: api.List, Items: l} }
func object(n []string, l ...api.Value) api.Value {
	return api.Value{Kind: api.Obj, Names: n, Items: l}
}
func names(l ...string) []string { return l }
func ones(n int) []api.Value     { return slices.Repeat([]api.Value{number(1)}, n) }
func strs(l ...string) api.Value {
	out := list()
	for _, s := range l {
		out.Items = append(out.Items, str(s))
	}
	return out
}

const (
	least    = math.MinInt64
	greatest = math.MaxInt64
	many     = math.MaxInt
)

// noKinds are numbers of no Kind.
var noKinds = []uint8{0, 6, 7, 8, 16, 127, 128, 129, 130, 133, 254, 255}

// errnos are all errors, and numbers of none.
var errnos = []api.Errno{1, 2, 3, 4, 5, 6, 7, 8, 9, 10, 11, 12, 13, 14, 99, -1, math.MaxInt, math.MinInt}

// members are values of each Kind, and of unknown ones, also with what their Kind does not use, and with parts that are not valid.
func members() []api.Value {
	out := []api.Value{
		boolean(0), boolean(1),
		number(0), number(1), number(-1), number(api.MaxVersion), number(greatest), number(least),
		str(""), str("x"), str("1"), str("true"), str("\x00\"\\"), str("é€𝄞"), str("\xff"), str(string(make([]byte, api.MaxText+1))),
		list(), list(number(1)), list(list()), list(object(nil)), strs(""), strs("x"), strs("x", "x", "y"), list(str("x"), number(1)), list(number(1), str("x")), list(str("x"), list(str("y")), str("z")), list(str("x"), str("y"), boolean(0)), list(api.Value{}), list(ones(300)...),
		object(nil), object(names("a"), number(1)), object(names("a"), object(names("a"), str("a"))), object(names("a", "b"), strs("x"), list(list())), object(names("\xff"), boolean(2)),
		{Kind: api.Bool, N: 1, T: "t", Names: names("n"), Items: ones(2)}, {Kind: api.Num, N: 5, T: "t", Names: names("n"), Items: ones(2)}, {Kind: api.Text, N: 5, T: "t", Names: names("n"), Items: ones(2)},
		{Kind: api.List, N: 1, T: "t", Names: names("n", "m", "n"), Items: ones(2)}, {Kind: api.List, N: 1, T: "t", Names: names("n"), Items: strs("x", "y").Items},
		{Kind: api.Obj, N: 1, T: "t", Names: names("a"), Items: ones(1)},
	}
	out = append(out, misnamed()...)
	for _, k := range noKinds {
		out = append(out, api.Value{Kind: k}, api.Value{Kind: k, N: 1, T: "t", Names: names("a"), Items: strs("x").Items}, list(api.Value{Kind: k, T: "t"}))
	}
	return out
}

// misnamed are objects whose Names and Items differ in number, or whose Names are not ascending.
func misnamed() []api.Value {
	return []api.Value{
		object(names("a")), object(nil, number(1)), object(names("a", "b"), number(1)), object(names("a"), ones(2)...), object(names("a", "b", "c"), ones(2)...), object(names("b", "a"), number(1)), object(names("", "a", "b", "c")),
		object(names("b", "a"), ones(2)...), object(names("a", "c", "b"), ones(3)...), object(names("b", "a", "c"), ones(3)...), object(names("a", "b", "d", "c", "e"), ones(5)...), object(names("a", ""), ones(2)...), object(names("aa", "a"), ones(2)...), object(names("a", "B"), ones(2)...),
		object(names("é", "z"), ones(2)...), object(names("\xff", "\x7f"), ones(2)...), object(names("\U00010000", "\uffff"), ones(2)...), object(names("a\x00", "a"), ones(2)...),
		object(names("a", "a"), ones(2)...), object(names("", ""), ones(2)...), object(names("a", "b", "b"), ones(3)...), object(names("a", "a", "b"), ones(3)...), object(names("a", "b", "a"), ones(3)...), object(names("a", "b", "c", "c", "d"), ones(5)...),
		{Kind: api.Obj, N: 3, T: "t", Names: names("b", "a"), Items: ones(2)},
	}
}

// noObjects are no objects, though some have Names and Items as objects have, or as none has.
func noObjects() []api.Value {
	var out []api.Value
	for _, k := range append([]uint8{api.Bool, api.Num, api.Text, api.List}, noKinds...) {
		out = append(out, api.Value{Kind: k}, api.Value{Kind: k, N: 1}, api.Value{Kind: k, T: "a"}, api.Value{Kind: k, Names: names("a"), Items: ones(1)}, api.Value{Kind: k, Names: names("a")}, api.Value{Kind: k, Names: names("b", "a"), Items: ones(2)})
	}
	return append(out, list(object(names("a"), number(1))))
}

// sound are objects of several members, of every Kind, and of few and no members.
func sound() []api.Value {
	return []api.Value{
		object(nil), object(names(""), number(1)), object(names("a"), object(nil)), object(names("", "a"), list(), str("")),
		object(names("a", "b", "c", "d", "e"), boolean(1), number(7), str("x"), strs("x", "y"), object(names("a"), number(2))),
		object(names("", "A", "a", "aa", "ab", "b"), str("none"), number(-1), list(number(1), list()), boolean(0), object(names("zz", "é"), ones(2)...), number(greatest)),
		object(names("\x00", "\x7f", "\u0080", "é", "€", "\uffff", "\U00010000", "\xff"), ones(8)...),
		{Kind: api.Obj, N: 9, T: "t", Names: names("b", "c"), Items: []api.Value{str("x"), {Kind: 77, N: 4}}},
	}
}

// A request is a call of one of the methods that request a name; what it returns is written as a value.
type request struct {
	label string
	name  string
	zero  api.Value
	ask   func(o *Obj) api.Value
	meant func(v api.Value) (api.Value, api.Errno) // what comes of a member, by the chapter
}

func text(name string) request {
	return request{"Text", name, str(""),
		func(o *Obj) api.Value { return str(o.Text(name)) },
		func(v api.Value) (api.Value, api.Errno) {
			return str(v.T), firstOf(wrong{v.Kind != api.Text, api.ErrKind})
		}}
}

func num(name string, low, high int64) request {
	return request{fmt.Sprintf("Num from %d to %d", low, high), name, number(0),
		func(o *Obj) api.Value { return number(o.Num(name, low, high)) },
		func(v api.Value) (api.Value, api.Errno) {
			return number(v.N), firstOf(wrong{v.Kind != api.Num, api.ErrKind}, wrong{v.N < low, api.ErrArg}, wrong{v.N > high, api.ErrArg})
		}}
}

func truth(name string) request {
	written := map[bool]api.Value{false: boolean(0), true: boolean(1)}
	return request{"Bool", name, boolean(0),
		func(o *Obj) api.Value { return written[o.Bool(name)] },
		func(v api.Value) (api.Value, api.Errno) {
			return written[v.N == 1], firstOf(wrong{v.Kind != api.Bool, api.ErrKind})
		}}
}

func items(name string, most int) request {
	return request{fmt.Sprintf("List of %d", most), name, list(),
		func(o *Obj) api.Value { return list(o.List(name, most)...) },
		func(v api.Value) (api.Value, api.Errno) {
			return list(v.Items...), firstOf(wrong{v.Kind != api.List, api.ErrKind}, wrong{len(v.Items) > most, api.ErrLong})
		}}
}

func texts(name string, most int) request {
	return request{fmt.Sprintf("Texts of %d", most), name, list(),
		func(o *Obj) api.Value { return strs(o.Texts(name, most)...) },
		func(v api.Value) (api.Value, api.Errno) {
			var l []string
			noText := false
			for _, x := range v.Items {
				l = append(l, x.T)
				noText = noText || x.Kind != api.Text
			}
			return strs(l...), firstOf(wrong{v.Kind != api.List, api.ErrKind}, wrong{len(v.Items) > most, api.ErrLong}, wrong{noText, api.ErrKind})
		}}
}

func inner(name string, most int) request {
	return request{fmt.Sprintf("Object of %d", most), name, api.Value{},
		func(o *Obj) api.Value { return o.Object(name, most) },
		func(v api.Value) (api.Value, api.Errno) {
			return v, firstOf(wrong{v.Kind != api.Obj, api.ErrKind}, wrong{len(v.Items) > most, api.ErrLong})
		}}
}

func whatever(name string) request {
	return request{"Any", name, api.Value{},
		func(o *Obj) api.Value { return o.Any(name) },
		func(v api.Value) (api.Value, api.Errno) { return v, api.OK }}
}

// requests are all methods' for a name, with bounds that nothing is outside of.
func requests(name string) []request {
	return []request{text(name), num(name, least, greatest), truth(name), items(name, many), texts(name, many), inner(name, many), whatever(name)}
}

// narrow are requests with bounds that nothing is within.
func narrow(name string) []request {
	return []request{num(name, 1, 0), num(name, greatest, least), items(name, -1), items(name, math.MinInt), texts(name, -1), inner(name, -1), inner(name, math.MinInt)}
}

// own is the request of a member's own Kind.
func own(name string, v api.Value) request {
	switch v.Kind {
	case api.Bool:
		return truth(name)
	case api.Num:
		return num(name, v.N, v.N)
	case api.Text:
		return text(name)
	case api.List:
		return items(name, len(v.Items))
	case api.Obj:
		return inner(name, len(v.Items))
	}
	return whatever(name)
}

// ownAll are these of all members.
func ownAll(v api.Value) []request {
	var out []request
	for i, x := range v.Items {
		out = append(out, own(v.Names[i], x))
	}
	return out
}

// wrong is an error, and whether it applies.
type wrong struct {
	applies bool
	e       api.Errno
}

func firstOf(l ...wrong) api.Errno {
	for _, w := range l {
		if w.applies {
			return w.e
		}
	}
	return api.OK
}

// orders are all orders of some things.
func orders[T any](l []T) [][]T {
	if len(l) == 0 {
		return [][]T{nil}
	}
	var out [][]T
	for i, x := range l {
		for _, rest := range orders(slices.Delete(slices.Clone(l), i, i+1)) {
			out = append(out, append([]T{x}, rest...))
		}
	}
	return out
}

// want holds that a request returns a result, and that the picker's error is then this one.
func want(t *testing.T, o *Obj, r request, result api.Value, e api.Errno) {
	t.Helper()
	if got := r.ask(o); !equal(got, result) {
		t.Errorf("%s(%.20q): %s, not %s", r.label, r.name, brief(got), brief(result))
	}
	if got := o.Err(); got != e {
		t.Errorf("%s(%.20q): then %v, not %v", r.label, r.name, got, e)
	}
}

// wantDone holds what Done and Err return, however often.
func wantDone(t *testing.T, o *Obj, done, err api.Errno) {
	t.Helper()
	for range 2 {
		if got, e := o.Done(), o.Err(); got != done || e != err {
			t.Errorf("Done %v and Err %v, not %v and %v", got, e, done, err)
		}
	}
}

// wantStopped holds that a picker has that first error, whatever is asked.
func wantStopped(t *testing.T, o *Obj, e api.Errno, asked ...string) {
	t.Helper()
	for range 2 {
		wantDone(t, o, e, e)
		for _, name := range append(asked, "a", "b", "", "absent") {
			if o.Has(name) {
				t.Errorf("Has(%q) after %v", name, e)
			}
			for _, r := range append(requests(name), narrow(name)...) {
				want(t, o, r, r.zero, e)
			}
		}
		for _, f := range append(errnos, api.OK) {
			o.Fail(f)
			wantDone(t, o, e, e)
		}
	}
}

// model is the chapter's picker, in other ways than the package's own.
type model struct {
	v     api.Value
	asked []string
	e     api.Errno
}

func modelOf(v api.Value) *model {
	ascending := slices.Compact(slices.Sorted(slices.Values(v.Names)))
	e := firstOf(wrong{v.Kind != api.Obj, api.ErrKind}, wrong{len(v.Names) != len(v.Items), api.ErrForm}, wrong{!slices.Equal(ascending, v.Names), api.ErrForm})
	return &model{v: v, e: e}
}

func (m *model) has(name string) bool {
	return m.e == api.OK && slices.Contains(m.v.Names, name)
}

func (m *model) ask(r request) api.Value {
	if m.e != api.OK {
		return r.zero
	}
	if !m.has(r.name) {
		m.e = api.ErrNone
		return r.zero
	}
	m.asked = append(m.asked, r.name)
	out, e := r.meant(m.v.Items[slices.Index(m.v.Names, r.name)])
	if e != api.OK {
		m.e = e
		return r.zero
	}
	return out
}

func (m *model) fail(e api.Errno) {
	if m.e == api.OK {
		m.e = e
	}
}

func (m *model) done() api.Errno {
	for _, name := range m.v.Names {
		if m.e == api.OK && !slices.Contains(m.asked, name) {
			return api.ErrMore
		}
	}
	return m.e
}

// clone is an equal value in new memory.
func clone(v api.Value) api.Value {
	out := v
	out.Names = append([]string{}, v.Names...)
	out.Items = make([]api.Value, 0, len(v.Items))
	for i := range v.Items {
		out.Items = append(out.Items, clone(v.Items[i]))
	}
	return out
}

// equal holds all fields against each other; empty and nil slices are the same.
func equal(a, b api.Value) bool {
	return reflect.DeepEqual(clone(a), clone(b))
}

// room is what stands where slices could still grow.
const room = "room"

// roomy is an equal value whose slices have room for more.
func roomy(v api.Value) api.Value {
	out := v
	out.Names = append(slices.Clone(v.Names), room, room)[:len(v.Names)]
	out.Items = nil
	for _, x := range v.Items {
		out.Items = append(out.Items, roomy(x))
	}
	out.Items = append(out.Items, str(room), str(room))[:len(v.Items)]
	return out
}

// isRoomy reports whether the room is as roomy left it.
func isRoomy(v api.Value) bool {
	n, m := len(v.Names), len(v.Items)
	return slices.Equal(v.Names[n:n+2], names(room, room)) && equal(list(v.Items[m:m+2]...), strs(room, room)) &&
		!slices.ContainsFunc(v.Items, func(x api.Value) bool { return !isRoomy(x) })
}

// scribble writes into all memory that a value holds, also where its slices could still grow.
func scribble(v api.Value) {
	for i := range v.Names[:cap(v.Names)] {
		v.Names[:cap(v.Names)][i] = "scribble"
	}
	for i := range v.Items[:cap(v.Items)] {
		x := &v.Items[:cap(v.Items)][i]
		scribble(*x)
		*x = str("scribble")
	}
}

// brief is the beginning of a value, for messages.
func brief(v api.Value) string {
	const most = 300
	out := fmt.Sprintf("{%d %d %.20q %.20q", v.Kind, v.N, v.T, v.Names[:min(len(v.Names), 9)])
	for _, x := range v.Items {
		if len(out) > most {
			return out + " .."
		}
		out += " " + brief(x)
	}
	return out + "}"
}

// anyObject is an object at random, of few names and of these members; in one case of sixteen its Names, Items or Kind are others.
func anyObject(r *rand.Rand, l []api.Value) api.Value {
	out := api.Value{Kind: api.Obj}
	for _, name := range someNames {
		if r.Intn(2) == 0 {
			out.Names = append(out.Names, name)
			out.Items = append(out.Items, l[r.Intn(len(l))])
		}
	}
	switch r.Intn(64) {
	case 0:
		slices.Reverse(out.Names)
	case 1:
		out.Names = append(out.Names, "a")
	case 2:
		out.Items = append(out.Items, number(1))
	case 3:
		out.Kind = uint8(r.Intn(256))
	}
	return out
}

// someNames are ascending.
var someNames = []string{"", "A", "a", "aa", "b", "é", "\xff"}

// anyRequest is a request at random, more often than not of the member's own Kind.
func anyRequest(r *rand.Rand, v api.Value) request {
	name := someNames[r.Intn(len(someNames))]
	at := slices.Index(v.Names, name)
	if at >= 0 && at < len(v.Items) && r.Intn(8) > 0 {
		return own(name, v.Items[at])
	}
	l := append(requests(name), narrow(name)...)
	l = append(l, num(name, -1, 1), items(name, 1), texts(name, 2), inner(name, 1))
	return l[r.Intn(len(l))]
}
