package canon

import (
	"fmt"
	"math"
	"math/rand"
	"slices"
	"strings"
	"testing"

	"legate/api"
	"legate/read"
	"legate/value"
)

func boolean(n int64) api.Value     { return api.Value{Kind: api.Bool, N: n} }
func number(n int64) api.Value      { return api.Value{Kind: api.Num, N: n} }
func str(s string) api.Value        { return api.Value{Kind: api.Text, T: s} }
func list(l ...api.Value) api.Value { return api.Value{Kind: api.List, Items: l} }
func object(n []string, l ...api.Value) api.Value {
	return api.Value{Kind: api.Obj, Names: n, Items: l}
}
func names(l ...string) []string { return l }
func ones(n int) []api.Value     { return slices.Repeat([]api.Value{number(1)}, n) }

// A sample is a valid value, and its form.
type sample struct {
	v    api.Value
	form string
}

// plain are values without Items, and without bytes below 20 (hexadecimal).
func plain() []sample {
	return []sample{
		{boolean(0), "false"}, {boolean(1), "true"},
		{number(0), "0"}, {number(1), "1"}, {number(-1), "-1"}, {number(9), "9"}, {number(10), "10"}, {number(-10), "-10"}, {number(1234567890), "1234567890"},
		{number(api.MaxVersion), "1099511627776"}, {number(math.MaxInt64), "9223372036854775807"}, {number(math.MinInt64), "-9223372036854775808"},
		{str(""), `""`}, {str("a"), `"a"`}, {str(" "), `" "`}, {str("true"), `"true"`}, {str("-1"), `"-1"`}, {str("[1,{}]"), `"[1,{}]"`},
		{str(`"`), `"\""`}, {str(`\`), `"\\"`}, {str(`""`), `"\"\""`}, {str(`\\`), `"\\\\"`}, {str(`\"`), `"\\\""`}, {str(`"\`), `"\"\\"`}, {str(`a"b\c`), `"a\"b\\c"`}, {str(`\u0041\n`), `"\\u0041\\n"`},
		{str("/"), `"/"`}, {str("<&>'"), `"<&>'"`}, {str("\x7f"), "\"\x7f\""}, {str("\u0080\u0085\u2028\u2029\ufeff"), "\"\u0080\u0085\u2028\u2029\ufeff\""},
		{str("é"), `"é"`}, {str("€"), `"€"`}, {str("𝄞"), `"𝄞"`}, {str("é€𝄞\ufffd\uffff\U0010ffff"), "\"é€𝄞\ufffd\uffff\U0010ffff\""}, {str("e\u0301"), "\"e\u0301\""},
	}
}

// low are strings with bytes below 20 (hexadecimal).
func low() []sample {
	return []sample{
		{str("\x00"), "\"\x00\""}, {str("\n"), "\"\n\""}, {str("\x1f"), "\"\x1f\""}, {str("\b\f\n\r\t"), "\"\b\f\n\r\t\""}, {str("\n\"\t\\\x01"), "\"\n\\\"\t\\\\\x01\""}, {str("a\x00b"), "\"a\x00b\""},
	}
}

// nested are lists and objects in each other, of ordinary parts.
func nested() []sample {
	return []sample{
		{list(), "[]"}, {object(nil), "{}"}, {list(list()), "[[]]"}, {list(object(nil)), "[{}]"}, {object(names(""), object(nil)), `{"":{}}`}, {object(names("a"), list()), `{"a":[]}`},
		{list(number(1)), "[1]"}, {list(number(2), number(1), number(2)), "[2,1,2]"}, {list(number(12), number(3)), "[12,3]"}, {list(number(1), number(23)), "[1,23]"}, {list(number(1), number(-1)), "[1,-1]"}, {list(boolean(1), boolean(0)), "[true,false]"},
		{list(str("b"), str("a"), str("")), `["b","a",""]`}, {list(str(`","`)), `["\",\""]`}, {list(str(""), str("")), `["",""]`}, {list(list(), list(), object(nil), list()), "[[],[],{},[]]"},
		{list(number(1), str("1"), boolean(1), list(number(1)), object(names("1"), number(1))), `[1,"1",true,[1],{"1":1}]`}, {list(list(number(1), number(2)), list(number(3), list(number(4))), number(5)), "[[1,2],[3,[4]],5]"},
		{object(names(""), str("")), `{"":""}`}, {object(names("a"), number(1)), `{"a":1}`}, {object(names("a", "b"), number(2), number(1)), `{"a":2,"b":1}`}, {object(names("", "a"), str("a"), str("")), `{"":"a","a":""}`},
		{object(names("A", "Z", "a", "aa", "z", "é", "€", "\uffff", "𐀀"), ones(9)...), `{"A":1,"Z":1,"a":1,"aa":1,"z":1,"é":1,"€":1,"` + "\uffff" + `":1,"𐀀":1}`},
		{object(names(`"`, `\`, `\"`, "\x7f"), ones(4)...), `{"\"":1,"\\":1,"\\\"":1,"` + "\x7f" + `":1}`}, {object(names(`":1,"`), boolean(0)), `{"\":1,\"":false}`}, {object(names("true"), boolean(1)), `{"true":true}`},
		{object(names("a", "b"), object(names("a", "b"), number(1), object(names("a"), number(2))), object(names("a"), number(3))), `{"a":{"a":1,"b":{"a":2}},"b":{"a":3}}`},
		{object(names("a", "z"), list(list(), list(object(nil))), object(names("y"), list(object(names("x"), number(1)), object(names("x"), number(2))))), `{"a":[[],[{}]],"z":{"y":[{"x":1},{"x":2}]}}`},
	}
}

// samples are all of these, and values in and beside each other; no two are the same.
func samples() []sample {
	one := append(plain(), low()...)
	out := append(slices.Clone(one), nested()...)
	for i, x := range one {
		y := one[(i+5)%len(one)]
		out = append(out, sample{list(x.v, y.v, list(x.v)), "[" + x.form + "," + y.form + ",[" + x.form + "]]"})
		out = append(out, sample{object(names("x", "y"), x.v, object(names("x"), y.v)), `{"x":` + x.form + `,"y":{"x":` + y.form + "}}"})
		if x.v.Kind == api.Text {
			out = append(out, sample{object(names("", x.v.T+"a", x.v.T+"b"), y.v, x.v, list(y.v)), `{"":` + y.form + "," + strings.TrimSuffix(x.form, `"`) + `a":` + x.form + "," + strings.TrimSuffix(x.form, `"`) + `b":[` + y.form + "]}"})
		}
	}
	return out
}

// wantForm holds that Encode returns a form, at each call, and leaves the value as it was, also where its slices could still grow.
func wantForm(t *testing.T, v api.Value, want string) {
	t.Helper()
	own := roomy(v)
	for range 2 {
		form, e := Encode(own)
		if form != want || e != api.OK {
			t.Errorf("%s: %.300q (%d) %v, not %.300q (%d)", brief(v), form, len(form), e, want, len(want))
			return
		}
	}
	if !value.Same(own, v) || !isRoomy(own) {
		t.Errorf("%s: written into", brief(v))
	}
}

// wantNoForm holds that Encode returns ErrForm, no form, and leaves the value as it was.
func wantNoForm(t *testing.T, v api.Value, cause string) {
	t.Helper()
	own := roomy(v)
	if form, e := Encode(own); form != "" || e != api.ErrForm {
		t.Errorf("%s: %s: %.300q (%d) %v", cause, brief(v), form, len(form), e)
	}
	if !value.Same(own, v) || !isRoomy(own) {
		t.Errorf("%s: %s: written into", cause, brief(v))
	}
}

// formOf is the form of a valid value.
func formOf(t *testing.T, v api.Value) string {
	t.Helper()
	form, e := Encode(v)
	if e != api.OK {
		t.Errorf("%s: %v", brief(v), e)
	}
	return form
}

// room is what stands where slices could still grow.
const room = "room"

// roomy is an equal value whose slices have room for more.
func roomy(v api.Value) api.Value {
	out := v
	out.Names = append(slices.Clone(v.Names), room, room)[:len(v.Names)]
	out.Items = nil
	for _, x := range v.Items {
		out.Items = append(out.Items, roomy(x))
	}
	out.Items = append(out.Items, str(room), str(room))[:len(v.Items)]
	return out
}

// isRoomy reports whether the room is as roomy left it.
func isRoomy(v api.Value) bool {
	n := len(v.Items)
	return slices.Equal(v.Names[len(v.Names):len(v.Names)+2], names(room, room)) &&
		value.Same(list(v.Items[n:n+2]...), list(str(room), str(room))) && !slices.ContainsFunc(v.Items, func(x api.Value) bool { return !isRoomy(x) })
}

// brief is the beginning of a value, for messages.
func brief(v api.Value) string {
	const most = 300
	out := fmt.Sprintf("{%d %d %.20q %.20q", v.Kind, v.N, v.T, v.Names[:min(len(v.Names), 9)])
	for _, x := range v.Items {
		if len(out) > most {
			return out + " .."
		}
		out += " " + brief(x)
	}
	return out + "}"
}

// isLow reports whether a string or a name within a value has a byte below 20 (hexadecimal).
func isLow(v api.Value) bool {
	below := func(s string) bool { return strings.ContainsFunc(s, func(r rune) bool { return r < ' ' }) }
	return below(v.T) || slices.ContainsFunc(v.Names, below) || slices.ContainsFunc(v.Items, isLow)
}

// model is the form of a valid value, put together from the outside: the parts' forms are joined.
func model(v api.Value) string {
	switch v.Kind {
	case api.Bool:
		return fmt.Sprint(v.N == 1)
	case api.Num:
		return fmt.Sprint(v.N)
	case api.Text:
		return quoted(v.T)
	}
	var parts []string
	for i, x := range v.Items {
		parts = append(parts, model(x))
		if v.Kind == api.Obj {
			parts[i] = quoted(v.Names[i]) + ":" + parts[i]
		}
	}
	if v.Kind == api.Obj {
		return "{" + strings.Join(parts, ",") + "}"
	}
	return "[" + strings.Join(parts, ",") + "]"
}

func quoted(s string) string {
	return `"` + strings.NewReplacer(`"`, `\"`, `\`, `\\`).Replace(s) + `"`
}

// within are values that contain this one somewhere, and are valid if it is and isn't too deep.
func within(v api.Value) []api.Value {
	return []api.Value{
		list(v), list(v, number(1)), list(number(1), v), list(number(1), v, number(2)), list(list(), v), list(list(v)), list(list(), list(number(1), v)),
		object(names("k"), v), object(names("a", "k"), number(1), v), object(names("k", "z"), v, str("z")), object(names("a", "k"), object(nil), object(names("k"), v)),
		list(object(names("k"), v)), object(names("a", "k"), list(), list(v)), deep(6, v), deep(8, list(number(1), object(names("a", "k", "z"), number(1), v, str("z")), number(2))),
	}
}

// deep nests a value in that many lists and objects, by turns.
func deep(n int, v api.Value) api.Value {
	for i := range n {
		if i%2 == 0 {
			v = list(v)
		} else {
			v = object(names("k"), v)
		}
	}
	return v
}

// changed are a value with one field changed in turn, in it and in each part of it; some are valid, some are not. One Item, or one name with its Item, more or less is there as well.
func changed(v api.Value) []api.Value {
	var out []api.Value
	change := func(do func(x *api.Value)) {
		x := value.Copy(v)
		do(&x)
		out = append(out, x)
	}
	for kind := range uint8(8) {
		if kind != v.Kind {
			change(func(x *api.Value) { x.Kind = kind })
		}
	}
	for _, n := range []int64{1, -1, 2, 10, 1 << 32, math.MinInt64} {
		change(func(x *api.Value) { x.N += n })
	}
	change(func(x *api.Value) { x.N = -x.N - 1 })
	for _, s := range []string{"a", " ", "\x00", `"`, `\`, "é", "\xff", ","} {
		change(func(x *api.Value) { x.T += s })
		change(func(x *api.Value) { x.T = s + x.T })
		change(func(x *api.Value) { x.Names = append(x.Names, s) })
		change(func(x *api.Value) { x.Names, x.Items = append(x.Names, "~"+s), append(x.Items, str(s)) })
		for i, name := range v.Names {
			change(func(x *api.Value) { x.Names[i] = name + s })
			change(func(x *api.Value) { x.Names[i] = s + name })
		}
	}
	for _, x := range []api.Value{boolean(0), number(0), str(""), list(), object(nil), {}} {
		change(func(y *api.Value) { y.Items = append(y.Items, x) })
		change(func(y *api.Value) { y.Items = append([]api.Value{x}, y.Items...) })
	}
	for i, x := range v.Items {
		change(func(y *api.Value) { y.Items = slices.Delete(y.Items, i, i+1) })
		change(func(y *api.Value) { y.Items = slices.Insert(y.Items, i, x) })
		for _, z := range changed(x) {
			change(func(y *api.Value) { y.Items[i] = z })
		}
	}
	for i := range v.Names {
		change(func(x *api.Value) { x.Names = slices.Delete(x.Names, i, i+1) })
		if i < len(v.Items) {
			change(func(x *api.Value) { x.Names, x.Items = slices.Delete(x.Names, i, i+1), slices.Delete(x.Items, i, i+1) })
		}
	}
	return out
}

// validChanges are those of them that are valid.
func validChanges(v api.Value) []api.Value {
	return slices.DeleteFunc(changed(v), func(x api.Value) bool { return !value.May(x) })
}

// A spelling is how a rune is written in a string of a JSON text.
type spelling func(r rune) string

// short writes a rune in as few bytes as there can be.
func short(r rune) string {
	if r == '"' || r == '\\' || r < ' ' {
		return named(r)
	}
	return string(r)
}

// named writes a letter, or what it is, after a \ where there is one for the rune.
func named(r rune) string {
	const runes, letters = "\"\\/\b\f\n\r\t", `"\/bfnrt`
	if at := strings.IndexRune(runes, r); at >= 0 {
		return `\` + letters[at:at+1]
	}
	if r < ' ' {
		return numbered(r)
	}
	return string(r)
}

// numbered writes digits after a \u.
func numbered(r rune) string {
	if r < 0x10000 {
		return fmt.Sprintf(`\u%04x`, r)
	}
	return fmt.Sprintf(`\u%04X\u%04x`, 0xd800+(r-0x10000)>>10, 0xdc00+(r-0x10000)&0x3ff)
}

// spelt is a JSON text of a value: with this spelling, what gap returns between tokens, and names from the last to the first.
func spelt(v api.Value, spell spelling, gap func() string) string {
	word := func(s string) string {
		var out strings.Builder
		for _, r := range s {
			out.WriteString(spell(r))
		}
		return `"` + out.String() + `"`
	}
	switch v.Kind {
	case api.Text:
		return gap() + word(v.T) + gap()
	case api.Bool, api.Num:
		return gap() + model(v) + gap()
	}
	var parts []string
	for i, x := range v.Items {
		part := spelt(x, spell, gap)
		if v.Kind == api.Obj {
			part = gap() + word(v.Names[i]) + gap() + ":" + part
		}
		parts = append(parts, part)
	}
	if v.Kind == api.List {
		return gap() + "[" + gap() + strings.Join(parts, ",") + gap() + "]" + gap()
	}
	slices.Reverse(parts)
	return gap() + "{" + gap() + strings.Join(parts, ",") + gap() + "}" + gap()
}

func noGap() string { return "" }

// wantNotLonger holds that a text is read as a value, whose form has at most as many bytes.
func wantNotLonger(t *testing.T, s string, want api.Value) {
	t.Helper()
	v, place, e := read.Read(s)
	if e != api.OK || !value.Same(v, want) {
		t.Errorf("%.300q: read: %s %d %v", s, brief(v), place, e)
		return
	}
	if form := formOf(t, v); len(form) > len(s) || form != model(want) {
		t.Errorf("%.300q: %.300q", s, form)
	}
}

// anyValue is a valid value at random, of at most that depth.
func anyValue(r *rand.Rand, depth int) api.Value {
	kind := r.Intn(5)
	if depth == 0 {
		kind = r.Intn(3)
	}
	switch kind {
	case 0:
		return boolean(r.Int63n(2))
	case 1:
		return number([]int64{r.Int63n(10), -r.Int63n(1000), int64(r.Uint64()) >> r.Intn(64), math.MaxInt64, math.MinInt64}[r.Intn(5)])
	case 2:
		return str(anyText(r))
	}
	out := api.Value{Kind: api.List}
	for range r.Intn(6) {
		out.Items = append(out.Items, anyValue(r, r.Intn(depth)))
	}
	if kind == 4 {
		out.Kind = api.Obj
		for range out.Items {
			out.Names = append(out.Names, anyText(r))
		}
		slices.Sort(out.Names)
		out.Names = slices.Compact(out.Names)
		out.Items = out.Items[:len(out.Names)]
	}
	return out
}

// anyText is UTF-8 at random, in one case of eight with bytes below 20 (hexadecimal).
func anyText(r *rand.Rand) string {
	runes := []rune("ab\"\\\"\\/{}[],: 1\u007f\u0080é€\ud7ff\ue000\ufffd\uffff\U00010000\U0010ffff𝄞\x00\x01\b\f\n\r\t\x1f")
	if r.Intn(8) > 0 {
		runes = runes[:len(runes)-8]
	}
	out := ""
	for range r.Intn(5) {
		out += string(runes[r.Intn(len(runes))])
	}
	return out
}
