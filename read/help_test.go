package read

import (
	"fmt"
	"math"
	"math/rand"
	"reflect"
	"slices"
	"strings"
	"testing"

	"legate/api"
	"legate/lex"
	"legate/value"
)

func boolean(n int64) api.Value         { return api.Value{Kind: api.Bool, N: n} }
func number(n int64) api.Value          { return api.Value{Kind: api.Num, N: n} }
func text(s string) api.Value           { return api.Value{Kind: api.Text, T: s} }
func list(items ...api.Value) api.Value { return api.Value{Kind: api.List, Items: items} }

// object is made of names and Items by turns.
func object(members ...any) api.Value {
	out := api.Value{Kind: api.Obj}
	for i := 0; i < len(members); i += 2 {
		out.Names = append(out.Names, members[i].(string))
		out.Items = append(out.Items, members[i+1].(api.Value))
	}
	return out
}

// A sample is a JSON text, and its value.
type sample struct {
	text string
	v    api.Value
}

// samples are values of each Kind, alone and in each other, without white space around them.
func samples() []sample {
	return []sample{
		{"true", boolean(1)}, {"false", boolean(0)},
		{"0", number(0)}, {"1", number(1)}, {"-1", number(-1)}, {"42", number(42)}, {"1099511627776", number(api.MaxVersion)},
		{"9223372036854775807", number(math.MaxInt64)}, {"-9223372036854775808", number(math.MinInt64)},
		{`""`, text("")}, {`"a"`, text("a")}, {`"true"`, text("true")}, {`"1"`, text("1")}, {`"[1,2]"`, text("[1,2]")}, {`" "`, text(" ")},
		{`"é€𝄞"`, text("é€𝄞")}, {`"\"\\\/\b\f\n\r\t"`, text("\"\\/\b\f\n\r\t")}, {`"\u0000\u00e9\u20AC\ud834\udd1e"`, text("\x00é€𝄞")},
		{"[]", list()}, {"{}", object()}, {"[[]]", list(list())}, {"[{}]", list(object())}, {`{"":{}}`, object("", object())}, {`{"":[]}`, object("", list())},
		{"[1]", list(number(1))}, {"[1,2]", list(number(1), number(2))}, {"[2,1,2]", list(number(2), number(1), number(2))}, {"[false,true]", list(boolean(0), boolean(1))},
		{`["b","a","b"]`, list(text("b"), text("a"), text("b"))}, {"[[],[],{},{}]", list(list(), list(), object(), object())}, {`[1,"1",true,[1],{"1":1}]`, list(number(1), text("1"), boolean(1), list(number(1)), object("1", number(1)))},
		{"[[1,2],[3,[4]],5]", list(list(number(1), number(2)), list(number(3), list(number(4))), number(5))},
		{`{"a":1}`, object("a", number(1))}, {`{"":"a"}`, object("", text("a"))}, {`{"a":"a","b":"b"}`, object("a", text("a"), "b", text("b"))},
		{`{"b":1,"a":2}`, object("a", number(2), "b", number(1))}, {`{"b":1,"c":2,"a":3}`, object("a", number(3), "b", number(1), "c", number(2))},
		{`{"a":1,"":2}`, object("", number(2), "a", number(1))}, {`{"aa":1,"a":2,"b":3,"B":4}`, object("B", number(4), "a", number(2), "aa", number(1), "b", number(3))},
		{`{"𐀀":1,"` + "\uffff" + `":2,"é":3,"z":4}`, object("z", number(4), "é", number(3), "\uffff", number(2), "𐀀", number(1))},
		{`{"a":{"a":1,"b":{"a":2}},"b":{"a":3}}`, object("a", object("a", number(1), "b", object("a", number(2))), "b", object("a", number(3)))},
		{`{"z":{"y":[{"x":1},{"x":2}]},"a":[[],[{}]]}`, object("a", list(list(), list(object())), "z", object("y", list(object("x", number(1)), object("x", number(2)))))},
	}
}

// spaces are white space: each byte of it, and some.
var spaces = []string{" ", "\t", "\n", "\r", "  ", "\r\n", " \t\n\r \n"}

// A wrong is a text that is none of JSON, with the place and the error.
type wrong struct {
	text  string
	place int
	e     api.Errno
}

// wantRead holds that Read returns a value, in new memory at each call.
func wantRead(t *testing.T, s string, want api.Value) {
	t.Helper()
	for range 2 {
		v, place, e := Read(s)
		if !equal(v, want) || place != 0 || e != api.OK {
			t.Errorf("%.120q (%d): %s %d %v, not %s", s, len(s), brief(v), place, e, brief(want))
			return
		}
		scribble(v)
	}
}

// wantWrong holds that Read returns an error at a place, and no value.
func wantWrong(t *testing.T, s string, place int, want api.Errno) {
	t.Helper()
	if v, p, e := Read(s); !equal(v, api.Value{}) || p != place || e != want {
		t.Errorf("%.120q (%d): %s %d %v, not %d %v", s, len(s), brief(v), p, e, place, want)
	}
}

// wantModel holds that Read returns what the model says.
func wantModel(t *testing.T, s string) api.Errno {
	t.Helper()
	v, place, e := model(s)
	if e == api.OK {
		wantRead(t, s, v)
	} else {
		wantWrong(t, s, place, e)
	}
	return e
}

// clone is an equal value in new memory, without nil slices.
func clone(v api.Value) api.Value {
	out := v
	out.Names = append([]string{}, v.Names...)
	out.Items = make([]api.Value, 0, len(v.Items))
	for _, x := range v.Items {
		out.Items = append(out.Items, clone(x))
	}
	return out
}

// equal holds all fields against each other; empty and nil slices are the same.
func equal(a, b api.Value) bool { return reflect.DeepEqual(clone(a), clone(b)) }

// scribble writes into all memory that a value holds, also where its slices could still grow. What is shared within the value would be seen at the next call, or here.
func scribble(v api.Value) {
	for i := range v.Names[:cap(v.Names)] {
		v.Names[:cap(v.Names)][i] = "scribble"
	}
	for i := range v.Items[:cap(v.Items)] {
		x := &v.Items[:cap(v.Items)][i]
		scribble(*x)
		*x = text("scribble")
	}
}

// brief is the beginning of a value, for messages.
func brief(v api.Value) string {
	const most = 300
	out := fmt.Sprintf("{%d %d %.20q %.20q", v.Kind, v.N, v.T, v.Names[:min(len(v.Names), 9)])
	for _, x := range v.Items {
		if len(out) > most {
			return out + " .."
		}
		out += " " + brief(x)
	}
	return out + "}"
}

// What follows here is the chapter's, in another way than the package's own: one token after another changes what is open and what is expected.

// A frame is a list or an object that is open.
type frame struct {
	names []string // of an object, as they came
	items []api.Value
}

// What is expected.
const (
	aValue  = iota // also behind a comma of a list, and behind a colon
	anItem         // or the list's end
	aMember        // or the object's end
	aName
	aColon
	inList   // a comma, or the list's end
	inObject // a comma, or the object's end
	theEnd
)

const valueTokens = "{[tf1\""

// allowed are the tokens that may come where something is expected, by their letters.
var allowed = [...]string{aValue: valueTokens, anItem: valueTokens + "]", aMember: `"}`, aName: `"`, aColon: ":", inList: ",]", inObject: ",}", theEnd: "{}[],:tf1\"."}

// letters are the tokens' by their kinds.
const letters = " {}[],:tf1\"."

// model is what Read should return.
func model(s string) (api.Value, int, api.Errno) {
	if len(s) > api.MaxDoc {
		return api.Value{}, 0, api.ErrLong
	}
	l, place, wrongToken := lex.All(s)
	if wrongToken != api.OK {
		l, _, _ = lex.All(s[:place])
		l = l[:len(l)-1]
	}
	var open []frame
	open = append(open, frame{}) // holds the whole value
	state, count := aValue, 0
	for _, m := range l {
		e := fault(m, state, count, open)
		if e != api.OK {
			return api.Value{}, m.At, e
		}
		if strings.IndexByte(valueTokens, letters[m.Kind]) >= 0 && state != aName && state != aMember {
			count++
		}
		state, open = after(m, state, open)
	}
	if wrongToken != api.OK {
		return api.Value{}, place, wrongToken
	}
	return open[0].items[0], 0, api.OK
}

// fault is what is wrong with a token, where lex.Next finds nothing.
func fault(m lex.Mark, state, count int, open []frame) api.Errno {
	letter := letters[m.Kind]
	isValue := strings.IndexByte(valueTokens, letter) >= 0 && state != aName && state != aMember
	switch {
	case letter == '.' && state != theEnd:
		return api.ErrShort
	case strings.IndexByte(allowed[state], letter) < 0:
		return api.ErrForm
	case (state == aName || state == aMember) && letter == '"' && slices.Contains(open[len(open)-1].names, m.T):
		return api.ErrTwice
	case letter != '.' && state == theEnd:
		return api.ErrMore
	case isValue && count == api.MaxValues:
		return api.ErrLong
	case isValue && (letter == '{' || letter == '[') && len(open) > api.MaxDepth:
		return api.ErrDeep
	}
	return api.OK
}

// after is what is expected, and open, after a token.
func after(m lex.Mark, state int, open []frame) (int, []frame) {
	top := &open[len(open)-1]
	switch letters[m.Kind] {
	case '{':
		top.items = append(top.items, object())
		return aMember, append(open, frame{})
	case '[':
		top.items = append(top.items, list())
		return anItem, append(open, frame{})
	case '}', ']':
		open = open[:len(open)-1]
		around := open[len(open)-1].items
		around[len(around)-1] = sorted(around[len(around)-1], *top)
	case ':':
		return aValue, open
	case ',':
		if state == inList {
			return aValue, open
		}
		return aName, open
	case '"':
		if state == aName || state == aMember {
			top.names = append(top.names, m.T)
			return aColon, open
		}
		top.items = append(top.items, text(m.T))
	case '1':
		top.items = append(top.items, number(m.N))
	case 't':
		top.items = append(top.items, boolean(1))
	case 'f':
		top.items = append(top.items, boolean(0))
	case '.':
		return theEnd, open
	}
	if len(open) == 1 {
		return theEnd, open
	}
	around := open[len(open)-2].items
	if around[len(around)-1].Kind == api.List {
		return inList, open
	}
	return inObject, open
}

// sorted is a list or an object with what came.
func sorted(v api.Value, f frame) api.Value {
	if v.Kind == api.List {
		return list(f.items...)
	}
	v.Names = append(v.Names, f.names...)
	slices.Sort(v.Names)
	for _, name := range v.Names {
		v.Items = append(v.Items, f.items[slices.Index(f.names, name)])
	}
	return v
}

// A writer writes values as JSON texts, each in one of many spellings.
type writer struct {
	r    *rand.Rand
	wide bool // with white space
	out  []byte
}

// spell is a text of a value: in any order of names, with any white space, and any spelling of strings.
func spell(r *rand.Rand, v api.Value) string {
	w := writer{r: r, wide: r.Intn(3) > 0}
	w.value(v)
	return string(w.out)
}

func (w *writer) token(s string) {
	w.white()
	w.out = append(w.out, s...)
	w.white()
}

func (w *writer) white() {
	for w.wide && w.r.Intn(3) == 0 {
		w.out = append(w.out, " \t\n\r"[w.r.Intn(4)])
	}
}

func (w *writer) value(v api.Value) {
	switch v.Kind {
	case api.Bool:
		w.token([]string{"false", "true"}[v.N])
	case api.Num:
		w.token(fmt.Sprint(v.N))
	case api.Text:
		w.text(v.T)
	case api.List:
		w.token("[")
		for i, x := range v.Items {
			w.comma(i)
			w.value(x)
		}
		w.token("]")
	case api.Obj:
		w.token("{")
		for i, at := range w.r.Perm(len(v.Items)) {
			w.comma(i)
			w.text(v.Names[at])
			w.token(":")
			w.value(v.Items[at])
		}
		w.token("}")
	}
}

func (w *writer) comma(i int) {
	if i > 0 {
		w.token(",")
	}
}

func (w *writer) text(s string) {
	out := `"`
	for _, c := range s {
		out += w.rune(c)
	}
	w.token(out + `"`)
}

// rune is a rune in one of its spellings.
func (w *writer) rune(c rune) string {
	if at := strings.IndexRune("\"\\/\b\f\n\r\t", c); at >= 0 && w.r.Intn(2) == 0 {
		return `\` + `"\/bfnrt`[at:at+1]
	}
	form := []string{`\u%04x`, `\u%04X`}[w.r.Intn(2)]
	if c < ' ' || c == '"' || c == '\\' || w.r.Intn(4) == 0 {
		if c < 0x10000 {
			return fmt.Sprintf(form, c)
		}
		return fmt.Sprintf(form+form, 0xd800+(c-0x10000)>>10, 0xdc00+(c-0x10000)&0x3ff)
	}
	return string(c)
}

// anyValue is a valid value at random, of at most that depth.
func anyValue(r *rand.Rand, depth int) api.Value {
	kind := r.Intn(5)
	if depth == 0 {
		kind = r.Intn(3)
	}
	switch kind {
	case 0:
		return boolean(r.Int63n(2))
	case 1:
		return number([]int64{r.Int63n(10), -r.Int63n(1000), int64(r.Uint64()), math.MaxInt64, math.MinInt64}[r.Intn(5)])
	case 2:
		return text(anyText(r))
	}
	var out api.Value
	for range r.Intn(6) {
		x := anyValue(r, r.Intn(depth))
		if kind == 3 {
			out.Items = append(out.Items, x)
		} else if with, e := value.With(api.Value{Kind: api.Obj, Names: out.Names, Items: out.Items}, anyText(r), x); e == api.OK {
			out = with
		}
	}
	out.Kind = []uint8{api.List, api.Obj}[kind-3]
	return out
}

// anyText is UTF-8 at random.
func anyText(r *rand.Rand) string {
	runes := []rune("ab\"\\/{}[],:\x00\x1f \n\u007f\u0080é€\ud7ff\ue000\ufffd\uffff\U00010000\U0010ffff𝄞")
	out := ""
	for range r.Intn(5) {
		out += string(runes[r.Intn(len(runes))])
	}
	return out
}
