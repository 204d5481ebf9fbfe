package canon

import (
	"fmt"
	"math"
	"math/rand"
	"slices"
	"sort"
	"strconv"
	"strings"
	"testing"
	"unicode/utf8"

	"legate/api"
	"legate/read"
	"legate/value"
)

// P10.1: the chapter's examples.
func TestExamples(t *testing.T) {
	wantForm(t, object(names("a", "b"), list(number(1), boolean(1)), str(`x"y`)), `{"a":[1,true],"b":"x\"y"}`)
	wantForm(t, str("\x0a"), "\x22\x0a\x22")
	wantForm(t, object(nil), "{}")
	wantNoForm(t, boolean(2), "a boolean of 2")
}

// P10.1: the forms of values of each Kind, alone and in each other.
func TestForms(t *testing.T) {
	for _, x := range samples() {
		wantForm(t, x.v, x.form)
		for _, around := range within(x.v) {
			if value.Depth(around) <= api.MaxDepth {
				wantForm(t, around, model(around))
			}
		}
	}
}

// P10.1: numbers about the powers of 2 and of 10.
func TestNumbers(t *testing.T) {
	for n := range int64(1200) {
		wantForm(t, number(n), strconv.FormatInt(n, 10))
		wantForm(t, number(-n), strconv.FormatInt(-n, 10))
		wantForm(t, number(math.MaxInt64-n), fmt.Sprint(uint64(1<<63-1)-uint64(n)))
		wantForm(t, number(math.MinInt64+n), "-"+fmt.Sprint(uint64(1<<63)-uint64(n)))
	}
	for i := range 63 {
		for _, n := range []int64{1<<i - 1, 1 << i, 1<<i + 1} {
			wantForm(t, list(number(n), number(-n)), fmt.Sprintf("[%d,%d]", n, -n))
		}
	}
	form, power := "1", int64(1)
	for range 19 {
		wantForm(t, number(power), form)
		wantForm(t, number(-power), "-"+form)
		if power > 1 {
			wantForm(t, number(power-1), strings.Repeat("9", len(form)-1))
		}
		form, power = form+"0", power*10
	}
}

// P10.1: every rune, in a string, and every pair of bytes below 80 (hexadecimal), in strings and in names.
func TestRunes(t *testing.T) {
	for r := range rune(utf8.MaxRune + 1) {
		if r == 0xd800 {
			for half := range rune(0x800) { // these are no runes, and are no UTF-8 in the form that they would have
				wantNoForm(t, str(string([]byte{0xed, 0xa0 + byte(half>>6), 0x80 + byte(half&0x3f)})), "half a pair")
			}
		}
		if r >= 0xd800 && r < 0xe000 {
			continue
		}
		want := `"` + string(r) + `"`
		if r == '"' || r == '\\' {
			want = `"\` + string(r) + `"`
		}
		if form, e := Encode(str(string(r))); form != want || e != api.OK {
			t.Errorf("%x: %q %v", r, form, e)
		}
	}
	for a := range rune(0x80) {
		for b := range rune(0x80) {
			s := string(a) + string(b)
			want := quoted(s)
			wantForm(t, str(s), want)
			wantForm(t, object(names(s), str(s)), "{"+want+":"+want+"}")
		}
	}
}

// P10.1: quotation marks and backslashes in all orders, with another byte among them.
func TestEscapes(t *testing.T) {
	var try func(s, inner string, left int)
	try = func(s, inner string, left int) {
		wantForm(t, str(s), `"`+inner+`"`)
		wantForm(t, object(names(s), list(str(s))), `{"`+inner+`":["`+inner+`"]}`)
		if left == 0 {
			return
		}
		try(s+`"`, inner+`\"`, left-1)
		try(s+`\`, inner+`\\`, left-1)
		try(s+"n", inner+"n", left-1)
	}
	try("", "", 6)
}

// P10.1: strings and names of MaxText bytes, and of one byte more.
func TestText(t *testing.T) {
	const most = api.MaxText
	for _, unit := range []string{"a", `"`, `\`, `\"`, "\x00", "\n", "\x7f", "é", "𝄞", "ab\"\\"} {
		s := strings.Repeat(unit, most/len(unit))
		want := quoted(s)
		wantForm(t, str(s), want)
		wantForm(t, list(str(s), str(s)), "["+want+","+want+"]")
		wantForm(t, object(names(s), number(1)), "{"+want+":1}")
		wantForm(t, object(names("", s), str(s), list(str(s))), `{"":`+want+","+want+":["+want+"]}")
		wantForm(t, str(s[len(unit):]), quoted(s[len(unit):]))
		for _, long := range []string{s + "a", s + `"`, "a" + s, s + "é", s + s} {
			for _, v := range append(within(str(long)), str(long), object(names(long), number(1)), object(names("", long), ones(2)...), list(object(names(long), list()))) {
				wantNoForm(t, v, "too long a text")
			}
		}
	}
	euros := strings.Repeat("€", most/3)
	wantForm(t, str(euros+"a"), `"`+euros+`a"`)
	wantNoForm(t, str(euros+"ab"), "too long a text")
	wantNoForm(t, str(euros+"é"), "too long a text")
	wantForm(t, str(strings.Repeat(`"`, most)), `"`+strings.Repeat(`\"`, most)+`"`)
}

// P10.1: exactly MaxValues values have a form, one more has none, wherever it stands.
func TestValues(t *testing.T) {
	const most = api.MaxValues
	join := func(n int) string { return strings.TrimSuffix(strings.Repeat("1,", n), ",") }
	wantForm(t, list(ones(most-1)...), "["+join(most-1)+"]")
	wantNoForm(t, list(ones(most)...), "one value too many")
	wantForm(t, list(list(ones(most-2)...)), "[["+join(most-2)+"]]")
	wantNoForm(t, list(list(ones(most-1)...)), "one value too many")
	wantForm(t, deep(api.MaxDepth-1, list(ones(most-api.MaxDepth)...)), model(deep(api.MaxDepth-1, list(ones(most-api.MaxDepth)...))))
	wantNoForm(t, deep(api.MaxDepth-1, list(ones(most-api.MaxDepth+1)...)), "one value too many")
	var l []string
	for i := range most {
		l = append(l, fmt.Sprintf("%06d", i))
	}
	big := object(l[:most-1], ones(most-1)...)
	form := `{"` + strings.Join(l[:most-1], `":1,"`) + `":1}`
	if len(form) <= api.MaxDoc {
		t.Errorf("a short form: %d", len(form))
	}
	wantForm(t, big, form)
	wantNoForm(t, object(l, ones(most)...), "one value too many")
	wantNoForm(t, list(big), "one value too many")
	// spread over lists and objects: the outer one, 90 parts of 91 values, and a number
	part := list(append(ones(88), object(names("a"), number(1)))...)
	spread := list(append(slices.Repeat([]api.Value{part}, 90), number(1))...)
	wantForm(t, spread, model(spread))
	for _, v := range []api.Value{number(1), boolean(0), str(""), list(), object(nil)} {
		for _, i := range []int{0, 1, 45, 90, 91} {
			wantNoForm(t, list(slices.Insert(slices.Clone(spread.Items), i, v)...), "one value too many")
		}
		for _, i := range []int{0, 45, 89} {
			more := value.Copy(spread)
			more.Items[i].Items = append(more.Items[i].Items, v)
			wantNoForm(t, more, "one value too many")
		}
	}
}

// P10.1: MaxDepth lists and objects in each other have a form, one more has none.
func TestDepth(t *testing.T) {
	const most = api.MaxDepth
	for pattern := range 1 << most {
		open, shut, v := "", "", number(1)
		for i := range most {
			if pattern>>i&1 == 0 {
				open, shut, v = "["+open, shut+"]", list(v)
			} else {
				open, shut, v = `{"k":`+open, shut+"}", object(names("k"), v)
			}
		}
		wantForm(t, v, open+"1"+shut)
		wantNoForm(t, list(v), "one level too deep")
		wantNoForm(t, object(names(""), v), "one level too deep")
		wantNoForm(t, list(list(), v, number(1)), "one level too deep")
	}
	for _, empty := range []api.Value{list(), object(nil)} {
		wantForm(t, deep(most-1, empty), model(deep(most-1, empty)))
		wantForm(t, list(deep(most-2, empty), deep(most-2, empty)), model(list(deep(most-2, empty), deep(most-2, empty))))
		wantNoForm(t, deep(most, empty), "one level too deep")
		wantNoForm(t, list(deep(most-2, empty), deep(most-1, empty)), "one level too deep")
		wantNoForm(t, deep(100, empty), "far too deep")
	}
	for _, x := range plain() {
		wantForm(t, deep(most, x.v), model(deep(most, x.v)))
		wantNoForm(t, deep(most+1, x.v), "one level too deep")
	}
}

// P10.1: Items that share memory count each time.
func TestShared(t *testing.T) {
	for _, n := range []int{1, 2, 3} {
		v, want := list(ones(n)...), "["+strings.TrimSuffix(strings.Repeat("1,", n), ",")+"]"
		for range api.MaxDepth - 1 {
			v, want = list(v, v), "["+want+","+want+"]"
		}
		if n < 3 {
			wantForm(t, v, want) // 4095 lists, 2048 of which hold the numbers
		} else {
			wantNoForm(t, v, "too many values")
		}
	}
	wide := list(ones(1)...)
	for range 10 {
		wide = list(slices.Repeat([]api.Value{wide}, 4000)...)
	}
	if form, e := Encode(wide); form != "" || e != api.ErrForm {
		t.Errorf("%.100q %v", form, e)
	}
}

// wrong are values that are not valid, each for one cause.
func wrong() map[string]api.Value {
	out := map[string]api.Value{}
	put := func(cause string, l ...api.Value) {
		for i, v := range l {
			out[fmt.Sprint(cause, " ", i)] = v
		}
	}
	for _, kind := range []uint8{0, 6, 7, 8, 127, 128, 129, 130, 131, 132, 133, 255} {
		put(fmt.Sprint("kind ", kind), api.Value{Kind: kind}, api.Value{Kind: kind, N: 1}, api.Value{Kind: kind, T: "a"}, api.Value{Kind: kind, Items: ones(1)}, api.Value{Kind: kind, Names: names("a"), Items: ones(1)})
	}
	for _, n := range []int64{2, -1, 3, 255, 256, 257, 1 << 32, 1<<32 + 1, math.MaxInt64, math.MinInt64} {
		put(fmt.Sprint("a boolean of ", n), boolean(n))
	}
	put("a boolean with more", api.Value{Kind: api.Bool, T: "a"}, api.Value{Kind: api.Bool, N: 1, T: "true"}, api.Value{Kind: api.Bool, Names: names("")}, api.Value{Kind: api.Bool, Items: ones(1)}, api.Value{Kind: api.Bool, N: 1, Names: names("a"), Items: ones(1)})
	put("a number with more", api.Value{Kind: api.Num, T: "0"}, api.Value{Kind: api.Num, N: 7, T: "7"}, api.Value{Kind: api.Num, Names: names("")}, api.Value{Kind: api.Num, Items: ones(1)}, api.Value{Kind: api.Num, N: -1, Names: names("a"), Items: ones(1)})
	put("a string with more", api.Value{Kind: api.Text, N: 1}, api.Value{Kind: api.Text, N: -1, T: "a"}, api.Value{Kind: api.Text, Names: names("")}, api.Value{Kind: api.Text, T: "a", Items: ones(1)}, api.Value{Kind: api.Text, Names: names("a"), Items: ones(1)})
	put("a list with more", api.Value{Kind: api.List, N: 1}, api.Value{Kind: api.List, T: "a"}, api.Value{Kind: api.List, N: -1, Items: ones(1)}, api.Value{Kind: api.List, T: "\x00", Items: ones(2)}, api.Value{Kind: api.List, Names: names("")}, api.Value{Kind: api.List, Names: names("a"), Items: ones(1)})
	put("an object with more", api.Value{Kind: api.Obj, N: 1}, api.Value{Kind: api.Obj, T: "a"}, api.Value{Kind: api.Obj, N: -1, Names: names("a"), Items: ones(1)}, api.Value{Kind: api.Obj, T: "a", Names: names("a"), Items: ones(1)})
	for _, s := range []string{"\xff", "\x80", "a\xff", "\xffa", "\"\xbf\\", "\xe2\x82", "€\xe2\x82", "\xc0\x80", "\xc1\xbf", "\xe0\x80\x80", "\xed\xa0\x80", "\xed\xbf\xbf", "\xf0\x80\x80\x80", "\xf4\x90\x80\x80", "\xf5\x80\x80\x80", "\xc3(", strings.Repeat("a", api.MaxText-1) + "\xff"} {
		put(fmt.Sprintf("no UTF-8, %.9q (%d)", s, len(s)), str(s), object(names(s), number(1)), object(names("", s), ones(2)...), object(names(s, s+"a"), ones(2)...))
	}
	put("Names that do not rise", object(names("b", "a"), ones(2)...), object(names("a", "a"), ones(2)...), object(names("", ""), ones(2)...), object(names("a", ""), ones(2)...), object(names("aa", "a"), ones(2)...), object(names("a", "B"), ones(2)...), object(names("é", "z"), ones(2)...), object(names("\U00010000", "\uffff"), ones(2)...),
		object(names("a", "c", "b"), ones(3)...), object(names("b", "a", "c"), ones(3)...), object(names("a", "b", "b"), ones(3)...), object(names("a", "b", "a"), ones(3)...), object(names("a", "a"), list(), list()))
	put("Names and Items that differ in number", object(names("a")), object(nil, number(1)), object(names("a", "b"), number(1)), object(names("a"), ones(2)...), object(names("")), object(nil, object(nil)), object(names("a", "b", "c"), ones(2)...))
	return out
}

// P10.1, R1: what is not valid has no form, alone and anywhere within lists and objects.
func TestWrong(t *testing.T) {
	for cause, v := range wrong() {
		wantNoForm(t, v, cause)
		for _, around := range within(v) {
			wantNoForm(t, around, cause)
		}
		for depth := range api.MaxDepth {
			wantNoForm(t, deep(depth, v), cause)
		}
		for _, x := range plain() {
			wantNoForm(t, list(x.v, v), cause)
			wantNoForm(t, object(names("a", "b"), v, x.v), cause)
		}
	}
	if form, e := Encode(api.Value{}); form != "" || e != api.ErrForm {
		t.Errorf("no value: %q %v", form, e)
	}
}

// P10.1, P10.2: a value with one field changed, at any depth, has another form, or none if it is not valid then.
func TestChanged(t *testing.T) {
	valid, refused := 0, 0
	for _, x := range samples() {
		for _, v := range changed(x.v) {
			if !value.May(v) {
				refused++
				wantNoForm(t, v, "changed from "+x.form)
				continue
			}
			valid++
			if form := formOf(t, v); form == x.form || form != model(v) {
				t.Errorf("%s and %s: %q", brief(x.v), brief(v), form)
			}
		}
	}
	if valid < 1000 || refused < 1000 {
		t.Errorf("few: %d valid, %d refused", valid, refused)
	}
}

// P10.2: values that differ have different forms, equal ones have the same.
func TestDistinct(t *testing.T) {
	of := map[string]api.Value{}
	hold := func(v api.Value) {
		t.Helper()
		form := formOf(t, v)
		if before, has := of[form]; has && !value.Same(before, v) {
			t.Errorf("%s and %s: %q", brief(before), brief(v), form)
		}
		of[form] = v
		wantForm(t, value.Copy(v), form)
	}
	for _, x := range samples() {
		hold(x.v)
		for _, v := range validChanges(x.v) {
			hold(v)
		}
	}
	for _, v := range small() {
		hold(v)
	}
	r := rand.New(rand.NewSource(1))
	for range 20000 {
		hold(anyValue(r, r.Intn(4)))
	}
	// empty slices and nil ones are the same
	wantForm(t, api.Value{Kind: api.List, Names: []string{}, Items: []api.Value{}}, "[]")
	wantForm(t, api.Value{Kind: api.Obj, Names: []string{}, Items: nil}, "{}")
	wantForm(t, api.Value{Kind: api.Num, Names: []string{}, Items: []api.Value{}}, "0")
}

// small are all values of up to two levels with up to two parts, of few numbers and strings.
func small() []api.Value {
	few := []string{"", `"`, `\`, "a", ","}
	level := []api.Value{boolean(0), boolean(1), number(0), number(1), number(12), number(-1)}
	for _, s := range few {
		level = append(level, str(s))
	}
	slices.Sort(few)
	for range 2 {
		inner := level[:min(len(level), 40)]
		level = append(slices.Clone(level), list(), object(nil))
		for _, v := range inner {
			level = append(level, list(v))
			for i, a := range few {
				level = append(level, object(names(a), v))
				for _, b := range few[i+1:] {
					level = append(level, object(names(a, b), v, number(1)), object(names(a, b), str(","), v))
				}
			}
			for _, w := range inner {
				level = append(level, list(v, w))
			}
		}
	}
	return level
}

// P10.3: Read of a form is the value, where no string and no name has a byte below 20 (hexadecimal); a form with such a byte is no JSON text.
func TestInverse(t *testing.T) {
	inverse, refused := 0, 0
	hold := func(v api.Value) {
		t.Helper()
		form := formOf(t, v)
		if len(form) > api.MaxDoc {
			return
		}
		back, place, e := read.Read(form)
		if isLow(v) {
			refused++
			if e != api.ErrForm {
				t.Errorf("%.300q: read as %s, %d %v", form, brief(back), place, e)
			}
			return
		}
		inverse++
		if e != api.OK || place != 0 || !value.Same(back, v) {
			t.Errorf("%.300q: read as %s, %d %v, not %s", form, brief(back), place, e, brief(v))
		}
	}
	for _, x := range samples() {
		hold(x.v)
		for _, v := range within(x.v) {
			if value.May(v) {
				hold(v)
			}
		}
	}
	for _, v := range small() {
		hold(v)
	}
	r := rand.New(rand.NewSource(2))
	for range 20000 {
		hold(anyValue(r, r.Intn(api.MaxDepth)))
	}
	for b := range rune(0x80) {
		hold(str(string(b)))
		hold(object(names(string(b)), list(object(names("a"+string(b)), number(1)))))
	}
	if inverse < 10000 || refused < 1000 {
		t.Errorf("few: %d read, %d refused", inverse, refused)
	}
}

// P10.3: a form of MaxDoc bytes is read as the value; a longer one is a form, too, which is not read.
func TestDoc(t *testing.T) {
	item := str(strings.Repeat("a", api.MaxText))
	full := append(slices.Repeat([]api.Value{item}, 15), str(""))
	left := api.MaxDoc - len(model(list(full...)))
	for _, x := range []struct {
		last string
		want api.Errno
	}{{strings.Repeat("b", left-1), api.OK}, {strings.Repeat("b", left), api.OK}, {strings.Repeat("b", left-2) + `"`, api.OK}, {strings.Repeat("b", left-1) + `"`, api.ErrLong}, {strings.Repeat("b", left+1), api.ErrLong}} {
		full[15] = str(x.last)
		v := list(full...)
		wantForm(t, v, model(v))
		back, _, e := read.Read(model(v))
		if e != x.want || (e == api.OK && !value.Same(back, v)) {
			t.Errorf("%d bytes: %s %v", len(model(v)), brief(back), e)
		}
	}
	long := slices.Repeat([]api.Value{str(strings.Repeat(`"`, api.MaxText))}, 60)
	wantForm(t, list(long...), "["+strings.TrimSuffix(strings.Repeat(`"`+strings.Repeat(`\"`, api.MaxText)+`",`, 60), ",")+"]")
}

// P10.4: the form of a list or an object is composed of those of its Items.
func TestComposition(t *testing.T) {
	r := rand.New(rand.NewSource(3))
	for range 5000 {
		v := anyValue(r, r.Intn(6))
		if v.Kind != api.List && v.Kind != api.Obj {
			v = list(v)
		}
		var parts []string
		for i, x := range v.Items {
			part := formOf(t, x)
			if v.Kind == api.Obj {
				part = formOf(t, str(v.Names[i])) + ":" + part
			}
			parts = append(parts, part)
		}
		brackets := map[uint8]string{api.List: "[]", api.Obj: "{}"}[v.Kind]
		wantForm(t, v, brackets[:1]+strings.Join(parts, ",")+brackets[1:])
	}
	for _, x := range samples() {
		for _, y := range samples() {
			wantForm(t, list(x.v, y.v), "["+x.form+","+y.form+"]")
			wantForm(t, object(names("", "\x00"), x.v, y.v), `{"":`+x.form+",\"\x00\":"+y.form+"}")
		}
	}
}

// P10.5: what is read from a text has a form, no longer than the text, however that spells its strings, and whatever white space it has.
func TestNotLonger(t *testing.T) {
	spaced := func() string { return " " }
	for _, x := range samples() {
		for _, spell := range []spelling{short, named, numbered} {
			wantNotLonger(t, spelt(x.v, spell, noGap), x.v)
			wantNotLonger(t, spelt(x.v, spell, spaced), x.v)
		}
		if s := spelt(x.v, short, noGap); !isLow(x.v) && len(s) != len(x.form) {
			t.Errorf("%q: %q", s, x.form) // there is no shorter text
		}
	}
	r := rand.New(rand.NewSource(4))
	mixed := func(c rune) string { return []spelling{short, named, numbered}[r.Intn(3)](c) }
	gap := func() string { return []string{"", "", "", " ", "\n\t", "\r"}[r.Intn(6)] }
	for range 20000 {
		v := anyValue(r, r.Intn(6))
		wantNotLonger(t, spelt(v, mixed, gap), v)
	}
	for _, s := range []string{`"a\"b"`, `"\u0022\u005c"`, `"\/\b\f\n\r\t"`, `"\u0000"`, `"\ud834\udd1e"`, `{"\u0062":1,"a":2}`, ` [ 1 , 2 ] `, `{"\n":"\t","\"":"\\"}`} {
		v, _, _ := read.Read(s)
		wantNotLonger(t, s, v)
	}
	long := strings.Repeat(`\n`, api.MaxText)
	wantNotLonger(t, `["`+long+`","`+long+`"]`, list(str(strings.Repeat("\n", api.MaxText)), str(strings.Repeat("\n", api.MaxText))))
}

// P10.5: also of texts with a byte changed, dropped, or put in, as far as they are read.
func TestChangedTexts(t *testing.T) {
	r := rand.New(rand.NewSource(5))
	done := 0
	for range 30000 {
		s := []byte(spelt(anyValue(r, r.Intn(4)), named, noGap))
		at, b := r.Intn(len(s)), "{}[],:\"\"\\ 019-tu"[r.Intn(16)]
		switch r.Intn(3) {
		case 0:
			s[at] = b
		case 1:
			s = slices.Delete(s, at, at+1)
		case 2:
			s = slices.Insert(s, at, b)
		}
		if v, _, e := read.Read(string(s)); e == api.OK {
			done++
			wantNotLonger(t, string(s), v)
		}
	}
	if done < 3000 {
		t.Errorf("few were read: %d", done)
	}
}

// P10.6: no form of a list, an object, a string or a boolean is a prefix of another one.
func TestSelfDelimiting(t *testing.T) {
	var all []api.Value
	for _, x := range samples() {
		all = append(all, x.v, list(x.v), list(x.v, x.v))
		all = append(all, validChanges(x.v)...)
	}
	all = append(all, small()...)
	r := rand.New(rand.NewSource(6))
	for range 10000 {
		all = append(all, anyValue(r, r.Intn(4)))
	}
	kinds := map[string]uint8{}
	var forms []string
	for _, v := range all {
		form := formOf(t, v)
		if kinds[form] == 0 {
			forms = append(forms, form)
		}
		kinds[form] = v.Kind
	}
	// if a form is a prefix of any other one, it is one of that which follows it here
	sort.Strings(forms)
	for i, form := range forms[1:] {
		if before := forms[i]; kinds[before] != api.Num && strings.HasPrefix(form, before) {
			t.Errorf("%q begins with %q", form, before)
		}
	}
	if !strings.HasPrefix(formOf(t, number(12)), formOf(t, number(1))) {
		t.Error("12 does not begin with 1")
	}
}

// P10.1, P10.3: values at random are as the model says, and stay as they are (R3).
func TestAny(t *testing.T) {
	r := rand.New(rand.NewSource(7))
	for range 20000 {
		v := anyValue(r, r.Intn(api.MaxDepth+1))
		wantForm(t, v, model(v))
	}
}
