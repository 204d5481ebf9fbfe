package read

import (
	"fmt"
	"math/rand"
	"slices"
	"strings"
	"testing"

	"legate/api"
	"legate/lex"
	"legate/value"
)

// P9.1: the chapter's examples.
func TestExamples(t *testing.T) {
	wantRead(t, `{"b":[1,true],"a":"x"}`, object("a", text("x"), "b", list(number(1), boolean(1))))
	for _, x := range []wrong{
		{"[1,]", 3, api.ErrForm}, {"[1 2]", 3, api.ErrForm}, {"[1", 2, api.ErrShort}, {`{"a":1,"a":2}`, 7, api.ErrTwice}, {`{"a" 1}`, 5, api.ErrForm},
		{"1 2", 2, api.ErrMore}, {"1 x", 2, api.ErrForm}, {"", 0, api.ErrShort}, {strings.Repeat("[", 13), 12, api.ErrDeep},
	} {
		wantWrong(t, x.text, x.place, x.e)
	}
}

// P9.1: the values of ordinary texts.
func TestValues(t *testing.T) {
	for _, x := range samples() {
		wantRead(t, x.text, x.v)
	}
}

// P9.1, P9.3: every escape, and runes that stand for themselves, in strings and in names.
func TestStrings(t *testing.T) {
	for _, x := range [][2]string{
		{`\"`, `"`}, {`\\`, `\`}, {`\/`, "/"}, {`\b`, "\b"}, {`\f`, "\f"}, {`\n`, "\n"}, {`\r`, "\r"}, {`\t`, "\t"}, {`\u0000`, "\x00"}, {`\u001f`, "\x1f"}, {`\u0022`, `"`}, {`\u005C`, `\`},
		{`\u0041`, "A"}, {`\u00e9`, "é"}, {`\u00E9`, "é"}, {`\u20ac`, "€"}, {`\uFFFF`, "\uffff"}, {`\ud800\udc00`, "\U00010000"}, {`\uDBFF\uDFFF`, "\U0010ffff"}, {`\ud834\udd1e`, "𝄞"},
		{"é€𝄞\ufffd\x7f", "é€𝄞\ufffd\x7f"}, {`{}[],:true`, `{}[],:true`}, {` \u0020 `, "   "}, {`\\u0041`, `\u0041`}, {`\\\"`, `\"`},
	} {
		wantRead(t, `"`+x[0]+`"`, text(x[1]))
		wantRead(t, `"a`+x[0]+`b"`, text("a"+x[1]+"b"))
		wantRead(t, `["`+x[0]+`"]`, list(text(x[1])))
		wantRead(t, `{"`+x[0]+`":1}`, object(x[1], number(1)))
		wantRead(t, `{"`+x[0]+`":"`+x[0]+`"}`, object(x[1], text(x[1])))
	}
}

// P9.1, P9.2: of each text, what ends early, after each byte; and P9.8: no prefix of a list or an object is a text.
func TestPrefixes(t *testing.T) {
	for _, x := range samples() {
		for n := range x.text {
			e := wantModel(t, x.text[:n])
			if e == api.OK && (x.v.Kind == api.List || x.v.Kind == api.Obj) {
				t.Errorf("%q: read", x.text[:n])
			}
		}
		l, _, _ := lex.All(x.text)
		for _, m := range l[:len(l)-1] {
			for _, space := range append(spaces, "") {
				wantWrong(t, x.text[:m.At]+space, m.At+len(space), api.ErrShort)
			}
		}
	}
}

// P9.1, P9.2, P9.3, P9.6: names come in any order, the Items beside them.
func TestNames(t *testing.T) {
	names := []string{"", "A", "Z", "a", "aa", "b", "é", "€", "\uffff", "\U00010000"}
	for _, a := range names {
		for _, b := range names {
			s := fmt.Sprintf(`{"%s":1,"%s":2}`, a, b)
			switch {
			case a < b:
				wantRead(t, s, object(a, number(1), b, number(2)))
			case a > b:
				wantRead(t, s, object(b, number(2), a, number(1)))
			default:
				wantWrong(t, s, len(a)+6, api.ErrTwice)
			}
		}
	}
	r := rand.New(rand.NewSource(1))
	for range 300 {
		var members []string
		var want []any
		for _, i := range r.Perm(len(names)) {
			members = append(members, fmt.Sprintf(`"%s":%d`, names[i], i))
		}
		for i, name := range names {
			want = append(want, name, number(int64(i)))
		}
		wantRead(t, "{"+strings.Join(members, ",")+"}", object(want...))
	}
}

// P9.1, P9.6: a name twice, side by side and apart, however it is spelt; the same name in other objects is none.
func TestTwice(t *testing.T) {
	for _, x := range []wrong{
		{`{"":1,"":1}`, 6, api.ErrTwice}, {`{"a":1,"b":2,"a":3}`, 13, api.ErrTwice}, {`{"b":1,"a":2,"a":3}`, 13, api.ErrTwice}, {`{"c":1,"b":2,"a":3,"c":4}`, 19, api.ErrTwice},
		{`{"a":1,"\u0061":2}`, 7, api.ErrTwice}, {`{"\u0061":1,"a":2}`, 12, api.ErrTwice}, {`{"\n":1,"\u000a":2}`, 8, api.ErrTwice}, {`{"\u00e9":1,"é":2}`, 12, api.ErrTwice}, {`{"\ud834\udd1e":1,"𝄞":2}`, 18, api.ErrTwice}, {`{"/":1,"x":2,"\/":3}`, 13, api.ErrTwice},
		{`{"a":{"a":1},"a":2}`, 13, api.ErrTwice}, {`{"a":{"a":1,"a":2}}`, 12, api.ErrTwice}, {`{"b":{"a":1},"a":{"c":1,"a":2,"c":3}}`, 30, api.ErrTwice}, {`[{"a":1},{"a":1,"a":1}]`, 16, api.ErrTwice},
		{`{"a":1,"a"`, 7, api.ErrTwice}, {`{"a":1,"a" 2`, 7, api.ErrTwice}, {`{"a":1,"a",`, 7, api.ErrTwice}, {`{"a":1,"a":}`, 7, api.ErrTwice}, {`{"a":1,"a"x`, 7, api.ErrTwice}, {`{"a":1 , ` + "\n\t" + `"a":1}`, 11, api.ErrTwice},
		{`{"a":1,"a`, 7, api.ErrShort}, {`{"a":1,"a\q"`, 7, api.ErrForm}, {`{"a":1"a":1}`, 6, api.ErrForm}, {`{"a":1,,"a":1}`, 7, api.ErrForm}, {`{"a":1:"a":1}`, 6, api.ErrForm},
	} {
		wantWrong(t, x.text, x.place, x.e)
	}
	wantRead(t, `[{"a":1},{"a":1}]`, list(object("a", number(1)), object("a", number(1))))
	wantRead(t, `{"a":{"a":{"a":1}},"b":{"a":1}}`, object("a", object("a", object("a", number(1))), "b", object("a", number(1))))
	wantRead(t, "{\"a\":1,\"A\":2,\"a\u0301\":3,\"\u00e1\":4}", object("A", number(2), "a", number(1), "a\u0301", number(3), "\u00e1", number(4)))
	var s strings.Builder
	s.WriteString("{")
	for i := range 2000 {
		fmt.Fprintf(&s, `"%d":0,`, i)
	}
	for _, i := range []int{0, 1, 2, 999, 1000, 1998, 1999} {
		wantWrong(t, s.String()+fmt.Sprintf(`"%d":0}`, i), s.Len(), api.ErrTwice)
	}
}

// P9.1, P9.4: white space of each byte anywhere between tokens changes nothing, but where an error is.
func TestSpace(t *testing.T) {
	for _, x := range samples() {
		l, _, _ := lex.All(x.text)
		for _, space := range spaces {
			wide := space
			for _, m := range l[:len(l)-1] {
				wantRead(t, x.text[:m.At]+space+x.text[m.At:], x.v)
				wide += x.text[m.At:m.End] + space
			}
			wantRead(t, x.text+space, x.v)
			wantRead(t, wide, x.v)
			wantWrong(t, wide+"]", len(wide), api.ErrMore)
		}
	}
	for _, x := range wrongs() {
		for _, space := range spaces {
			wantWrong(t, space+x.text, len(space)+x.place, x.e)
			if x.e == api.ErrShort && x.place == len(x.text) {
				wantWrong(t, x.text+space, x.place+len(space), x.e)
			}
		}
	}
	for _, space := range append(spaces, "") {
		wantWrong(t, space, len(space), api.ErrShort)
	}
	for _, s := range []string{"\v", "\f", "\x00", "\u00a0", "\u0085", "\u2003", "\ufeff"} {
		wantWrong(t, s, 0, api.ErrForm)
		wantWrong(t, s+"1", 0, api.ErrForm)
		wantWrong(t, "[1"+s+"]", 2, api.ErrForm)
		wantWrong(t, " 1 "+s, 3, api.ErrForm)
	}
}

// wrongs are wrong texts of all kinds, without white space around them.
func wrongs() []wrong {
	return []wrong{
		{",", 0, api.ErrForm}, {":", 0, api.ErrForm}, {"]", 0, api.ErrForm}, {"}", 0, api.ErrForm}, {",1", 0, api.ErrForm}, {"],", 0, api.ErrForm},
		{"[", 1, api.ErrShort}, {"[,", 1, api.ErrForm}, {"[,1]", 1, api.ErrForm}, {"[:", 1, api.ErrForm}, {"[}", 1, api.ErrForm}, {"[1}", 2, api.ErrForm}, {"[1,}", 3, api.ErrForm}, {"[1:2]", 2, api.ErrForm}, {`["a":2]`, 4, api.ErrForm},
		{"[1,,2]", 3, api.ErrForm}, {"[1,2,]", 5, api.ErrForm}, {"[1,2,,", 5, api.ErrForm}, {"[[]1]", 3, api.ErrForm}, {"[1[]]", 2, api.ErrForm}, {"[{}{}]", 3, api.ErrForm}, {"[true false]", 6, api.ErrForm}, {`["a""b"]`, 4, api.ErrForm}, {`[1"b"]`, 2, api.ErrForm},
		{"[1", 2, api.ErrShort}, {"[1,", 3, api.ErrShort}, {"[1,2", 4, api.ErrShort}, {"[[]", 3, api.ErrShort}, {"[[],", 4, api.ErrShort}, {"[{}", 3, api.ErrShort}, {"[[", 2, api.ErrShort},
		{"{", 1, api.ErrShort}, {"{,", 1, api.ErrForm}, {"{:", 1, api.ErrForm}, {"{]", 1, api.ErrForm}, {"{{", 1, api.ErrForm}, {"{[", 1, api.ErrForm}, {"{1", 1, api.ErrForm}, {"{1:1}", 1, api.ErrForm}, {"{true:1}", 1, api.ErrForm}, {"{false:1}", 1, api.ErrForm}, {"{[]:1}", 1, api.ErrForm}, {"{{}:1}", 1, api.ErrForm},
		{`{"a"`, 4, api.ErrShort}, {`{"a"}`, 4, api.ErrForm}, {`{"a"]`, 4, api.ErrForm}, {`{"a",`, 4, api.ErrForm}, {`{"a" 1}`, 5, api.ErrForm}, {`{"a""b"}`, 4, api.ErrForm}, {`{"a"true}`, 4, api.ErrForm}, {`{"a"{}}`, 4, api.ErrForm}, {`{"a"[]}`, 4, api.ErrForm},
		{`{"a":`, 5, api.ErrShort}, {`{"a":}`, 5, api.ErrForm}, {`{"a":]`, 5, api.ErrForm}, {`{"a":,`, 5, api.ErrForm}, {`{"a"::`, 5, api.ErrForm}, {`{"a"::1}`, 5, api.ErrForm},
		{`{"a":1`, 6, api.ErrShort}, {`{"a":1]`, 6, api.ErrForm}, {`{"a":1:`, 6, api.ErrForm}, {`{"a":1 2}`, 7, api.ErrForm}, {`{"a":1"b":2}`, 6, api.ErrForm}, {`{"a":"x""b":2}`, 8, api.ErrForm}, {`{"a":1{}}`, 6, api.ErrForm}, {`{"a":{}[]}`, 7, api.ErrForm}, {`{"a":[]true}`, 7, api.ErrForm},
		{`{"a":1,`, 7, api.ErrShort}, {`{"a":1,}`, 7, api.ErrForm}, {`{"a":1,]`, 7, api.ErrForm}, {`{"a":1,,`, 7, api.ErrForm}, {`{"a":1,:`, 7, api.ErrForm}, {`{"a":1,2`, 7, api.ErrForm}, {`{"a":1,true`, 7, api.ErrForm}, {`{"a":1,{}`, 7, api.ErrForm}, {`{"a":1,[]`, 7, api.ErrForm},
		{`{"a":1,"b"`, 10, api.ErrShort}, {`{"a":1,"b"}`, 10, api.ErrForm}, {`{"a":1,"b":`, 11, api.ErrShort}, {`{"a":1,"b":}`, 11, api.ErrForm}, {`{"a":[1}`, 7, api.ErrForm}, {`[{"a":1]`, 7, api.ErrForm}, {`{"a":{"b":1}`, 12, api.ErrShort}, {`{"a":[1]`, 8, api.ErrShort},
		{"1 2", 2, api.ErrMore}, {"1,", 1, api.ErrMore}, {"1:", 1, api.ErrMore}, {"1]", 1, api.ErrMore}, {"1}", 1, api.ErrMore}, {"1[", 1, api.ErrMore}, {"1{", 1, api.ErrMore}, {`1"a"`, 1, api.ErrMore}, {"true false", 5, api.ErrMore}, {`"a":1`, 3, api.ErrMore}, {`"a""a"`, 3, api.ErrMore}, {"[]]", 2, api.ErrMore}, {"{}}", 2, api.ErrMore}, {"[][]", 2, api.ErrMore}, {"{}{}", 2, api.ErrMore}, {"[1],", 3, api.ErrMore}, {`{"a":1}"a"`, 7, api.ErrMore}, {"[1]1", 3, api.ErrMore},
		{"null", 0, api.ErrForm}, {"[null]", 1, api.ErrForm}, {"[1.5]", 1, api.ErrForm}, {"[1, 9223372036854775808]", 4, api.ErrRange}, {`{"\x":1}`, 1, api.ErrForm}, {`{"a":"\ud800"}`, 5, api.ErrUTF}, {"[1,\xff]", 3, api.ErrForm}, {"{'a':1}", 1, api.ErrForm}, {"{a:1}", 1, api.ErrForm}, {"[1;2]", 2, api.ErrForm}, {"//", 0, api.ErrForm},
		{"[", 1, api.ErrShort}, {"-9223372036854775809", 0, api.ErrRange}, {"1 -", 2, api.ErrForm}, {"1 tru", 2, api.ErrForm}, {`1 "a`, 2, api.ErrShort}, {"1 99999999999999999999", 2, api.ErrRange}, {"1 \"\xff\"", 2, api.ErrUTF},
	}
}

// P9.1, P9.2: wrong texts, and P9.2: the model says the same of them.
func TestWrong(t *testing.T) {
	for _, x := range wrongs() {
		wantWrong(t, x.text, x.place, x.e)
		wantModel(t, x.text)
		for _, more := range []string{"", "]", "}", ",", ":", "1", "x", `"`, "\xff", "[[[[[[[[[[[[[[", strings.Repeat("]", 100)} {
			if x.place < len(x.text)-1 && x.e != api.ErrShort {
				wantWrong(t, x.text+" "+more, x.place, x.e)
			}
		}
	}
}

// P9.1: what lex.Next refuses, at each place of a text, also behind the value and where another token would be wrong as well.
func TestWrongTokens(t *testing.T) {
	tokens := []struct {
		text string
		want api.Errno
	}{
		{"x", api.ErrForm}, {"tru", api.ErrForm}, {"-", api.ErrForm}, {"01", api.ErrForm}, {"1e3", api.ErrForm}, {"\x00", api.ErrForm}, {"é", api.ErrForm}, {"\"\n\"", api.ErrForm}, {`"\x"`, api.ErrForm},
		{"9223372036854775808", api.ErrRange}, {"-9223372036854775809", api.ErrRange}, {"\"\xff\"", api.ErrUTF}, {`"\udc00"`, api.ErrUTF}, {`"` + strings.Repeat("a", api.MaxText+1) + `"`, api.ErrLong},
	}
	for _, x := range samples() {
		l, _, _ := lex.All(x.text)
		for _, m := range l {
			for _, bad := range tokens {
				for _, space := range []string{"", " ", "\n\t"} {
					if m.At == 0 || space != "" || x.text[m.At-1] < '0' || x.text[m.At-1] > 'z' { // no word or number that goes on
						wantWrong(t, x.text[:m.At]+space+bad.text+" "+x.text[m.At:], m.At+len(space), bad.want)
						wantWrong(t, x.text[:m.At]+space+bad.text, m.At+len(space), bad.want)
					}
				}
			}
			wantWrong(t, x.text[:m.At]+` "`, m.At+1, api.ErrShort)
			wantWrong(t, x.text[:m.At]+` "a\u12`, m.At+1, api.ErrShort)
		}
	}
}

// P9.1: the left one of two wrong tokens is told.
func TestLeftOne(t *testing.T) {
	long := `"` + strings.Repeat("a", api.MaxText+1) + `"`
	for _, x := range []wrong{
		{"[x,9223372036854775808]", 1, api.ErrForm}, {"[9223372036854775808,x]", 1, api.ErrRange}, {"[1 2 x", 3, api.ErrForm}, {"[1,] x", 3, api.ErrForm}, {`{"a":1,"a":x}`, 7, api.ErrTwice}, {`{"a":x,"a":1}`, 5, api.ErrForm}, {"1 2 x", 2, api.ErrMore}, {"1 x 2", 2, api.ErrForm},
		{"[" + long + ",\"\xff\"]", 1, api.ErrLong}, {"[\"\xff\"," + long + "]", 1, api.ErrUTF}, {strings.Repeat("[", 13) + "x", 12, api.ErrDeep}, {strings.Repeat("[", 12) + "x[", 12, api.ErrForm}, {`{"a" "\ud800"}`, 5, api.ErrUTF}, {`{"a" "a"`, 5, api.ErrForm}, {"1 ] x", 2, api.ErrMore}, {"1 ]", 2, api.ErrMore},
	} {
		wantWrong(t, x.text, x.place, x.e)
	}
}

// P9.1, P9.2, P9.7, P9.8: all texts of up to five tokens, and of up to four behind some beginnings, against the model.
func TestAllTexts(t *testing.T) {
	tokens := []string{"{", "}", "[", "]", ",", ":", `"a"`, `"b"`, "1 ", "x "}
	count := map[api.Errno]int{}
	var try func(s string, left int)
	try = func(s string, left int) {
		count[wantModel(t, s)]++
		if left == 0 || t.Failed() {
			return
		}
		for _, token := range tokens {
			try(s+token, left-1)
		}
	}
	try("", 5)
	for _, start := range []string{`{"a":`, `{"a":1,`, `[1,`, `[[`, `[{"a":1},{`, `{"b":{"a":1}`, `{"a":[1]`, `[[],`, "true ", "\n[false]"} {
		try(start, 4)
	}
	for _, e := range []api.Errno{api.OK, api.ErrForm, api.ErrShort, api.ErrTwice, api.ErrMore} {
		if count[e] < 50 {
			t.Errorf("too few of %v: %d", e, count[e])
		}
	}
}

// P9.1, P9.2: texts with a byte changed, dropped, doubled or put in are as the model says; what is read is valid.
func TestChangedTexts(t *testing.T) {
	r := rand.New(rand.NewSource(2))
	read := 0
	for range 30000 {
		s := spell(r, anyValue(r, r.Intn(5)))
		for range 1 + r.Intn(2) {
			at, put := r.Intn(len(s)), "{}[],:\"\"\\ 01-.etrua\xff\x00"
			b := string(put[r.Intn(len(put))])
			s = []string{s[:at] + s[at+1:], s[:at] + b + s[at:], s[:at] + b + s[at+1:], s[:at] + s[at:at+1] + s[at:], s[:at], s + s[:at]}[r.Intn(6)]
			if s == "" {
				s = " "
			}
		}
		if wantModel(t, s) == api.OK {
			read++
		}
		v, place, e := Read(s)
		if place < 0 || place > len(s) || (e == api.OK) != value.May(v) {
			t.Errorf("%q: %s %d %v", s, brief(v), place, e)
		}
	}
	if read < 3000 {
		t.Errorf("few were read: %d", read)
	}
}

// P9.3: a value in any spelling is read as that value. P9.4: also with white space around it.
func TestSpellings(t *testing.T) {
	r := rand.New(rand.NewSource(3))
	for range 20000 {
		v := anyValue(r, r.Intn(7))
		s := spell(r, v)
		if len(s) <= api.MaxDoc {
			wantRead(t, s, v)
		}
	}
	for _, x := range samples() {
		for range 50 {
			wantRead(t, spell(r, x.v), x.v)
		}
	}
}

// P9.5: a list of texts is the list of their values; an object of them likewise.
func TestJoined(t *testing.T) {
	r := rand.New(rand.NewSource(4))
	for range 3000 {
		var texts, members []string
		var items []api.Value
		want := api.Value{Kind: api.Obj}
		for i := range r.Intn(5) {
			v := anyValue(r, r.Intn(4))
			texts = append(texts, spell(r, v))
			items = append(items, v)
			members = append(members, fmt.Sprintf("\"%d\":%s", i, texts[i]))
			want.Names = append(want.Names, fmt.Sprint(i))
		}
		want.Items = items
		wantRead(t, "["+strings.Join(texts, ",")+"]", list(items...))
		slices.Reverse(members)
		wantRead(t, "{"+strings.Join(members, ",")+"}", want)
	}
	for _, a := range samples() {
		for _, b := range samples() {
			wantRead(t, "["+a.text+","+b.text+"]", list(a.v, b.v))
			wantRead(t, `{"y":`+a.text+`,"x":`+b.text+`}`, object("x", b.v, "y", a.v))
		}
	}
}

// P9.7: a text followed by a token is ErrMore there.
func TestMore(t *testing.T) {
	r := rand.New(rand.NewSource(5))
	for i := range 2000 {
		s := spell(r, anyValue(r, r.Intn(4)))
		if i < len(samples()) {
			s = samples()[i].text
		}
		for _, token := range []string{"{", "}", "[", "]", ",", ":", "true", "false", "0", "-1", `""`, `"a"`, "{}", "1 x", "]x", "[x"} {
			wantWrong(t, s+" "+token, len(s)+1, api.ErrMore)
			wantWrong(t, s+" \r\n"+token+" ", len(s)+3, api.ErrMore)
		}
	}
}

// P9.8: no prefix of a list's or an object's text that ends before its last token is a text.
func TestNoPrefix(t *testing.T) {
	r := rand.New(rand.NewSource(6))
	for range 500 {
		s := spell(r, list(anyValue(r, 3), object("a", anyValue(r, 2))))
		if r.Intn(2) == 0 {
			s = spell(r, object("a", anyValue(r, 3), "", list(anyValue(r, 2))))
		}
		for n := range strings.LastIndexAny(s, "]}") + 1 {
			if e := wantModel(t, s[:n]); e == api.OK {
				t.Errorf("%q: read", s[:n])
			}
		}
	}
}

// P9.1: MaxDoc bytes, and one more, which is told ahead of everything else.
func TestDoc(t *testing.T) {
	const most = api.MaxDoc
	wantRead(t, "1"+strings.Repeat(" ", most-1), number(1))
	wantRead(t, strings.Repeat("\n", most-1)+"1", number(1))
	wantRead(t, strings.Repeat(" ", most-4)+"[[]]", list(list()))
	wantWrong(t, "1"+strings.Repeat(" ", most), 0, api.ErrLong)
	wantWrong(t, strings.Repeat(" ", most)+"1", 0, api.ErrLong)
	wantWrong(t, strings.Repeat(" ", most), most, api.ErrShort)
	wantWrong(t, strings.Repeat(" ", most+1), 0, api.ErrLong)
	wantWrong(t, strings.Repeat(" ", most-1)+"x", most-1, api.ErrForm)
	wantWrong(t, strings.Repeat(" ", most-1)+"[", most, api.ErrShort)
	wantWrong(t, "1"+strings.Repeat(" ", most-2)+"1", most-1, api.ErrMore)
	for _, s := range []string{"x", "]", "[1 2]", `{"a":1,"a":1}`, "\xff", strings.Repeat("[", 13), "1 1", "[", "", `"`} {
		wantWrong(t, s+strings.Repeat(" ", most+1-len(s)), 0, api.ErrLong)
		wantWrong(t, s+strings.Repeat("x", most+1-len(s)), 0, api.ErrLong)
		wantWrong(t, s+strings.Repeat("[", 3*most), 0, api.ErrLong)
	}
	// fifteen strings of MaxText bytes and one that fills what is left
	item := `"` + strings.Repeat("a", api.MaxText) + `"`
	want := list(slices.Repeat([]api.Value{text(strings.Repeat("a", api.MaxText))}, 15)...)
	s := "[" + strings.Repeat(item+",", 15)
	rest := strings.Repeat("b", most-len(s)-3)
	want.Items = append(want.Items, text(rest))
	wantRead(t, s+`"`+rest+`"]`, want)
	wantWrong(t, s+`"`+rest+`b"]`, 0, api.ErrLong)
	wantWrong(t, s+`"`+rest+`b"`, most, api.ErrShort)
}

// P9.1: MaxValues values, and one more, at the token with which it begins.
func TestValueCount(t *testing.T) {
	const most = api.MaxValues
	ones := func(n int) string { return strings.TrimSuffix(strings.Repeat("1,", n), ",") }
	wantRead(t, "["+ones(most-1)+"]", list(slices.Repeat([]api.Value{number(1)}, most-1)...))
	for _, one := range []string{"1", "true", "false", `"a"`, "[]", "{}", "[", "{", "[]]", "1x"} {
		wantWrong(t, "["+ones(most-1)+","+one+"]", 2*most-1, api.ErrLong)
	}
	for _, x := range []wrong{
		{"]", 0, api.ErrForm}, {",", 0, api.ErrForm}, {":", 0, api.ErrForm}, {"}", 0, api.ErrForm}, {"", 0, api.ErrShort}, {"x", 0, api.ErrForm}, {"01", 0, api.ErrForm}, {`"a`, 0, api.ErrShort}, {"\"\xff\"", 0, api.ErrUTF}, {"9223372036854775808", 0, api.ErrRange},
	} {
		wantWrong(t, "["+ones(most-1)+","+x.text, 2*most-1, x.e)
	}
	// spread over lists: the outer one, n lists of k numbers, and those that are left
	const n, k = 99, 80
	inner := list(slices.Repeat([]api.Value{number(1)}, k)...)
	want := list(slices.Repeat([]api.Value{inner}, n)...)
	left := most - 1 - n*(k+1)
	want.Items = append(want.Items, slices.Repeat([]api.Value{number(1)}, left)...)
	s := "[" + strings.Repeat("["+ones(k)+"],", n)
	wantRead(t, s+ones(left)+"]", want)
	wantWrong(t, s+ones(left)+",1]", len(s)+2*left, api.ErrLong)
	wantWrong(t, s+ones(left-1)+",[1]]", len(s)+2*left-1, api.ErrLong)
	// spread over objects of three values (names are none), and one beside them
	const objects = (most - 2) / 3
	want = list(slices.Repeat([]api.Value{object("a", number(1), "b", number(2))}, objects)...)
	want.Items = append(want.Items, number(1))
	s = "[" + strings.Repeat(`{"a":1,"b":2},`, objects)
	wantRead(t, s+"1]", want)
	wantWrong(t, s+"1,1]", len(s)+2, api.ErrLong)
	wantWrong(t, s+`{"a":1}]`, len(s)+5, api.ErrLong)
	wantWrong(t, "["+ones(most-3)+`,{"a":1,"a":2}]`, 2*(most-3)+8, api.ErrTwice)
	wantWrong(t, "["+ones(most-3)+`,{"a":1,"b":2}]`, 2*(most-3)+12, api.ErrLong)
	wantWrong(t, "["+ones(most-3)+`,{"a":1},1]`, 2*(most-3)+9, api.ErrLong)
}

// P9.1: as many values in one object as the text holds.
func TestBigObject(t *testing.T) {
	for _, down := range []bool{false, true} {
		var members []string
		want := api.Value{Kind: api.Obj}
		for i := range 7000 {
			name := string(rune(0x100 + i))
			want.Names, want.Items = append(want.Names, name), append(want.Items, number(int64(i%10)))
			members = append(members, fmt.Sprintf(`"%s":%d`, name, i%10))
		}
		if down {
			slices.Reverse(members)
		}
		s := "{" + strings.Join(members, ",") + "}"
		wantRead(t, s, want)
		wantWrong(t, s[:len(s)-1]+","+members[3000]+"}", len(s), api.ErrTwice)
	}
}

// P9.1: MaxDepth lists and objects in each other, and one more, where it begins.
func TestDepth(t *testing.T) {
	const most = api.MaxDepth
	for pattern := range 1 << most {
		open, shut, v := "", "", number(1)
		for i := range most {
			if pattern>>i&1 == 0 {
				open, shut, v = "["+open, shut+"]", list(v)
			} else {
				open, shut, v = `{"k":`+open, shut+"}", object("k", v)
			}
		}
		wantRead(t, open+"1"+shut, v)
		for _, more := range []string{"[", "{", "[]", "{}", "[x", "{]", `{"k":1}`, "[[[["} {
			wantWrong(t, open+more, len(open), api.ErrDeep)
			wantWrong(t, open+more+shut, len(open), api.ErrDeep)
		}
	}
	full := strings.Repeat("[", most) + strings.Repeat("]", most)
	wantRead(t, full, deepList(most))
	wantRead(t, "["+full[1:len(full)-1]+","+full[1:len(full)-1]+"]", list(deepList(most-1), deepList(most-1)))
	wantRead(t, `{"a":`+full[1:len(full)-1]+`,"b":`+full[1:len(full)-1]+`}`, object("a", deepList(most-1), "b", deepList(most-1)))
	wantRead(t, strings.Repeat("[", most-1)+"[],[],{},[1]"+strings.Repeat("]", most-1), deepOf(most-1, list(), list(), object(), list(number(1))))
	wantWrong(t, "["+full[1:len(full)-1]+","+full+"]", 2*most+most-1, api.ErrDeep)
	wantWrong(t, strings.Repeat("[", most)+"1,{}", most+2, api.ErrDeep)
	wantWrong(t, strings.Repeat("[", most)+"]]]]]]]]]]]] [", 2*most+1, api.ErrMore)
	for _, x := range []wrong{{"", 0, api.ErrShort}, {"x", 0, api.ErrForm}, {",", 0, api.ErrForm}, {"}", 0, api.ErrForm}, {"[", 0, api.ErrDeep}, {"{", 0, api.ErrDeep}} {
		wantWrong(t, strings.Repeat("[", most)+x.text, most, x.e)
	}
}

func deepList(n int) api.Value { return deepOf(n - 1) }

// deepOf is a list of these, in that many lists all in all; deepOf(0) is the empty list.
func deepOf(n int, items ...api.Value) api.Value {
	out := list(items...)
	if len(items) > 0 {
		n--
	}
	for range n {
		out = list(out)
	}
	return out
}

// P9.1: where a value is one too many and too deep, it is one too many.
func TestManyAndDeep(t *testing.T) {
	ones := strings.Repeat("1,", api.MaxValues-api.MaxDepth)
	s := strings.Repeat("[", api.MaxDepth) + ones
	wantWrong(t, s+"[", len(s), api.ErrLong)
	wantWrong(t, s+"{", len(s), api.ErrLong)
	wantWrong(t, s+"1", len(s), api.ErrLong)
	wantWrong(t, s+"]", len(s), api.ErrForm)
	wantWrong(t, s[:len(s)-2]+"[", len(s)-2, api.ErrDeep)
	wantWrong(t, s[:len(s)-2]+"1,[", len(s), api.ErrLong)
}

// P9.1: strings and names of MaxText bytes, decoded, and of one more.
func TestText(t *testing.T) {
	const most = api.MaxText
	for _, x := range []struct {
		text, rune string
		size       int
	}{
		{"a", "a", 1}, {`\n`, "\n", 1}, {`\u0061`, "a", 1}, {"é", "é", 2}, {`\u00e9`, "é", 2}, {"𝄞", "𝄞", 4}, {`\ud834\udd1e`, "𝄞", 4},
	} {
		s, decoded := strings.Repeat(x.text, most/x.size), strings.Repeat(x.rune, most/x.size)
		wantRead(t, `"`+s+`"`, text(decoded))
		wantRead(t, `[1,"`+s+`"]`, list(number(1), text(decoded)))
		wantRead(t, `{"`+s+`":1}`, object(decoded, number(1)))
		wantRead(t, `{"x":1,"`+s+`":""}`, sorted(object(), frame{[]string{"x", decoded}, []api.Value{number(1), text("")}}))
		for _, more := range []string{"b", `\b`, `\u0000`, "é"} {
			wantWrong(t, `"`+s+more+`"`, 0, api.ErrLong)
			wantWrong(t, `[1,"`+s+more+`"]`, 3, api.ErrLong)
			wantWrong(t, `{"`+s+more+`":1}`, 1, api.ErrLong)
			wantWrong(t, `{"x":1,"`+more+s+`":1}`, 7, api.ErrLong)
			wantWrong(t, `{"x":"`+s+more+`"}`, 5, api.ErrLong)
		}
	}
}

// P9.2: any bytes at all are read or refused, with a place in the text.
func TestAnyBytes(t *testing.T) {
	r := rand.New(rand.NewSource(7))
	for b := range 256 {
		wantModel(t, string([]byte{byte(b)}))
		for _, s := range []string{"1", "[", "]", `"a"`, " "} {
			wantModel(t, s+string([]byte{byte(b)}))
			wantModel(t, string([]byte{byte(b)})+s)
			wantModel(t, "[1"+string([]byte{byte(b)})+s+"]")
		}
	}
	for range 20000 {
		s := make([]byte, r.Intn(12))
		for i := range s {
			s[i] = byte(r.Intn(256))
			if r.Intn(4) > 0 {
				s[i] = "{}[],:\"\"\\ 01t"[r.Intn(13)]
			}
		}
		wantModel(t, string(s))
	}
}
