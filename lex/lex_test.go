package lex

import (
	"math"
	"math/rand"
	"reflect"
	"regexp"
	"slices"
	"strings"
	"testing"

	"legate/api"
	"legate/num"
	"legate/quote"
)

// A sample is the bytes of a token, and what the token has beside its place.
type sample struct {
	text string
	kind uint8
	n    int64
	t    string
}

// samples are tokens of each kind but End.
func samples() []sample {
	return []sample{
		{"{", Open, 0, ""}, {"}", Shut, 0, ""}, {"[", First, 0, ""}, {"]", Last, 0, ""}, {",", Comma, 0, ""}, {":", Colon, 0, ""},
		{"true", True, 0, ""}, {"false", False, 0, ""},
		{"0", Num, 0, ""}, {"1", Num, 1, ""}, {"-1", Num, -1, ""}, {"120", Num, 120, ""}, {"1099511627776", Num, api.MaxVersion, ""},
		{"9223372036854775807", Num, math.MaxInt64, ""}, {"-9223372036854775808", Num, math.MinInt64, ""},
		{`""`, Text, 0, ""}, {`"a"`, Text, 0, "a"}, {`"true"`, Text, 0, "true"}, {`"12"`, Text, 0, "12"}, {`" , "`, Text, 0, " , "},
		{`"a\"b\\"`, Text, 0, `a"b\`}, {`"\u00e9\n"`, Text, 0, "é\n"}, {`"é€𝄞"`, Text, 0, "é€𝄞"}, {`"\ud83d\ude00"`, Text, 0, "\U0001f600"}, {`"{[:]}"`, Text, 0, "{[:]}"},
	}
}

// spaces are white space: each byte of it, some, and none.
var spaces = []string{"", " ", "\t", "\n", "\r", "  ", "\r\n", " \t\n\r \n"}

// broken are texts of one wrong token, with its error.
var broken = []struct {
	text string
	want api.Errno
}{
	{"tru", api.ErrForm}, {"t", api.ErrForm}, {"f", api.ErrForm}, {"rue", api.ErrForm}, {"fals", api.ErrForm}, {"alse", api.ErrForm},
	{"truex", api.ErrForm}, {"truee", api.ErrForm}, {"ttrue", api.ErrForm}, {"falsey", api.ErrForm}, {"falsefalse", api.ErrForm},
	{"truetrue", api.ErrForm}, {"truefalse", api.ErrForm}, {"falsetrue", api.ErrForm}, {"trufalse", api.ErrForm},
	{"null", api.ErrForm}, {"a", api.ErrForm}, {"z", api.ErrForm}, {"e", api.ErrForm}, {"e5", api.ErrForm}, {"nan", api.ErrForm}, {"infinity", api.ErrForm},
	{"True", api.ErrForm}, {"TRUE", api.ErrForm}, {"tRUE", api.ErrForm}, {"trUe", api.ErrForm}, {"truE", api.ErrForm}, {"False", api.ErrForm}, {"FALSE", api.ErrForm}, {"falsE", api.ErrForm},
	{"A", api.ErrForm}, {"Z", api.ErrForm}, {"E", api.ErrForm}, {"E5", api.ErrForm}, {"NaN", api.ErrForm},
	{"-", api.ErrForm}, {"+", api.ErrForm}, {".", api.ErrForm}, {"--1", api.ErrForm}, {"+1", api.ErrForm}, {"-0", api.ErrForm}, {".5", api.ErrForm}, {"-.5", api.ErrForm},
	{"00", api.ErrForm}, {"01", api.ErrForm}, {"1.", api.ErrForm}, {"1.5", api.ErrForm}, {"1e5", api.ErrForm}, {"1E5", api.ErrForm}, {"1e", api.ErrForm}, {"1-", api.ErrForm}, {"1+1", api.ErrForm}, {"1-1", api.ErrForm}, {"-true", api.ErrForm}, {"-\"a\"", api.ErrForm},
	{"9223372036854775808", api.ErrRange}, {"-9223372036854775809", api.ErrRange}, {strings.Repeat("9", 5000), api.ErrRange}, {strings.Repeat("9", 5000) + ".", api.ErrForm},
	{`"`, api.ErrShort}, {`"a`, api.ErrShort}, {`"\`, api.ErrShort}, {`"\"`, api.ErrShort}, {`"\u12`, api.ErrShort}, {`"\ud83d`, api.ErrShort},
	{"\"\n\"", api.ErrForm}, {"\"\x1f\"", api.ErrForm}, {"\"\x00", api.ErrForm}, {`"\x"`, api.ErrForm}, {`"\u12g4"`, api.ErrForm}, {`"\U0041"`, api.ErrForm},
	{"\"\xff\"", api.ErrUTF}, {"\"\xc3(\"", api.ErrUTF}, {`"\ud83d"`, api.ErrUTF}, {`"\ude00"`, api.ErrUTF}, {"\"\xed\xa0\x80\"", api.ErrUTF},
	{`"` + strings.Repeat("a", api.MaxText+1) + `"`, api.ErrLong}, {`"` + strings.Repeat("a", api.MaxText+1), api.ErrLong}, {`"` + strings.Repeat(`\n`, api.MaxText+1) + `"`, api.ErrLong},
	{"\v", api.ErrForm}, {"\f", api.ErrForm}, {"\b", api.ErrForm}, {"\x00", api.ErrForm}, {"\x7f", api.ErrForm}, {"\xa0", api.ErrForm}, {"\u0085", api.ErrForm}, {"\u2003", api.ErrForm}, {"\ufeff", api.ErrForm},
	{"'a'", api.ErrForm}, {"_", api.ErrForm}, {"/", api.ErrForm}, {"//", api.ErrForm}, {";", api.ErrForm}, {"=", api.ErrForm}, {"(", api.ErrForm}, {"\\", api.ErrForm}, {"é", api.ErrForm}, {"٣", api.ErrForm}, {"１", api.ErrForm}, {"“a”", api.ErrForm}, {"`a`", api.ErrForm},
}

// at returns the token of a sample at an index.
func (m sample) at(i int) Mark {
	return Mark{Kind: m.kind, At: i, End: i + len(m.text), N: m.n, T: m.t}
}

// endAt returns the token that stands where nothing is left.
func endAt(i int) Mark { return Mark{Kind: End, At: i, End: i} }

// merges reports whether two samples next to each other become one wrong token.
func merges(a, b sample) bool {
	isWord := func(m sample) bool { return m.kind == True || m.kind == False }
	return isWord(a) && isWord(b) || a.kind == Num && b.kind == Num
}

// wantNext holds that Next gives this at an index.
func wantNext(t *testing.T, s string, at int, want Mark) {
	t.Helper()
	if m, e := Next(s, at); m != want || e != api.OK {
		t.Errorf("%.80q (%d) at %d: %v %v, not %v", s, len(s), at, m, e, want)
	}
}

// wantNoNext holds that Next gives an error at an index, and nothing else.
func wantNoNext(t *testing.T, s string, at int, want api.Errno) {
	t.Helper()
	if m, e := Next(s, at); m != (Mark{}) || e != want {
		t.Errorf("%.80q (%d) at %d: %v %v, not %v", s, len(s), at, m, e, want)
	}
}

// wantAll holds that All gives these tokens.
func wantAll(t *testing.T, s string, want ...Mark) {
	t.Helper()
	if l, place, e := All(s); !slices.Equal(l, want) || place != 0 || e != api.OK {
		t.Errorf("%.80q (%d): %.300v %d %v, not %.300v", s, len(s), l, place, e, want)
	}
}

// wantNone holds that All gives an error at a place, and no tokens.
func wantNone(t *testing.T, s string, place int, want api.Errno) {
	t.Helper()
	if l, p, e := All(s); len(l) != 0 || p != place || e != want {
		t.Errorf("%.80q (%d): %.300v %d %v, not %d %v", s, len(s), l, p, e, place, want)
	}
}

// kinds returns the kinds of tokens.
func kinds(l []Mark) []uint8 {
	var out []uint8
	for _, m := range l {
		out = append(out, m.Kind)
	}
	return out
}

// The kinds have the chapter's numbers, and a token has the chapter's fields.
func TestKinds(t *testing.T) {
	if got := []uint8{Open, Shut, First, Last, Comma, Colon, True, False, Num, Text, End}; !slices.Equal(got, []uint8{1, 2, 3, 4, 5, 6, 7, 8, 9, 10, 11}) {
		t.Error(got)
	}
	m := Mark{Kind: Num, At: 1, End: 2, N: 3, T: ""}
	if n := reflect.TypeOf(m).NumField(); n != 5 {
		t.Error(n)
	}
}

// P7.1, P7.2: the examples of the chapter.
func TestExamples(t *testing.T) {
	wantAll(t, `{ "a" :1}`, Mark{Open, 0, 1, 0, ""}, Mark{Text, 2, 5, 0, "a"}, Mark{Colon, 6, 7, 0, ""}, Mark{Num, 7, 8, 1, ""}, Mark{Shut, 8, 9, 0, ""}, Mark{End, 9, 9, 0, ""})
	wantAll(t, "true", Mark{True, 0, 4, 0, ""}, Mark{End, 4, 4, 0, ""})
	wantAll(t, "false", Mark{False, 0, 5, 0, ""}, Mark{End, 5, 5, 0, ""})
	for _, s := range []string{"truex", "tru", "True", "-"} {
		wantNone(t, s, 0, api.ErrForm)
		wantNoNext(t, s, 0, api.ErrForm)
	}
	wantNone(t, "[1.5]", 1, api.ErrForm)
	wantNext(t, "[1.5]", 0, Mark{First, 0, 1, 0, ""})
	wantNoNext(t, "[1.5]", 1, api.ErrForm)
	for _, s := range []string{"", " ", " \t\r\n"} {
		wantAll(t, s, Mark{End, len(s), len(s), 0, ""})
	}
}

// P7.1, P7.2, P7.6: each token by itself, with white space before and after it.
func TestOne(t *testing.T) {
	for _, m := range samples() {
		for _, before := range spaces {
			for _, after := range spaces {
				s := before + m.text + after
				wantAll(t, s, m.at(len(before)), endAt(len(s)))
				for at := range len(before) + 1 {
					wantNext(t, s, at, m.at(len(before)))
				}
				for at := len(before) + len(m.text); at <= len(s); at++ {
					wantNext(t, s, at, endAt(len(s)))
				}
			}
		}
	}
}

// P7.1, P7.2, P7.3: each token next to each other one, with white space between them and without it; two words, or two numbers, need it.
func TestTwo(t *testing.T) {
	for _, a := range samples() {
		for _, b := range samples() {
			for _, between := range spaces {
				s := a.text + between + b.text
				if between == "" && merges(a, b) {
					wantMerged(t, s)
					continue
				}
				second := b.at(len(a.text + between))
				wantAll(t, s, a.at(0), second, endAt(len(s)))
				wantAll(t, " "+s+"\n", a.at(1), b.at(second.At+1), endAt(len(s)+2))
				wantNext(t, s, 0, a.at(0))
				wantNext(t, s, len(a.text), second)
			}
		}
	}
}

// wantMerged holds that two words without white space between them are none, and that two such numbers are what num.Read makes of both.
func wantMerged(t *testing.T, s string) {
	t.Helper()
	n, end, want := num.Read(s, 0)
	if want != api.OK {
		wantNone(t, s, 0, want)
		wantNone(t, "["+s+"]", 1, want)
		return
	}
	wantAll(t, s, Mark{Num, 0, end, n, ""}, endAt(len(s)))
}

// P7.2: two words next to each other are none, wherever they stand.
func TestMergedWords(t *testing.T) {
	for _, a := range []string{"true", "false"} {
		for _, b := range []string{"true", "false", "t", "e", "x"} {
			wantNone(t, a+b, 0, api.ErrForm)
			wantNone(t, "[true,\n"+a+b+"]", 7, api.ErrForm)
			wantNoNext(t, a+b, 0, api.ErrForm)
		}
	}
	wantNone(t, "1-2", 0, api.ErrForm)
	wantNone(t, "[0 01]", 3, api.ErrForm)
	wantAll(t, "1 2", Mark{Num, 0, 1, 1, ""}, Mark{Num, 2, 3, 2, ""}, endAt(3))
	wantAll(t, "12", Mark{Num, 0, 2, 12, ""}, endAt(2))
	wantAll(t, "1true", Mark{Num, 0, 1, 1, ""}, Mark{True, 1, 5, 0, ""}, endAt(5))
	wantAll(t, "1false-2", Mark{Num, 0, 1, 1, ""}, Mark{False, 1, 6, 0, ""}, Mark{Num, 6, 8, -2, ""}, endAt(8))
	wantAll(t, `true"true"true`, Mark{True, 0, 4, 0, ""}, Mark{Text, 4, 10, 0, "true"}, Mark{True, 10, 14, 0, ""}, endAt(14))
	wantAll(t, `1"2"3`, Mark{Num, 0, 1, 1, ""}, Mark{Text, 1, 4, 0, "2"}, Mark{Num, 4, 5, 3, ""}, endAt(5))
}

// row builds a text of samples at random with white space between them, and its tokens without the End.
func row(from *rand.Rand, many int) (string, []Mark) {
	all := samples()
	var b strings.Builder
	var want []Mark
	last := sample{}
	for range many {
		m := all[from.Intn(len(all))]
		space := spaces[from.Intn(len(spaces))]
		if space == "" && merges(last, m) {
			space = " "
		}
		b.WriteString(space)
		want = append(want, m.at(b.Len()))
		b.WriteString(m.text)
		last = m
	}
	b.WriteString(spaces[from.Intn(len(spaces))])
	return b.String(), want
}

// P7.1, P7.2, P7.3, P7.6: rows of tokens at random; All's are those of Next, one by one, and between them stands white space.
func TestSequence(t *testing.T) {
	from := rand.New(rand.NewSource(7))
	for many := range 300 {
		s, want := row(from, many%60)
		want = append(want, endAt(len(s)))
		wantAll(t, s, want...)
		at := 0
		for _, m := range want {
			wantNext(t, s, at, m)
			if gap := strings.Trim(s[at:m.At], " \t\n\r"); gap != "" {
				t.Errorf("%q: %q is left out", s, gap)
			}
			at = m.End
			if m.Kind == End {
				continue
			}
			alone := m
			alone.At, alone.End = 0, m.End-m.At
			wantAll(t, s[m.At:m.End], alone, endAt(m.End-m.At))
		}
	}
}

// P7.4: white space before and after tokens changes only where they stand.
func TestWhiteSpace(t *testing.T) {
	from := rand.New(rand.NewSource(74))
	for range 300 {
		s, _ := row(from, 1+from.Intn(12))
		plain, _, _ := All(s)
		for _, space := range spaces {
			var b strings.Builder
			var want []Mark
			for _, m := range plain {
				b.WriteString(space)
				moved := m
				moved.At = b.Len()
				moved.End = moved.At + m.End - m.At
				want = append(want, moved)
				// So that what stood apart stays apart.
				b.WriteString(s[m.At:m.End])
				if m.Kind != End {
					b.WriteString("\n")
				}
			}
			wantAll(t, b.String(), want...)
		}
	}
}

// P7.5: the tokens of two texts with white space between them.
func TestConcatenation(t *testing.T) {
	from := rand.New(rand.NewSource(75))
	for range 2000 {
		a, first := row(from, from.Intn(6))
		b, second := row(from, from.Intn(6))
		a += spaces[1+from.Intn(len(spaces)-1)]
		want := first
		for _, m := range second {
			m.At += len(a)
			m.End += len(a)
			want = append(want, m)
		}
		wantAll(t, a+b, append(want, endAt(len(a+b)))...)
	}
}

// P7.1, P7.2: no byte but the four is white space, and no byte but those of the chapter begins a token.
func TestFirstByte(t *testing.T) {
	const single = "{}[],:"
	for c := range 256 {
		b := string([]byte{byte(c)})
		for _, front := range []string{"", " ", "{", "1", "true", `"a"`, "[ \n", "-12 "} {
			s, at := front+b, len(front)
			joins := strings.ContainsAny(front, "0123456789") && front[at-1] != ' ' && strings.Contains("0123456789-+.eE", b)
			joins = joins || front == "true" && c >= 'a' && c <= 'z'
			switch i := strings.Index(single, b); {
			case joins:
			case i >= 0:
				wantNext(t, s, at, Mark{Open + uint8(i), at, at + 1, 0, ""})
			case strings.Contains(" \t\n\r", b):
				wantNext(t, s, at, endAt(at+1))
				wantNext(t, s+"]", at, Mark{Last, at + 1, at + 2, 0, ""})
			case c >= '0' && c <= '9':
				wantNext(t, s, at, Mark{Num, at, at + 1, int64(c - '0'), ""})
			case c == '"':
				wantNoNext(t, s, at, api.ErrShort)
				wantNone(t, s, at, api.ErrShort)
			default:
				for _, behind := range []string{"", "]", " ", "\n[", "A", "\xff"} {
					wantNoNext(t, s+behind, at, api.ErrForm)
					wantNone(t, s+behind, at, api.ErrForm)
				}
			}
		}
	}
}

// P7.1, ErrForm: every byte behind a word either is a letter, so that the word is none, or ends it.
func TestByteBehindWord(t *testing.T) {
	for _, m := range samples()[6:8] {
		for c := range 256 {
			for _, behind := range []string{"", "1", "e", " "} {
				s := "," + m.text + string([]byte{byte(c)}) + behind
				if c >= 'a' && c <= 'z' {
					wantNoNext(t, s, 1, api.ErrForm)
					wantNone(t, s, 1, api.ErrForm)
				} else {
					wantNext(t, s, 1, m.at(1))
				}
			}
		}
	}
}

// P7.1: a word with a letter left out, put in, or another in its place, is none.
func TestWords(t *testing.T) {
	for _, w := range []string{"true", "false"} {
		for i := range len(w) + 1 {
			for c := byte('a'); c <= 'z'; c++ {
				wantNoNext(t, w[:i]+string(c)+w[i:], 0, api.ErrForm)
				if i < len(w) && w[i] != c {
					wantNoNext(t, w[:i]+string(c)+w[i+1:], 0, api.ErrForm)
				}
			}
			if i < len(w) {
				wantNoNext(t, w[:i]+w[i+1:], 0, api.ErrForm)
				upper := w[:i] + strings.ToUpper(w[i:i+1]) + w[i+1:]
				wantNoNext(t, upper, 0, api.ErrForm)
				wantNone(t, " "+upper, 1, api.ErrForm)
			}
			if i > 0 && i < len(w) {
				wantNoNext(t, w[:i]+" "+w[i:], 0, api.ErrForm)
			}
		}
	}
	for _, many := range []int{100, 5000, api.MaxDoc} {
		wantNone(t, strings.Repeat("t", many), 0, api.ErrForm)
		wantNone(t, strings.Repeat("true", many/4), 0, api.ErrForm)
	}
}

// P7.1: numbers of all lengths, with what num.Show writes.
func TestNumbers(t *testing.T) {
	from := rand.New(rand.NewSource(71))
	for i := range 2000 {
		n := int64(from.Uint64()) >> (i % 64)
		text := num.Show(n)
		for _, behind := range []string{"", " ", ",", "]", "true", `"1"`, "x", "\x00"} {
			wantNext(t, "[ "+text+behind, 1, Mark{Num, 2, 2 + len(text), n, ""})
		}
		wantAll(t, text+"\t,"+text, Mark{Num, 0, len(text), n, ""}, Mark{Comma, len(text) + 1, len(text) + 2, 0, ""}, Mark{Num, len(text) + 2, 2*len(text) + 2, n, ""}, endAt(2*len(text)+2))
	}
}

// P7.1: strings of all lengths up to MaxText, and the escapes.
func TestTexts(t *testing.T) {
	for _, many := range []int{0, 1, 2, 3, 63, 64, 255, 256, 1000, api.MaxText/2 - 1, api.MaxText / 2, api.MaxText - 1, api.MaxText} {
		for _, piece := range []string{"a", `"`, `\`, " ", "é", "{", "1"} {
			text := strings.Repeat(piece, many)
			written, e := quote.Quote(text)
			if e != api.OK {
				continue
			}
			end := 1 + len(written)
			wantAll(t, ":"+written+written, Mark{Colon, 0, 1, 0, ""}, Mark{Text, 1, end, 0, text}, Mark{Text, end, end + len(written), 0, text}, endAt(end+len(written)))
			wantNext(t, "x"+written+"x", 1, Mark{Text, 1, end, 0, text})
		}
	}
	escaped := `"\u0000` + strings.Repeat(`\u20ac`, 1365) + `"`
	wantNext(t, escaped, 0, Mark{Text, 0, len(escaped), 0, "\x00" + strings.Repeat("€", 1365)})
	wantAll(t, `"\"\\\/\b\f\n\r\t"`, Mark{Text, 0, 18, 0, "\"\\/\b\f\n\r\t"}, endAt(18))
}

// P7.1, P7.2, errors: wrong tokens; the place is where they begin, after white space, and there are no tokens, however many came before.
func TestBroken(t *testing.T) {
	fronts := []string{"", "{", "[1,2,", `{"a":`, "true", `"tru"`, "1", "]", strings.Repeat("[", 3000)}
	for _, c := range broken {
		for _, front := range fronts {
			for _, space := range spaces {
				s := front + space + c.text
				// Here the wrong token might continue the one in front.
				if space == "" && (front == "true" || front == "1") {
					continue
				}
				at := len(front + space)
				wantNone(t, s, at, c.want)
				wantNoNext(t, s, at, c.want)
				wantNoNext(t, s, len(front), c.want)
			}
		}
	}
}

// R2: of several wrong tokens the first one determines the error, whatever follows.
func TestFirstWrong(t *testing.T) {
	for _, c := range []struct {
		text  string
		place int
		want  api.Errno
	}{
		{"[-,99999999999999999999]", 1, api.ErrForm},
		{"[99999999999999999999,-]", 1, api.ErrRange},
		{"[1, \"\xff\", tru, -]", 4, api.ErrUTF},
		{`["\ud83d", tru`, 1, api.ErrUTF},
		{"x \"", 0, api.ErrForm},
		{"\t \"", 2, api.ErrShort},
		{`{"a":nul,"b":"`, 5, api.ErrForm},
		{`"` + strings.Repeat("é", 2049) + "\xff", 0, api.ErrLong},
		{`"` + strings.Repeat("é", 2048) + "\xff", 0, api.ErrUTF},
		{"1 2 3 +4 5 x", 6, api.ErrForm},
		{"0 1 00", 4, api.ErrForm},
	} {
		wantNone(t, c.text, c.place, c.want)
	}
}

// The tokens need not form a value.
func TestNoGrammar(t *testing.T) {
	l, place, e := All("}]:,{[ 1 1 true,,false:\"\"\"\"")
	if !slices.Equal(kinds(l), []uint8{Shut, Last, Colon, Comma, Open, First, Num, Num, True, Comma, Comma, False, Colon, Text, Text, End}) || place != 0 || e != api.OK {
		t.Error(l, place, e)
	}
}

// Errors of Next: ErrArg for an index that is negative or exceeds the length, whatever stands there; at the length itself nothing is left.
func TestArg(t *testing.T) {
	for _, s := range []string{"", " ", "1", "{}", "true", "tru", "-", `"a`, "\xff", strings.Repeat("x", api.MaxDoc+1)} {
		for _, at := range []int{-1, -2, -len(s) - 1, math.MinInt, math.MinInt32, len(s) + 1, len(s) + 2, math.MaxInt32, math.MaxInt} {
			wantNoNext(t, s, at, api.ErrArg)
		}
		wantNext(t, s, len(s), endAt(len(s)))
	}
}

// P7.1: at any index, also within white space and within a token, Next returns what it does at the beginning of the rest, at a shifted place.
func TestWithin(t *testing.T) {
	for _, s := range []string{
		`{ "a" :1}`, "  true  false ", `[-12, 345,"a \" true 1",false]`, `"\u00e9\ud83d\ude00é"`, "truefalse", "1e5 -1 --2 +.", "\x00\xff", `{"a":{"b":[1,2 ,3]},"true":true}`,
	} {
		for at := range len(s) + 1 {
			m, e := Next(s[at:], 0)
			if e != api.OK {
				wantNoNext(t, s, at, e)
				continue
			}
			m.At += at
			m.End += at
			wantNext(t, s, at, m)
		}
	}
	wantNext(t, "123", 1, Mark{Num, 1, 3, 23, ""})
	wantNoNext(t, "103", 1, api.ErrForm)
	wantNoNext(t, "true", 1, api.ErrForm)
	wantNext(t, "xtrue", 1, Mark{True, 1, 5, 0, ""})
	wantNext(t, `"a true b"`, 2, Mark{True, 3, 7, 0, ""})
	wantNext(t, `"a" : "b"`, 2, Mark{Text, 2, 7, 0, " : "})
	wantNext(t, "  \n 7", 2, Mark{Num, 4, 5, 7, ""})
}

// P7.2, ErrLong: a text of MaxDoc bytes, and of one more, whatever it consists of.
func TestMaxDoc(t *testing.T) {
	full := strings.Repeat(" ", api.MaxDoc)
	wantAll(t, full, endAt(api.MaxDoc))
	wantNone(t, full+" ", 0, api.ErrLong)
	wantAll(t, "1"+full[1:], Mark{Num, 0, 1, 1, ""}, endAt(api.MaxDoc))
	wantAll(t, full[1:]+"]", Mark{Last, api.MaxDoc - 1, api.MaxDoc, 0, ""}, endAt(api.MaxDoc))
	wantNone(t, full+"]", 0, api.ErrLong)
	wantNone(t, full[1:]+"-", api.MaxDoc-1, api.ErrForm)
	wantNone(t, full+"-", 0, api.ErrLong)
	brackets := strings.Repeat("[", api.MaxDoc)
	l, place, e := All(brackets)
	if len(l) != api.MaxDoc+1 || place != 0 || e != api.OK || l[api.MaxDoc-1] != (Mark{First, api.MaxDoc - 1, api.MaxDoc, 0, ""}) || l[api.MaxDoc] != endAt(api.MaxDoc) {
		t.Error(len(l), place, e)
	}
	wantNone(t, brackets+"[", 0, api.ErrLong)
	for _, c := range broken {
		wantNone(t, c.text+strings.Repeat(" ", api.MaxDoc+1-len(c.text)), 0, api.ErrLong)
		wantNone(t, "[ "+c.text+brackets, 0, api.ErrLong)
		wantNone(t, full+c.text, 0, api.ErrLong)
	}
	wantNone(t, strings.Repeat("9", api.MaxDoc), 0, api.ErrRange)
	wantNone(t, strings.Repeat("9", api.MaxDoc+1), 0, api.ErrLong)
	wantNone(t, strings.Repeat("x", 1<<20), 0, api.ErrLong)
}

// S2: Next does not examine the length of its text.
func TestNextLong(t *testing.T) {
	for _, many := range []int{api.MaxDoc, api.MaxDoc + 1, 1 << 20} {
		space := strings.Repeat("\n ", many)
		for _, m := range samples() {
			wantNext(t, space+m.text+space, 0, m.at(len(space)))
			wantNext(t, space+m.text+space, len(space), m.at(len(space)))
		}
		wantNext(t, space, 0, endAt(len(space)))
		wantNoNext(t, strings.Repeat("9", many), 0, api.ErrRange)
		wantNoNext(t, strings.Repeat("1", many)+"-", 0, api.ErrForm)
		wantNoNext(t, strings.Repeat("true", many), 0, api.ErrForm)
		wantNoNext(t, `"`+strings.Repeat("a", many), 0, api.ErrLong)
		wantNext(t, strings.Repeat("x", many)+"{", many, Mark{Open, many, many + 1, 0, ""})
	}
}

// R3: the tokens that All returned are written over, and All is called again.
func TestNewMemory(t *testing.T) {
	s := `{"a": [1, true, false, "b", -2]} `
	want, _, _ := All(s)
	kept := slices.Clone(want)
	other, _, _ := All(s)
	for i := range want {
		want[i] = Mark{99, -1, -1, -1, "x"}
	}
	_ = append(want, Mark{})
	if !slices.Equal(other, kept) {
		t.Error(other)
	}
	wantAll(t, s, kept...)
	if s != `{"a": [1, true, false, "b", -2]} ` {
		t.Error(s)
	}
	for at := range len(s) + 1 {
		a, e := Next(s, at)
		b, f := Next(s, at)
		if a != b || e != f {
			t.Error(at, a, b, e, f)
		}
	}
}

var (
	wordForm   = regexp.MustCompile(`^[a-z]+`)
	singleForm = regexp.MustCompile(`^[][{},:]`)
	numberForm = regexp.MustCompile(`^[-0-9+.]`)
)

// tokenOf tells, by forms, what the token at an index with no white space is.
func tokenOf(s string, at int) (Mark, api.Errno) {
	rest := s[at:]
	switch {
	case rest == "":
		return endAt(at), api.OK
	case singleForm.MatchString(rest):
		kinds := map[byte]uint8{'{': Open, '}': Shut, '[': First, ']': Last, ',': Comma, ':': Colon}
		return Mark{Kind: kinds[rest[0]], At: at, End: at + 1}, api.OK
	case wordForm.MatchString(rest):
		w := wordForm.FindString(rest)
		kind := map[string]uint8{"true": True, "false": False}[w]
		if kind == 0 {
			return Mark{}, api.ErrForm
		}
		return Mark{Kind: kind, At: at, End: at + len(w)}, api.OK
	case numberForm.MatchString(rest):
		n, end, e := num.Read(s, at)
		if e != api.OK {
			return Mark{}, e
		}
		return Mark{Kind: Num, At: at, End: end, N: n}, api.OK
	case rest[0] == '"':
		text, end, e := quote.Read(s, at)
		if e != api.OK {
			return Mark{}, e
		}
		return Mark{Kind: Text, At: at, End: end, T: text}, api.OK
	}
	return Mark{}, api.ErrForm
}

// P7.1, P7.2, P7.3: pieces at random, right and wrong, against the forms.
func TestRandom(t *testing.T) {
	pieces := []string{"{", "}", "[", "]", ",", ":", "true", "false", "t", "e", "E", "0", "1", "-", "12", ".", "+", `"`, `"a"`, `"\n"`, `\`, " ", "\n", "\t\r", "\v", "é", "\xff", "\x00", "T"}
	from := rand.New(rand.NewSource(72))
	for range 100000 {
		s := ""
		for range from.Intn(8) {
			s += pieces[from.Intn(len(pieces))]
		}
		var want []Mark
		for at := 0; ; {
			at = len(s) - len(strings.TrimLeft(s[at:], " \t\n\r"))
			m, e := tokenOf(s, at)
			if e != api.OK {
				wantNone(t, s, at, e)
				wantNoNext(t, s, at, e)
				break
			}
			wantNext(t, s, at, m)
			want = append(want, m)
			if m.Kind == End {
				wantAll(t, s, want...)
				break
			}
			at = m.End
		}
		if t.Failed() {
			return
		}
	}
}
