package quote

import (
	"encoding/json"
	"fmt"
	"math"
	"math/rand"
	"strings"
	"testing"
	"unicode/utf8"

	"legate/api"
)

// A piece is what may stand in a string of a JSON text, and what is read there: a rune, or an error, whatever follows.
type piece struct {
	written, read string
	e             api.Errno
}

// goods are pieces that stand for runes of one to four bytes: themselves, by each byte after a \ , and by \u, in digits of either case.
var goods = []piece{
	{"a", "a", api.OK},
	{" ", " ", api.OK},
	{"!", "!", api.OK},
	{"#", "#", api.OK},
	{"[", "[", api.OK},
	{"]", "]", api.OK},
	{"/", "/", api.OK},
	{"u", "u", api.OK},
	{"u00e9", "u00e9", api.OK},
	{"{},:", "{},:", api.OK},
	{"\x7f", "\x7f", api.OK},
	{"é", "é", api.OK},
	{"\xc2\x80", "\xc2\x80", api.OK},
	{"€", "€", api.OK},
	{"\xef\xbf\xbd", "\xef\xbf\xbd", api.OK},
	{"\xed\x9f\xbf", "\xed\x9f\xbf", api.OK},
	{"\xee\x80\x80", "\xee\x80\x80", api.OK},
	{"😀", "😀", api.OK},
	{"\xf4\x8f\xbf\xbf", "\xf4\x8f\xbf\xbf", api.OK},
	{`\"`, "\"", api.OK},
	{`\\`, "\\", api.OK},
	{`\/`, "/", api.OK},
	{`\b`, "\x08", api.OK},
	{`\f`, "\x0c", api.OK},
	{`\n`, "\x0a", api.OK},
	{`\r`, "\x0d", api.OK},
	{`\t`, "\x09", api.OK},
	{`\u0000`, "\x00", api.OK},
	{`\u001f`, "\x1f", api.OK},
	{`\u0020`, " ", api.OK},
	{`\u0022`, "\"", api.OK},
	{`\u005c`, "\\", api.OK},
	{`\u005C`, "\\", api.OK},
	{`\u007F`, "\x7f", api.OK},
	{`\u0080`, "\xc2\x80", api.OK},
	{`\u00e9`, "é", api.OK},
	{`\u00E9`, "é", api.OK},
	{`\u07ff`, "\xdf\xbf", api.OK},
	{`\u0800`, "\xe0\xa0\x80", api.OK},
	{`\u20Ac`, "€", api.OK},
	{`\ud7ff`, "\xed\x9f\xbf", api.OK},
	{`\uD7FF`, "\xed\x9f\xbf", api.OK},
	{`\ue000`, "\xee\x80\x80", api.OK},
	{`\uFFFD`, "\xef\xbf\xbd", api.OK},
	{`\uffff`, "\xef\xbf\xbf", api.OK},
	{`\uabcd`, "\xea\xaf\x8d", api.OK},
	{`\uABCD`, "\xea\xaf\x8d", api.OK},
	{`\uefEF`, "\xee\xbf\xaf", api.OK},
	{`\ud800\udc00`, "\xf0\x90\x80\x80", api.OK},
	{`\uD83d\uDE00`, "😀", api.OK},
	{`\udbff\udfff`, "\xf4\x8f\xbf\xbf", api.OK},
	{`\uDBFF\uDC00`, "\xf4\x8f\xb0\x80", api.OK},
}

// bads are pieces that are wrong at their last byte, whatever follows: what precedes it may still become a rune.
var bads = []piece{
	{"\x00", "", api.ErrForm},
	{"\x09", "", api.ErrForm},
	{"\x0a", "", api.ErrForm},
	{"\x1f", "", api.ErrForm},
	{`\x`, "", api.ErrForm},
	{`\U`, "", api.ErrForm},
	{`\N`, "", api.ErrForm},
	{`\'`, "", api.ErrForm},
	{`\0`, "", api.ErrForm},
	{`\ `, "", api.ErrForm},
	{"\\\n", "", api.ErrForm},
	{"\\\xc3", "", api.ErrForm},
	{`\ug`, "", api.ErrForm},
	{`\u0G`, "", api.ErrForm},
	{`\u00 `, "", api.ErrForm},
	{`\u12g`, "", api.ErrForm},
	{`\u004x`, "", api.ErrForm},
	{`\u123"`, "", api.ErrForm},
	{`\u"`, "", api.ErrForm},
	{`\u\`, "", api.ErrForm},
	{`\u+`, "", api.ErrForm},
	{`\u{`, "", api.ErrForm},
	{"\\u12\x10", "", api.ErrForm},
	{`\u12` + "\xc3", "", api.ErrForm},
	{`\udcx`, "", api.ErrForm},
	{`\udc0"`, "", api.ErrForm},
	{`\udc00`, "", api.ErrUTF},
	{`\ude00`, "", api.ErrUTF},
	{`\uDFFF`, "", api.ErrUTF},
	{`\ud800"`, "", api.ErrUTF},
	{`\ud83da`, "", api.ErrUTF},
	{`\uDBFF `, "", api.ErrUTF},
	{`\ud83du`, "", api.ErrUTF},
	{"\\ud83d\x0a", "", api.ErrUTF},
	{"\\ud83d\xff", "", api.ErrUTF},
	{`\ud83d\"`, "", api.ErrUTF},
	{`\ud83d\\`, "", api.ErrUTF},
	{`\ud83d\n`, "", api.ErrUTF},
	{`\ud83d\U`, "", api.ErrUTF},
	{`\ud83d\x`, "", api.ErrUTF},
	{"\\ud83d\\\x00", "", api.ErrUTF},
	{`\ud83d\ug`, "", api.ErrForm},
	{`\ud83d\ude0g`, "", api.ErrForm},
	{`\ud83d\ude0"`, "", api.ErrForm},
	{`\ud83d\u004x`, "", api.ErrForm},
	{`\ud83d\u0041`, "", api.ErrUTF},
	{`\ud83d\ud83d`, "", api.ErrUTF},
	{`\ud83d\udbff`, "", api.ErrUTF},
	{`\ud83d\uE000`, "", api.ErrUTF},
	{`\ud800\ud7ff`, "", api.ErrUTF},
	{"\x80", "", api.ErrUTF},
	{"\xbf", "", api.ErrUTF},
	{"\xc0", "", api.ErrUTF},
	{"\xf5", "", api.ErrUTF},
	{"\xff", "", api.ErrUTF},
	{"\xc3\"", "", api.ErrUTF},
	{"\xc3\\", "", api.ErrUTF},
	{"\xc3a", "", api.ErrUTF},
	{"\xc3\x0a", "", api.ErrUTF},
	{"\xe2\x82\x1f", "", api.ErrUTF},
	{"\xe2\x82\"", "", api.ErrUTF},
	{"\xe2\x28", "", api.ErrUTF},
	{"\xed\xa0", "", api.ErrUTF},
	{"\xf0\x9f\x98a", "", api.ErrUTF},
	{"\xf4\x90", "", api.ErrUTF},
}

// texts are UTF-8 strings of at most MaxText bytes: of runes of one to four bytes, with and without " and \ , and with bytes below 20.
func texts() []string {
	out := []string{
		"", "a", "abc", "\"", "\\", "\\\"", "\"\\", "\\\\", "\"\"", "a\"b\\", "\\u0041", "\\n", "/", "é€😀", "\x7f", " ",
		"\x00", "\x1f", "a\nb", "\x08\x0c\x0a\x0d\x09", "�", "\u2028\u2029", "\ufeff", "<&>",
		strings.Repeat("a", api.MaxText), strings.Repeat("\"", api.MaxText), strings.Repeat("é", api.MaxText/2), strings.Repeat("😀", api.MaxText/4),
	}
	for _, p := range goods {
		out = append(out, p.read, "\\"+p.read, p.read+"\"", "x"+p.read+p.read)
	}
	from := rand.New(rand.NewSource(1))
	for n := range 300 {
		s := ""
		for range n % 40 {
			s += goods[from.Intn(len(goods))].read
		}
		out = append(out, s)
	}
	return out
}

// plain reports whether the canonical form of s is a JSON text.
func plain(s string) bool {
	return strings.IndexFunc(s, func(r rune) bool { return r < 0x20 }) < 0
}

// quoted returns the canonical form of a string that must have one.
func quoted(t *testing.T, s string) string {
	t.Helper()
	q, e := Quote(s)
	if e != api.OK {
		t.Fatalf("%q: %v", s, e)
	}
	return q
}

// wantRead holds that Read gives this at an index.
func wantRead(t *testing.T, s string, at int, text string, next int, want api.Errno) {
	t.Helper()
	if got, n, e := Read(s, at); got != text || n != next || e != want {
		t.Errorf("%.60q (%d) at %d: %.60q (%d) %d %v, not %.60q (%d) %d %v", s, len(s), at, got, len(got), n, e, text, len(text), next, want)
	}
}

// wantAround holds that Read gives this text, or this error, of a string wherever it stands and whatever follows.
func wantAround(t *testing.T, s, text string, want api.Errno) {
	t.Helper()
	for _, before := range []string{"", "\"", "\\", "[\"a\", ", "\xff"} {
		for _, behind := range []string{"", "\"", "a", "\\", "\x00", "\xff", "\xe2\x82", " : 1"} {
			next := 0
			if want == api.OK {
				next = len(before) + len(s)
			}
			wantRead(t, before+s+behind, len(before), text, next, want)
		}
	}
}

// P5.1: the chapter's examples.
func TestExamples(t *testing.T) {
	if q := quoted(t, "a\"b\\"); q != `"a\"b\\"` {
		t.Errorf("%q", q)
	}
	if q, e := Quote("\xff"); q != "" || e != api.ErrUTF {
		t.Errorf("%q %v", q, e)
	}
	wantRead(t, `"a\u00e9\n"`, 0, "\x61\xc3\xa9\x0a", 11, api.OK)
	wantRead(t, `"\ud83d\ude00"`, 0, "\xf0\x9f\x98\x80", 14, api.OK)
	wantRead(t, `"\ud83d"`, 0, "", 0, api.ErrUTF)
	wantRead(t, `"\ude00"`, 0, "", 0, api.ErrUTF)
	wantRead(t, `"\ud83d`, 0, "", 0, api.ErrShort)
	wantRead(t, `"\x"`, 0, "", 0, api.ErrForm)
	wantRead(t, `"\u12g4"`, 0, "", 0, api.ErrForm)
	wantRead(t, "a", 0, "", 0, api.ErrForm)
	wantRead(t, "", 0, "", 0, api.ErrShort)
}

// P5.1, P5.2: the canonical form, each byte below 80 alone, and each rune at an edge.
func TestQuote(t *testing.T) {
	for _, s := range texts() {
		want := `"` + strings.NewReplacer(`"`, `\"`, `\`, `\\`).Replace(s) + `"`
		if q := quoted(t, s); q != want {
			t.Errorf("%q: %q, not %q", s, q, want)
		}
	}
	for c := range 0x80 {
		s := string([]byte{byte(c)})
		want := `"` + s + `"`
		if c == '"' || c == '\\' {
			want = `"\` + s + `"`
		}
		if q := quoted(t, s); q != want {
			t.Errorf("%q: %q, not %q", s, q, want)
		}
	}
}

// P5.1, errors of Quote: what is not UTF-8, what is too long, and what is both.
func TestQuoteErrors(t *testing.T) {
	for _, c := range []struct {
		s    string
		want api.Errno
	}{
		{"\xff", api.ErrUTF},
		{"a\x80", api.ErrUTF},
		{"\xe2\x82", api.ErrUTF},
		{"\"\xc0\x80\"", api.ErrUTF},
		{"\xed\xa0\xbd\xed\xb8\x80", api.ErrUTF},
		{"\xf4\x90\x80\x80", api.ErrUTF},
		{strings.Repeat("a", api.MaxText-1) + "\xff", api.ErrUTF},
		{strings.Repeat("a", api.MaxText-1) + "\xc3", api.ErrUTF},
		{strings.Repeat("a", api.MaxText) + "\xff", api.ErrLong},
		{strings.Repeat("\xff", api.MaxText+1), api.ErrLong},
		{strings.Repeat("\xff", api.MaxText), api.ErrUTF},
		{strings.Repeat("a", api.MaxText+1), api.ErrLong},
		{strings.Repeat("a", api.MaxText-1) + "é", api.ErrLong},
		{strings.Repeat("a", api.MaxText-1) + "😀", api.ErrLong},
		{strings.Repeat("😀", api.MaxText/4) + "a", api.ErrLong},
		{strings.Repeat("a", 1<<20), api.ErrLong},
	} {
		if q, e := Quote(c.s); q != "" || e != c.want {
			t.Errorf("%.40q (%d): %.40q %v, not %v", c.s, len(c.s), q, e, c.want)
		}
	}
	for _, last := range []string{"a", "\"", "é", "€", "😀"} {
		s := strings.Repeat("a", api.MaxText-len(last)) + last
		if q, e := Quote(s); e != api.OK || !strings.HasSuffix(q, last+"\"") {
			t.Errorf("%d bytes with %q: %v", len(s), last, e)
		}
	}
}

// P5.1, errors of Read: an index out of the string goes before what is wrong in it, and nothing is left at its end.
func TestReadIndex(t *testing.T) {
	for _, s := range []string{"", "a", `"`, `"a"`, "\xff", `"\x"`, strings.Repeat("a", 5000)} {
		for _, at := range []int{-1, -2, math.MinInt, len(s) + 1, len(s) + 2, math.MaxInt, math.MaxInt - 1, 1<<32 + 1} {
			wantRead(t, s, at, "", 0, api.ErrArg)
		}
		wantRead(t, s, len(s), "", 0, api.ErrShort)
	}
	wantRead(t, `"a""b"`, 3, "b", 6, api.OK)
	wantRead(t, `"a""b"`, 2, "", 4, api.OK)
	wantRead(t, `"a"b"`, 2, "b", 5, api.OK)
	wantRead(t, `\"a"`, 1, "a", 4, api.OK)
}

// P5.1, errors of Read: each byte at the beginning.
func TestReadBeginning(t *testing.T) {
	for c := range 256 {
		one := string([]byte{byte(c)})
		if c == '"' {
			wantRead(t, one, 0, "", 0, api.ErrShort)
			wantRead(t, one+`"`, 0, "", 2, api.OK)
			continue
		}
		for _, s := range []string{one, one + `"`, one + `"a"`, "\"a\"" + one + `"`} {
			wantRead(t, s, strings.LastIndex(s, one), "", 0, api.ErrForm)
		}
	}
}

// P5.1, errors of Read: each byte that stands for itself, or does not.
func TestReadBytes(t *testing.T) {
	for c := range 256 {
		one := string([]byte{byte(c)})
		switch s := `"a` + one + `z"`; {
		case c < 0x20:
			wantAround(t, s, "", api.ErrForm)
		case c == '"':
			wantRead(t, s, 0, "a", 3, api.OK)
		case c == '\\' || c == 'z': // \z
			continue
		case c < 0x80:
			wantAround(t, s, "a"+one+"z", api.OK)
		default: // z continues no rune
			wantAround(t, s, "", api.ErrUTF)
		}
	}
}

// P5.1, P5.4, errors of Read: each byte after a \ .
func TestReadEscapes(t *testing.T) {
	want := map[byte]string{'"': "\"", '\\': "\\", '/': "/", 'b': "\x08", 'f': "\x0c", 'n': "\x0a", 'r': "\x0d", 't': "\x09"}
	for c := range 256 {
		s := `"a\` + string([]byte{byte(c)}) + `0041z"`
		if c == 'u' {
			wantAround(t, s, "aAz", api.OK)
		} else if r, is := want[byte(c)]; is {
			wantAround(t, s, "a"+r+"0041z", api.OK)
		} else {
			wantAround(t, s, "", api.ErrForm)
		}
	}
}

// P5.1, errors of Read: each byte at each place of the digits, of a rune and of both halves of a pair.
func TestReadDigits(t *testing.T) {
	for _, whole := range []string{`\u1abc`, `\ud83d\udeaf`} {
		for at := range len(whole) {
			if strings.IndexByte(`\u`, whole[at]) >= 0 {
				continue
			}
			for c := range 256 {
				b := []byte(`"` + whole + `"`)
				b[1+at] = byte(c)
				_, _, e := Read(string(b), 0)
				isDigit := strings.IndexByte("0123456789abcdefABCDEF", byte(c)) >= 0
				if isDigit == (e == api.ErrForm) {
					t.Errorf("%q: %v", b, e)
				}
				if !isDigit {
					wantRead(t, string(b), 0, "", 0, api.ErrForm)
				}
			}
		}
	}
}

// P5.1, errors of Read: each byte at each place between the halves of a pair.
func TestReadBetweenHalves(t *testing.T) {
	for c := range 256 {
		one := string([]byte{byte(c)})
		if c != '\\' {
			wantRead(t, `"\ud83d`+one+`ude00"`, 0, "", 0, api.ErrUTF)
			wantRead(t, `"\ud83d`+one, 0, "", 0, api.ErrUTF)
		}
		if c != 'u' {
			wantRead(t, `"\ud83d\`+one+`de00"`, 0, "", 0, api.ErrUTF)
			wantRead(t, `"\ud83d\`+one, 0, "", 0, api.ErrUTF)
		}
	}
}

// P5.1, P5.4, errors of Read: every number written with \u, alone and behind a first half.
func TestReadNumbers(t *testing.T) {
	for n := range 0x10000 {
		if t.Failed() {
			return
		}
		for _, digits := range []string{fmt.Sprintf("%04x", n), fmt.Sprintf("%04X", n)} {
			alone, pair := `"\u`+digits+`"`, `"\uD83d\u`+digits+`"`
			switch {
			case n < 0xd800 || n > 0xdfff:
				wantRead(t, alone, 0, string(rune(n)), len(alone), api.OK)
				wantRead(t, pair, 0, "", 0, api.ErrUTF)
			case n < 0xdc00:
				wantRead(t, alone, 0, "", 0, api.ErrUTF)
				wantRead(t, alone[:7], 0, "", 0, api.ErrShort)
				wantRead(t, pair, 0, "", 0, api.ErrUTF)
			default:
				wantRead(t, alone, 0, "", 0, api.ErrUTF)
				wantRead(t, alone[:7], 0, "", 0, api.ErrUTF)
				wantRead(t, pair, 0, string(rune(0x10000+0x3d<<10+n-0xdc00)), len(pair), api.OK)
			}
		}
	}
}

// P5.1, P5.4: every rune above FFFF, by a pair.
func TestReadPairs(t *testing.T) {
	for r := 0x10000; r <= 0x10ffff && !t.Failed(); r++ {
		s := fmt.Sprintf(`"\u%04x\u%04X"`, 0xd800+(r-0x10000)>>10, 0xdc00+(r-0x10000)&0x3ff)
		wantRead(t, s, 0, string(rune(r)), len(s), api.OK)
	}
}

// P5.1, P5.4: each piece alone, and many of them together, up to the first one that is wrong; whatever follows that one is not looked at.
func TestReadPieces(t *testing.T) {
	for _, p := range append(append([]piece{}, goods...), bads...) {
		wantAround(t, `"`+p.written+`"`, p.read, p.e)
		if p.e != api.OK {
			wantRead(t, `"`+p.written, 0, "", 0, p.e)
			wantRead(t, `"`+p.written[:len(p.written)-1], 0, "", 0, api.ErrShort)
			p.read = ""
		} else {
			p.read = "é" + p.read + "\\"
		}
		wantAround(t, `"é`+p.written+`\\"`, p.read, p.e)
	}
	from := rand.New(rand.NewSource(2))
	for n := range 20000 {
		s, text := `"`, ""
		for range from.Intn(12) {
			p := goods[from.Intn(len(goods))]
			s += p.written
			text += p.read
		}
		want := api.OK
		if n%3 == 0 {
			p := bads[from.Intn(len(bads))]
			s += p.written
			text, want = "", p.e
		}
		next := 0
		if want == api.OK {
			next = len(s) + 2
		}
		wantRead(t, "x"+s+`"`+bads[n%len(bads)].written, 1, text, next, want)
	}
}

// P5.1, P5.5, errors of Read: exactly MaxText bytes, and more, by runes of one to four bytes, whatever stands behind that rune.
func TestReadLong(t *testing.T) {
	for _, p := range goods {
		if n := utf8.RuneCountInString(p.read); n != 1 {
			continue
		}
		for short := range len(p.read) + 1 {
			before := strings.Repeat("a", api.MaxText-short)
			s := `"` + before + p.written
			if short == len(p.read) {
				wantAround(t, s+`"`, before+p.read, api.OK)
				wantRead(t, s, 0, "", 0, api.ErrShort)
				wantRead(t, s+"a", 0, "", 0, api.ErrLong)
				continue
			}
			wantAround(t, s+`"`, "", api.ErrLong)
			wantRead(t, s, 0, "", 0, api.ErrLong)
			for n := range len(p.written) {
				wantRead(t, s[:1+len(before)+n], 0, "", 0, api.ErrShort)
			}
		}
	}
	// Behind MaxText bytes, what is wrong in the next rune goes before the length, also if its bytes have no more room.
	for _, before := range []string{strings.Repeat("a", api.MaxText), strings.Repeat("é", api.MaxText/2), strings.Repeat(`\n`, api.MaxText), strings.Repeat(`\ud83d\uDE00`, api.MaxText/4)} {
		for _, p := range bads {
			wantRead(t, `"`+before+p.written, 0, "", 0, p.e)
			wantRead(t, `"`+before+"a"+p.written, 0, "", 0, api.ErrLong)
		}
		text, next, e := Read(`"`+before+`"`, 0)
		if len(text) != api.MaxText || next != len(before)+2 || e != api.OK {
			t.Errorf("%.20q: %d %d %v", before, len(text), next, e)
		}
	}
	wantRead(t, `"`+strings.Repeat("a", 1<<20), 0, "", 0, api.ErrLong)
	wantRead(t, `"`+strings.Repeat(`\u00e9`, api.MaxText/2+1)+`"`, 0, "", 0, api.ErrLong)
}

// P5.2: Read inverts Quote, wherever it stands and whatever follows; with a byte below 20 it is no JSON text.
func TestInverse(t *testing.T) {
	for _, s := range texts() {
		if q := quoted(t, s); plain(s) {
			wantAround(t, q, s, api.OK)
		} else {
			wantAround(t, q, "", api.ErrForm)
		}
	}
	for r := range 0x110000 {
		if t.Failed() {
			return
		}
		if s := string(rune(r)); r >= 0x20 && (r < 0xd800 || r > 0xdfff) {
			q := quoted(t, s)
			wantRead(t, q, 0, s, len(q), api.OK)
		}
	}
}

// P5.3: the canonical form of a string is no prefix of that of another one.
func TestDistinct(t *testing.T) {
	some := texts()
	for _, a := range some {
		p := quoted(t, a)
		for _, b := range some {
			if a != b && strings.HasPrefix(quoted(t, b), p) {
				t.Errorf("%.40q, %.40q", a, b)
			}
		}
	}
	// All strings of up to six bytes of these, of which each is also a prefix of others.
	seen := map[string]struct{}{}
	var all func(s string)
	all = func(s string) {
		seen[quoted(t, s)] = struct{}{}
		if len(s) < 6 {
			for _, c := range []string{"a", "\"", "\\"} {
				all(s + c)
			}
		}
	}
	all("")
	if len(seen) != 1+3+9+27+81+243+729 {
		t.Errorf("%d are distinct", len(seen))
	}
	for q := range seen {
		for n := range len(q) {
			if _, is := seen[q[:n]]; is {
				t.Errorf("%q, %q", q[:n], q)
			}
		}
	}
}

// P5.4: every rune written with \u, among others that are written otherwise.
func TestEscapesAmongOthers(t *testing.T) {
	for _, p := range goods {
		for _, q := range goods {
			wantRead(t, `"`+p.written+q.written+p.written+`"`, 0, p.read+q.read+p.read, 2*len(p.written)+len(q.written)+2, api.OK)
		}
	}
}

// P5.1, P5.5: of bytes at random, what is read is what the library reads; it is UTF-8, not too long, and not longer than what stands there.
func TestResults(t *testing.T) {
	alphabet := []string{`"`, `\`, `\u`, "u", "n", "b", "d", "D", "8", "0", "f", "c", "9", "é", "\xe2", "\x82", "\xac", "\x1f", "/", `\ud83d`, `\ude00`, `\u00`}
	from := rand.New(rand.NewSource(3))
	held := 0
	for range 300000 {
		s := `"`
		for range from.Intn(10) {
			s += alphabet[from.Intn(len(alphabet))]
		}
		s += `"`
		text, next, e := Read(s, 0)
		if e != api.OK {
			if text != "" || next != 0 {
				t.Fatalf("%q: %q %d %v", s, text, next, e)
			}
			continue
		}
		held++
		var want string
		if err := json.Unmarshal([]byte(s[:next]), &want); err != nil || text != want {
			t.Fatalf("%q: %q, not %q (%v)", s[:next], text, want, err)
		}
		if !utf8.ValidString(text) || len(text) > api.MaxText || len(text) > next-2 || s[next-1] != '"' {
			t.Fatalf("%q: %q %d", s, text, next)
		}
	}
	if held < 10000 {
		t.Errorf("%d strings were read", held)
	}
}

// P5.6: strings that are cut at each of their bytes, before the closing quotation mark.
func TestTruncation(t *testing.T) {
	whole := []string{`""`, `"a\u00e9\n"`, `"\ud83d\ude00"`, `"é€😀�"`, `"\\\""`}
	for _, p := range goods {
		whole = append(whole, `"a`+p.written+`"`, `"`+p.written+`\\`+p.written+`"`)
	}
	for _, s := range texts() {
		if len(s) < 200 && plain(s) {
			whole = append(whole, quoted(t, s))
		}
	}
	for _, s := range whole {
		for n := range len(s) {
			wantRead(t, s[:n], 0, "", 0, api.ErrShort)
			wantRead(t, "\xff\""+s[:n], 2, "", 0, api.ErrShort)
		}
	}
}
