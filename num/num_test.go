package num

import (
	"fmt"
	"math"
	"math/big"
	"math/rand"
	"strings"
	"testing"

	"legate/api"
)

// continuing are the bytes that belong to the text of a number.
const continuing = "0123456789-+.eE"

// fronts are what may stand ahead of a number: nothing of it is read.
var fronts = []string{"", "0", "7", "-", "e", "-1", "[", " ", "{\"a\":", "\xff", "\x00", "12345678901234567890 "}

// behinds are what may stand behind a number without continuing it.
var behinds = []string{"", ",", "]", "}", " ", "\n", "\"", "a", "x1", "/", ":", "_1", "\x00", "\xff", "٣", " 1", ",-2"}

// malformed are texts of numbers with bytes of none, or of some, that have the wrong form.
var malformed = []string{
	"", "-", "--", "--1", "---", "-0", "-00", "-01", "-0.5", "-0e1", "-10-", "-1-1", "-9223372036854775808-",
	"00", "01", "007", "00000000000000000000", "0123", "0-", "0-1", "0+", "0.", "0e", "0E", "0.0", "0e0", "0E0",
	"+", "+0", "+1", "+12", "+-1", "-+1", "++1", "1+", "1+1", "12+",
	".", ".5", "1.", "1.5", "12.0", "1..2", "-1.5", "-.5",
	"e", "E", "e1", "E1", "1e", "1E", "1e5", "1E5", "1e+5", "1e-5", "-1e5", "-e", "-E", "1.5e3", "1ee1",
	"1-", "1-1", "12-3", "1--", "9-",
	// Also too large, or too small.
	"9223372036854775808.0", "9223372036854775808e0", "9223372036854775808-", "+9223372036854775808",
	"09223372036854775808", "-09223372036854775809", "--9223372036854775809", "99999999999999999999e", "99999999999999999999.",
	"-" + strings.Repeat("0", 30), strings.Repeat("9", 3000) + "+", strings.Repeat("9", 3000) + "E9", "0" + strings.Repeat("9", 3000),
}

// numbers are int64s: the smallest and the greatest, those about 0, powers of ten and of two with the numbers beside them, and some of each length at random.
func numbers() []int64 {
	out := []int64{0, math.MaxInt64, math.MaxInt64 - 1, math.MinInt64, math.MinInt64 + 1, math.MaxInt32, math.MinInt32, math.MaxUint32, api.MaxVersion, 42, -42}
	for n := int64(1); n <= 300; n++ {
		out = append(out, n, -n)
	}
	for p := int64(10); ; p *= 10 {
		for _, n := range []int64{p - 1, p, p + 1, 7*(p/10) + 3, p / 2} {
			out = append(out, n, -n)
		}
		if p > math.MaxInt64/10 {
			break
		}
	}
	for i := range 63 {
		p := int64(1) << i
		out = append(out, p-1, p, p+1, 1-p, -p, -p-1)
	}
	from := rand.New(rand.NewSource(6))
	for i := range 2000 {
		n := int64(from.Uint64()) >> (i % 64)
		out = append(out, n)
	}
	return out
}

// wantRead holds that Read gives this at an index.
func wantRead(t *testing.T, s string, at int, n int64, next int, want api.Errno) {
	t.Helper()
	if got, to, e := Read(s, at); got != n || to != next || e != want {
		t.Errorf("%.80q (%d) at %d: %d %d %v, not %d %d %v", s, len(s), at, got, to, e, n, next, want)
	}
}

// wantText holds that Read gives of a text what the library does, or of one beyond int64 ErrRange.
func wantText(t *testing.T, front, text, behind string) {
	t.Helper()
	n, ok := new(big.Int).SetString(text, 10)
	if !ok {
		t.Fatalf("%q is no number", text)
	}
	if n.IsInt64() {
		wantRead(t, front+text+behind, len(front), n.Int64(), len(front)+len(text), api.OK)
	} else {
		wantRead(t, front+text+behind, len(front), 0, 0, api.ErrRange)
	}
}

// P6.1: the examples of the chapter.
func TestExamples(t *testing.T) {
	wantRead(t, "12", 0, 12, 2, api.OK)
	wantRead(t, "-9223372036854775808", 0, math.MinInt64, 20, api.OK)
	wantRead(t, "9223372036854775808", 0, 0, 0, api.ErrRange)
	for _, s := range []string{"00", "-0", "1.5", "1e5", "+1", "-", "a"} {
		wantRead(t, s, 0, 0, 0, api.ErrForm)
	}
	if s := Show(-7); s != "-7" {
		t.Errorf("%q", s)
	}
}

// P6.1: Show writes a number as the library does.
func TestShow(t *testing.T) {
	for _, n := range numbers() {
		if got, want := Show(n), big.NewInt(n).String(); got != want {
			t.Errorf("%d: %q, not %q", n, got, want)
		}
		if got, want := Show(n), fmt.Sprint(n); got != want {
			t.Errorf("%d: %q, not %q", n, got, want)
		}
	}
}

// P6.1, P6.2: what Show writes is read as the number, wherever it stands and whatever follows without continuing it; and what was read is what Show writes.
func TestInverse(t *testing.T) {
	for i, n := range numbers() {
		text := Show(n)
		for j, front := range fronts {
			behind := behinds[(i+j)%len(behinds)]
			wantRead(t, front+text+behind, len(front), n, len(front)+len(text), api.OK)
		}
	}
	for _, front := range fronts {
		for _, behind := range behinds {
			for _, text := range []string{"0", "1", "-1", "10", "9223372036854775807", "-9223372036854775808"} {
				s := front + text + behind
				n, next, e := Read(s, len(front))
				if e != api.OK || Show(n) != s[len(front):next] || next != len(front)+len(text) {
					t.Errorf("%q at %d: %d %d %v", s, len(front), n, next, e)
				}
			}
		}
	}
}

// P6.1: the number is read whose text begins at the index, not one that began ahead of it.
func TestWithin(t *testing.T) {
	s := "9876543210123456789"
	for at := range len(s) {
		if s[at] == '0' {
			wantRead(t, s, at, 0, 0, api.ErrForm)
			continue
		}
		wantText(t, s[:at], s[at:], "")
	}
	wantRead(t, "-12", 1, 12, 3, api.OK)
	wantRead(t, "--12", 1, -12, 4, api.OK)
	wantRead(t, "10", 1, 0, 2, api.OK)
	wantRead(t, "1.25", 2, 25, 4, api.OK)
	wantRead(t, "1e-5,", 2, -5, 4, api.OK)
	wantRead(t, "+1", 1, 1, 2, api.OK)
}

// P6.1, P6.2, P6.5: every byte behind a number either continues its text or ends it.
func TestByteBehind(t *testing.T) {
	for _, text := range []string{"0", "5", "-5", "12", "-12", "9223372036854775807", "-9223372036854775808"} {
		n, _, _ := Read(text, 0)
		for c := range 256 {
			s := text + string([]byte{byte(c)})
			switch at := strings.IndexByte(continuing, byte(c)); {
			case at < 0:
				wantRead(t, s, 0, n, len(text), api.OK)
				wantRead(t, s+"1e", 0, n, len(text), api.OK)
			case at < 10 && text != "0":
				wantText(t, "", s, "")
			default:
				wantRead(t, s, 0, 0, 0, api.ErrForm)
			}
		}
	}
}

// P6.1, P6.5: every byte at the beginning of a text.
func TestByteAhead(t *testing.T) {
	for c := range 256 {
		for _, rest := range []string{"", "0", "7", "10", "-1", " 1"} {
			s := string([]byte{byte(c)}) + rest
			digits := strings.TrimSuffix(rest, " 1")
			switch {
			case c >= '1' && c <= '9' && rest != "-1":
				wantText(t, "", s[:1]+digits, rest[len(digits):])
			case c == '0' && digits == "":
				wantRead(t, s, 0, 0, 1, api.OK)
			case c == '-' && (rest == "7" || rest == "10"):
				wantText(t, "", s, "")
			default:
				wantRead(t, s, 0, 0, 0, api.ErrForm)
			}
		}
	}
}

// P6.1, P6.5: all texts of up to four of the bytes that numbers' texts have, against the form that S2 says.
func TestAllShort(t *testing.T) {
	const bytes = "012359-+.eE"
	texts := []string{""}
	for range 4 {
		var longer []string
		for _, s := range texts {
			for i := range bytes {
				longer = append(longer, s+bytes[i:i+1])
			}
		}
		for _, s := range longer {
			for _, front := range []string{"", "1", "-"} {
				if isNumber(s) {
					wantText(t, front, s, ";")
				} else {
					wantRead(t, front+s+";", len(front), 0, 0, api.ErrForm)
				}
			}
		}
		texts = longer
	}
}

// isNumber reports whether a text has the form of a number, step by step: an optional - , a digit from 1 to 9, and digits; or 0.
func isNumber(s string) bool {
	const first, second, rest = 0, 1, 2
	if s == "0" {
		return true
	}
	state := first
	for _, c := range []byte(s) {
		switch {
		case state == first && c == '-':
			state = second
		case state != rest && c >= '1' && c <= '9':
			state = rest
		case state == rest && c >= '0' && c <= '9':
		default:
			return false
		}
	}
	return state == rest
}

// P6.3: the text of the greater of two numbers from 0 on is longer or, where it isn't, greater; below 0 the reverse holds behind the - .
func TestOrder(t *testing.T) {
	all := numbers()
	from := rand.New(rand.NewSource(63))
	for range 200000 {
		a, b := all[from.Intn(len(all))], all[from.Intn(len(all))]
		if a >= b || (a < 0) != (b < 0) {
			continue
		}
		less, more := Show(a), Show(b)
		if a < 0 {
			less, more = strings.TrimPrefix(more, "-"), strings.TrimPrefix(less, "-")
			if len(less) != len(Show(b))-1 || len(more) != len(Show(a))-1 {
				t.Fatalf("%d %d: no - ahead", a, b)
			}
		}
		if len(less) > len(more) || len(less) == len(more) && less >= more {
			t.Fatalf("%d %d: %q %q", a, b, less, more)
		}
	}
}

// P6.4: a digit appended gives ten times the number and the digit, below 0 less the digit; beyond int64: ErrRange; behind 0 ErrForm.
func TestAppended(t *testing.T) {
	for _, n := range append(numbers(), math.MaxInt64/10, math.MaxInt64/10-1, math.MaxInt64/10+1, math.MinInt64/10, math.MinInt64/10+1, math.MinInt64/10-1) {
		for d := int64(0); d < 10; d++ {
			text := Show(n) + Show(d)
			sign := big.NewInt(d)
			if n < 0 {
				sign.Neg(sign)
			}
			want := new(big.Int).Mul(big.NewInt(n), big.NewInt(10))
			want.Add(want, sign)
			switch {
			case n == 0:
				wantRead(t, text, 0, 0, 0, api.ErrForm)
			case want.IsInt64():
				wantRead(t, text, 0, want.Int64(), len(text), api.OK)
			default:
				wantRead(t, text, 0, 0, 0, api.ErrRange)
			}
		}
	}
}

// P6.4, ErrRange: the numbers about 2^63, -2^63, 2^64, 2^65, -2^64 and powers of ten beyond, of which some would be an int64 if they were cut to 64 bits.
func TestBeyond(t *testing.T) {
	one := big.NewInt(1)
	for bits := uint(62); bits < 300; bits++ {
		p := new(big.Int).Lsh(one, bits)
		for d := int64(-12); d <= 12; d++ {
			n := new(big.Int).Add(p, big.NewInt(d))
			wantText(t, "", n.String(), "")
			wantText(t, "[", n.Neg(n).String(), "]")
		}
	}
	for p := big.NewInt(10); len(p.String()) < 60; p.Mul(p, big.NewInt(10)) {
		for d := int64(-1); d <= 1; d++ {
			n := new(big.Int).Add(p, big.NewInt(d))
			wantText(t, "", n.String(), "")
			wantText(t, "1", n.Neg(n).String(), " ")
		}
	}
}

// P6.1, P6.4, P6.5: texts much longer than any number, with an int64's digits at their front, or at their end.
func TestLong(t *testing.T) {
	for _, many := range []int{20, 100, 4097, 65537, 1 << 20} {
		for _, text := range []string{
			"12" + strings.Repeat("0", many), "-12" + strings.Repeat("0", many), "9223372036854775807" + strings.Repeat("0", many),
			"1" + strings.Repeat("0", many) + "9223372036854775807", "-1" + strings.Repeat("0", many) + "5",
			strings.Repeat("9", many), "-" + strings.Repeat("9", many),
		} {
			wantRead(t, text, 0, 0, 0, api.ErrRange)
			wantRead(t, "-1,"+text+",1", 3, 0, 0, api.ErrRange)
			for _, c := range "-+.eE" {
				wantRead(t, text+string(c), 0, 0, 0, api.ErrForm)
				wantRead(t, text[:len(text)/2]+string(c)+text[len(text)/2:], 0, 0, 0, api.ErrForm)
			}
		}
		for _, text := range []string{strings.Repeat("0", many), strings.Repeat("0", many) + "12", "-" + strings.Repeat("0", many) + "12", strings.Repeat("-", many), "1" + strings.Repeat("-", many)} {
			wantRead(t, text, 0, 0, 0, api.ErrForm)
		}
		wantRead(t, strings.Repeat(" ", many)+"-12"+strings.Repeat(" ", many), many, -12, many+3, api.OK)
		wantRead(t, strings.Repeat("9", many)+"12 ", many, 12, many+2, api.OK)
	}
}

// P6.5, ErrForm: malformed texts, wherever they stand and whatever follows, also those that are too large, too.
func TestMalformed(t *testing.T) {
	for _, text := range malformed {
		for _, front := range fronts {
			for _, behind := range behinds {
				wantRead(t, front+text+behind, len(front), 0, 0, api.ErrForm)
				if t.Failed() {
					return
				}
			}
		}
	}
	for _, s := range []string{"a", " 1", "\"1\"", "true", "[1]", "\n1", "\x001", "\xff", "٣", "１", "−1", "x", "_1", "NaN", "Infinity", "/", ":", ","} {
		wantRead(t, s, 0, 0, 0, api.ErrForm)
	}
}

// P6.5: one of - + . e E put anywhere into the text of a number, but a - at its front.
func TestPutAnywhere(t *testing.T) {
	for _, n := range numbers()[:900] {
		text := Show(n)
		for at := range len(text) + 1 {
			for _, c := range "-+.eE" {
				if c == '-' && at == 0 && n > 0 {
					continue
				}
				wantRead(t, text[:at]+string(c)+text[at:], 0, 0, 0, api.ErrForm)
			}
		}
		zero := "0" + text
		if n < 0 {
			zero = "-0" + text[1:]
		}
		wantRead(t, zero, 0, 0, 0, api.ErrForm)
	}
}

// Errors of Read: ErrArg for an index that is negative or exceeds the length, whatever stands there; at the length itself ErrForm, as nothing stands there.
func TestArg(t *testing.T) {
	for _, s := range []string{"", "1", "-", "12", "00", "+", "a", "99999999999999999999"} {
		for _, at := range []int{-1, -2, -len(s) - 1, math.MinInt, math.MinInt32, len(s) + 1, len(s) + 2, math.MaxInt32, math.MaxInt} {
			wantRead(t, s, at, 0, 0, api.ErrArg)
		}
		wantRead(t, s, len(s), 0, 0, api.ErrForm)
	}
}
