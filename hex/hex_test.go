package hex

import (
	enc "encoding/hex"
	"math"
	"math/rand"
	"strconv"
	"strings"
	"testing"

	"legate/api"
)

const lower = "0123456789abcdef"

// samples are strings of bytes: none, each byte, each pair of bytes, and longer ones.
func samples() []string {
	out := []string{"", "abc", "\x00\xff\x1a", strings.Repeat("\xff", 4097)}
	for a := range 256 {
		out = append(out, string([]byte{byte(a)}))
		for b := range 256 {
			out = append(out, string([]byte{byte(a), byte(b)}))
		}
	}
	r := rand.New(rand.NewSource(1))
	for n := range 200 {
		b := make([]byte, n)
		r.Read(b)
		out = append(out, string(b))
	}
	return out
}

// numbers are numbers around every power of two, the ends of 64 bits, and others.
func numbers() []uint64 {
	out := []uint64{0, 1, math.MaxUint64, math.MaxUint64 - 1, 0xc0ffee, 0x0123456789abcdef}
	for i := range 64 {
		p := uint64(1) << i
		out = append(out, p-1, p, p+1)
	}
	r := rand.New(rand.NewSource(2))
	for range 500 {
		out = append(out, r.Uint64()>>r.Intn(64))
	}
	return out
}

// leasts are numbers of digits, among them some out of the range 1 to 16.
func leasts() []int {
	out := []int{math.MinInt, -16, math.MaxInt, 1 << 40}
	for n := -2; n <= 20; n++ {
		out = append(out, n)
	}
	return out
}

// P1.1: the chapter's examples, and every sample against the library's encoder.
func TestEncode(t *testing.T) {
	if u := Encode("\x00\xff\x1a"); u != "00ff1a" {
		t.Errorf("the example: %q", u)
	}
	for _, s := range samples() {
		if u, want := Encode(s), enc.EncodeToString([]byte(s)); u != want {
			t.Errorf("%q: %q, not %q", s, u, want)
		}
	}
}

// P1.1, errors: every string of two bytes, whether they are digits or not.
func TestDecodePairs(t *testing.T) {
	for a := range 256 {
		for b := range 256 {
			s := string([]byte{byte(a), byte(b)})
			high, low := strings.IndexByte(lower, byte(a)), strings.IndexByte(lower, byte(b))
			want, wantErr := "", api.ErrForm
			if high >= 0 && low >= 0 {
				want, wantErr = string([]byte{byte(16*high + low)}), api.OK
			}
			if u, e := Decode(s); u != want || e != wantErr {
				t.Errorf("%q: %q %v, not %q %v", s, u, e, want, wantErr)
			}
		}
	}
}

// P1.1, errors: the order of errors, where both apply; and no result beside an error.
func TestDecodeErrors(t *testing.T) {
	for _, c := range []struct {
		s    string
		want api.Errno
	}{
		{"", api.OK},
		{"0", api.ErrShort},
		{"x", api.ErrForm},
		{"00FF", api.ErrForm},
		{"abc", api.ErrShort},
		{"abcd0", api.ErrShort},
		{"abg", api.ErrForm},
		{"gab", api.ErrForm},
		{"ab ", api.ErrForm},
		{"0x12", api.ErrForm},
		{"-1", api.ErrForm},
		{"ab\x00", api.ErrForm},
		{"00\n", api.ErrForm},
		{"é", api.ErrForm},
		{"00112233445566778899aabbccddeef", api.ErrShort},
		{"00112233445566778899aabbccddeeF", api.ErrForm},
	} {
		u, e := Decode(c.s)
		if e != c.want || u != "" {
			t.Errorf("%q: %q %v, not %v", c.s, u, e, c.want)
		}
	}
}

// P1.1: the empty string, each byte alone, and a byte that is no digit at each place.
func TestIs(t *testing.T) {
	if !Is("") || !Is(lower) {
		t.Error("digits are none")
	}
	for c := range 256 {
		one := string([]byte{byte(c)})
		want := strings.Contains(lower, one)
		for at := 0; at <= len(lower); at++ {
			if Is(lower[:at]+one+lower[at:]) != want {
				t.Errorf("%q at %d: not %v", one, at, want)
			}
		}
		if Is(one) != want {
			t.Errorf("%q: not %v", one, want)
		}
	}
}

// P1.1: each byte at an index, and indexes that there are not.
func TestDigit(t *testing.T) {
	for c := range 256 {
		want := strings.IndexByte(lower, byte(c))
		is := want >= 0
		if !is {
			want = 0
		}
		for at := range 3 {
			s := []byte("zzz")
			s[at] = byte(c)
			if n, ok := Digit(string(s), at); n != want || ok != is {
				t.Errorf("%q at %d: %d %v", s, at, n, ok)
			}
		}
	}
	for _, at := range []int{-1, 3, 4, math.MinInt, math.MaxInt} {
		if n, ok := Digit("abc", at); n != 0 || ok {
			t.Errorf("at %d: %d %v", at, n, ok)
		}
	}
	if n, ok := Digit("", 0); n != 0 || ok {
		t.Errorf("of nothing: %d %v", n, ok)
	}
}

// P1.2, errors: the chapter's examples, the ends of 64 bits, and each pair of faults.
func TestNumber(t *testing.T) {
	for _, c := range []struct {
		s    string
		want uint64
		e    api.Errno
	}{
		{"ff", 255, api.OK},
		{"0", 0, api.OK},
		{"f", 15, api.OK},
		{"00ff", 255, api.OK},
		{"0c0ffee", 0xc0ffee, api.OK},
		{"0000000000000000", 0, api.OK},
		{"8000000000000000", 1 << 63, api.OK},
		{"ffffffffffffffff", math.MaxUint64, api.OK},
		{"0123456789abcdef", 0x0123456789abcdef, api.OK},
		{"", 0, api.ErrShort},
		{"0000000000000000ff", 0, api.ErrLong},
		{"00000000000000000", 0, api.ErrLong},
		{"10000000000000000", 0, api.ErrLong},
		{"fg", 0, api.ErrForm},
		{"FF", 0, api.ErrForm},
		{"-1", 0, api.ErrForm},
		{" 1", 0, api.ErrForm},
		{"1_0", 0, api.ErrForm},
		{"000000000000000g", 0, api.ErrForm},
		{"0000000000000000g", 0, api.ErrForm},
		{"G0000000000000000", 0, api.ErrForm},
		{strings.Repeat("0", 5000), 0, api.ErrLong},
		{strings.Repeat("0", 5000) + "\xff", 0, api.ErrForm},
	} {
		if n, e := Number(c.s); n != c.want || e != c.e {
			t.Errorf("%q: %d %v, not %d %v", c.s, n, e, c.want, c.e)
		}
	}
}

// P1.2: the chapter's examples, and every number with every least against the library's digits.
func TestDigits(t *testing.T) {
	for _, c := range []struct {
		n     uint64
		least int
		want  string
	}{
		{255, 1, "ff"},
		{255, 4, "00ff"},
		{0, 0, "0"},
		{0, -5, "0"},
		{0, 16, "0000000000000000"},
		{0, 17, "0000000000000000"},
		{1, math.MaxInt, "0000000000000001"},
		{1, math.MinInt, "1"},
		{math.MaxUint64, 1, "ffffffffffffffff"},
		{math.MaxUint64, 99, "ffffffffffffffff"},
	} {
		if s := Digits(c.n, c.least); s != c.want {
			t.Errorf("%d, %d: %q, not %q", c.n, c.least, s, c.want)
		}
	}
	for _, n := range numbers() {
		short := strconv.FormatUint(n, 16)
		for _, least := range leasts() {
			pad := min(max(least, 1), 16) - len(short)
			want := strings.Repeat("0", max(pad, 0)) + short
			if s := Digits(n, least); s != want {
				t.Errorf("%d, %d: %q, not %q", n, least, s, want)
			}
		}
	}
}

// P1.3: Decode inverts Encode, and Encode inverts Decode.
func TestInverse(t *testing.T) {
	for _, s := range samples() {
		if u, e := Decode(Encode(s)); u != s || e != api.OK {
			t.Errorf("%q: %q %v", s, u, e)
		}
	}
	for _, s := range []string{"", "00", "ff", "0f", "f0", lower, lower + "00", "ffffffffffffffffff"} {
		u, e := Decode(s)
		if e != api.OK || Encode(u) != s {
			t.Errorf("%q: %q %v", s, u, e)
		}
	}
}

// P1.4: the digits of a concatenation are the concatenation of the digits.
func TestConcatenation(t *testing.T) {
	some := samples()
	for i, a := range some {
		b := some[(i*7919+13)%len(some)]
		if Encode(a+b) != Encode(a)+Encode(b) {
			t.Errorf("%q, %q: %q", a, b, Encode(a+b))
		}
		if u, e := Decode(Encode(a) + Encode(b)); u != a+b || e != api.OK {
			t.Errorf("%q, %q: %q %v", a, b, u, e)
		}
	}
}

// P1.5: two strings of equal length compare like their digits.
func TestOrder(t *testing.T) {
	for a := range 256 {
		for b := range 256 {
			for _, ends := range []string{"", "\x00", "\xff"} {
				x, y := ends+string([]byte{byte(a)})+ends, ends+string([]byte{byte(b)})+ends
				if strings.Compare(Encode(x), Encode(y)) != strings.Compare(x, y) {
					t.Errorf("%q, %q", x, y)
				}
			}
		}
	}
	byLength := map[int]string{}
	for _, s := range samples() {
		if last, is := byLength[len(s)]; is && strings.Compare(Encode(last), Encode(s)) != strings.Compare(last, s) {
			t.Errorf("%q, %q", last, s)
		}
		byLength[len(s)] = s
	}
}

// P1.6: Number inverts Digits; with least 1 no digit is too many; a greater least adds zeros alone.
func TestShortest(t *testing.T) {
	for _, n := range numbers() {
		short := Digits(n, 1)
		if short == "" || n != 0 && short[0] == '0' || n == 0 && short != "0" {
			t.Errorf("%d: %q", n, short)
		}
		for _, least := range leasts() {
			s := Digits(n, least)
			if m, e := Number(s); m != n || e != api.OK {
				t.Errorf("%d, %d: %d %v", n, least, m, e)
			}
			if len(s) < len(short) || strings.Trim(s[:len(s)-len(short)], "0") != "" || s[len(s)-len(short):] != short {
				t.Errorf("%d, %d: %q", n, least, s)
			}
			if len(s) < min(max(least, 1), 16) || len(s) > 16 {
				t.Errorf("%d, %d: %d digits", n, least, len(s))
			}
		}
	}
}
