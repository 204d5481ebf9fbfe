package utf

import (
	"math"
	"math/rand"
	"strings"
	"testing"
	"unicode/utf8"

	"legate/api"
)

// edges are the first and the last runes of each number of bytes, those beside the surrogates, and FFFD.
var edges = []int{0, 0x7f, 0x80, 0x7ff, 0x800, 0xd7ff, 0xe000, 0xfffd, 0xffff, 0x10000, 0x10ffff}

// others are ordinary runes of one, two, three and four bytes.
var others = []int{'a', '"', '\\', 0x0a, 0xe9, 0x3bb, 0x20ac, 0x4e2d, 0xfeff, 0xfffe, 0x1f600, 0x103fff}

// noRunes are numbers that are no rune, among them some that are one if they are cut to 32, 16 or 8 bits.
var noRunes = []int{
	-1, -2, -0x41, -0x7fffffff, math.MinInt32, math.MinInt, 0xd800, 0xd801, 0xdbff, 0xdc00, 0xdffe, 0xdfff,
	0x110000, 0x110001, 0x200000, math.MaxInt32, 1 << 31, 1<<32 - 1, 1 << 32, 1<<32 + 0x41, -1<<32 + 0x41, 1<<40 + 0x20ac, math.MaxInt,
}

// noUTF are strings of bytes that begin no rune, each with what Next answers at its beginning.
var noUTF = []struct {
	s    string
	want api.Errno
}{
	{"\xe2\x82", api.ErrShort},
	{"\xe2", api.ErrShort},
	{"\xe2\x28", api.ErrUTF},
	{"\xe2\x28\xa1", api.ErrUTF},
	{"\xe2\x82\x28", api.ErrUTF},
	{"\xe2\x82\xe2\x82\xac", api.ErrUTF},
	{"\xe2\xe2\x82\xac", api.ErrUTF},
	{"\xc3", api.ErrShort},
	{"\xc3a", api.ErrUTF},
	{"\xc3\xc3\xa9", api.ErrUTF},
	{"\xf0\x9f\x98", api.ErrShort},
	{"\xf0\x9f", api.ErrShort},
	{"\xf0", api.ErrShort},
	{"\xf0\x9f\x98a", api.ErrUTF},
	{"\xf0\x9fa", api.ErrUTF},
	{"\xf0a", api.ErrUTF},
	// A stray byte, and bytes that are in no rune.
	{"\x80", api.ErrUTF},
	{"\xbf", api.ErrUTF},
	{"\x80\x80", api.ErrUTF},
	{"\x82\xac", api.ErrUTF},
	{"\xc0", api.ErrUTF},
	{"\xc1", api.ErrUTF},
	{"\xf5", api.ErrUTF},
	{"\xf8\x88\x80\x80\x80", api.ErrUTF},
	{"\xfe", api.ErrUTF},
	{"\xff", api.ErrUTF},
	// Longer than needed: 0, 7F, 2F, 7FF, FFFF, and what could become one of them.
	{"\xc0\x80", api.ErrUTF},
	{"\xc1\xbf", api.ErrUTF},
	{"\xe0\x80\xaf", api.ErrUTF},
	{"\xe0\x9f\xbf", api.ErrUTF},
	{"\xe0\x80", api.ErrUTF},
	{"\xe0\x9f", api.ErrUTF},
	{"\xe0\xa0", api.ErrShort},
	{"\xe0", api.ErrShort},
	{"\xf0\x80\x80\x80", api.ErrUTF},
	{"\xf0\x8f\xbf\xbf", api.ErrUTF},
	{"\xf0\x80", api.ErrUTF},
	{"\xf0\x8f", api.ErrUTF},
	{"\xf0\x90", api.ErrShort},
	{"\xf0\x90\x80", api.ErrShort},
	// Surrogates: D800, DFFF, a pair, and what could become one of them.
	{"\xed\xa0\x80", api.ErrUTF},
	{"\xed\xbf\xbf", api.ErrUTF},
	{"\xed\xa0\xbd\xed\xb8\x80", api.ErrUTF},
	{"\xed\xa0", api.ErrUTF},
	{"\xed\xbf", api.ErrUTF},
	{"\xed\x9f", api.ErrShort},
	{"\xed", api.ErrShort},
	// More than 10FFFF.
	{"\xf4\x90\x80\x80", api.ErrUTF},
	{"\xf4\xbf\xbf\xbf", api.ErrUTF},
	{"\xf4\x90", api.ErrUTF},
	{"\xf4\x8f", api.ErrShort},
	{"\xf4\x8f\xbf", api.ErrShort},
	{"\xf4", api.ErrShort},
	{"\xf7\xbf\xbf\xbf", api.ErrUTF},
}

// isRune is the chapter's definition.
func isRune(r int) bool {
	return r >= 0 && r <= 0x10ffff && (r < 0xd800 || r > 0xdfff)
}

// runes calls a function with each rune, ascending.
func runes(do func(r int)) {
	for r := range 0x110000 {
		if isRune(r) {
			do(r)
		}
	}
}

// written returns the library's bytes of a rune.
func written(r int) string {
	return string(utf8.AppendRune(nil, rune(r)))
}

// put returns the bytes of a number that must be a rune.
func put(t *testing.T, r int) string {
	t.Helper()
	s, e := Put(r)
	if e != api.OK {
		t.Fatalf("%x: %v", r, e)
	}
	return s
}

// wantNext holds that Next gives this at an index.
func wantNext(t *testing.T, s string, at, r, size int, want api.Errno) {
	t.Helper()
	if gotR, gotSize, e := Next(s, at); gotR != r || gotSize != size || e != want {
		t.Errorf("%q at %d: %x %d %v, not %x %d %v", s, at, gotR, gotSize, e, r, size, want)
	}
}

// valids are UTF-8 strings: each edge and each other rune alone, each pair of edges, and many runes.
func valids() []string {
	out := []string{"", "abc", "€", "a€é😀", strings.Repeat("é", 3000), "\x00\x00", "�", "a�b��"}
	for _, r := range append(append([]int{}, edges...), others...) {
		out = append(out, written(r), "a"+written(r)+"z")
	}
	for _, a := range edges {
		for _, b := range edges {
			out = append(out, written(a)+written(b))
		}
	}
	from := rand.New(rand.NewSource(1))
	for n := range 100 {
		s := ""
		for range n {
			s += written(edges[from.Intn(len(edges))]) + written(others[from.Intn(len(others))])
		}
		out = append(out, s)
	}
	return out
}

// wrongs are strings that are not UTF-8: the bytes above in front of, between and behind runes.
func wrongs() []string {
	var out []string
	for _, c := range noUTF {
		out = append(out, c.s, "a"+c.s, "é€"+c.s, "�"+c.s, c.s+"a", "a"+c.s+"�", c.s+"€", c.s+c.s)
	}
	return out
}

// beginnings are all proper beginnings of runes, of at least one byte.
func beginnings() map[string]struct{} {
	out := map[string]struct{}{}
	runes(func(r int) {
		s := written(r)
		for n := 1; n < len(s); n++ {
			out[s[:n]] = struct{}{}
		}
	})
	return out
}

// expect is the chapter's row of Next at the beginning of s, byte by byte.
func expect(begin map[string]struct{}, s string) (r, size int, e api.Errno) {
	for n := 0; ; n++ {
		if n == len(s) {
			return 0, 0, api.ErrShort
		}
		if so := s[:n+1]; utf8.ValidString(so) {
			r, _ := utf8.DecodeRuneInString(so)
			return int(r), n + 1, api.OK
		} else if _, is := begin[so]; !is {
			return 0, 0, api.ErrUTF
		}
	}
}

// P4.1: the chapter's examples.
func TestExamples(t *testing.T) {
	wantNext(t, "\xe2\x82\xac", 0, 0x20ac, 3, api.OK)
	wantNext(t, "\xe2\x82", 0, 0, 0, api.ErrShort)
	wantNext(t, "\xe2\x28", 0, 0, 0, api.ErrUTF)
	wantNext(t, "\xc0\x80", 0, 0, 0, api.ErrUTF)
	wantNext(t, "\xed\xa0\x80", 0, 0, 0, api.ErrUTF)
	wantNext(t, "\xf4\x90", 0, 0, 0, api.ErrUTF)
	wantNext(t, "\xe2\x82\xac", 3, 0, 0, api.ErrShort)
	wantNext(t, "\xe2\x82\xac", 4, 0, 0, api.ErrArg)
	if s, e := Put(0xd800); s != "" || e != api.ErrArg {
		t.Errorf("%q %v", s, e)
	}
}

// P4.1: the bytes of every rune, and no bytes of a number that is none.
func TestPut(t *testing.T) {
	runes(func(r int) {
		if s, e := Put(r); s != written(r) || e != api.OK {
			t.Errorf("%x: %q %v", r, s, e)
		}
	})
	for r := 0xd800; r <= 0xdfff; r++ {
		if s, e := Put(r); s != "" || e != api.ErrArg {
			t.Errorf("%x: %q %v", r, s, e)
		}
	}
	for _, r := range noRunes {
		if s, e := Put(r); s != "" || e != api.ErrArg {
			t.Errorf("%x: %q %v", r, s, e)
		}
	}
}

// P4.1: the runes of a string, one by one, from the beginning to the end, where nothing is left.
func TestNext(t *testing.T) {
	for _, s := range valids() {
		at := 0
		for _, want := range []rune(s) {
			r, size, e := Next(s, at)
			if r != int(want) || size != utf8.RuneLen(want) || e != api.OK {
				t.Fatalf("%q at %d: %x %d %v", s, at, r, size, e)
			}
			at += size
		}
		wantNext(t, s, at, 0, 0, api.ErrShort)
	}
}

// P4.1, errors: an index that is out of the string goes before what is wrong in it; nothing is left at its end.
func TestNextIndex(t *testing.T) {
	for _, s := range []string{"", "a", "€", "\xff", "\xe2\x82", "a\x80"} {
		for _, at := range []int{-1, -2, math.MinInt, len(s) + 1, len(s) + 2, math.MaxInt, math.MaxInt - 3, 1 << 32} {
			wantNext(t, s, at, 0, 0, api.ErrArg)
		}
		wantNext(t, s, len(s), 0, 0, api.ErrShort)
	}
}

// P4.1, errors: within a rune, and behind other runes; what follows is not looked at.
func TestNextErrors(t *testing.T) {
	for _, c := range noUTF {
		for _, before := range []string{"", "a", "€", "\xff", "\xf0\x9f"} {
			wantNext(t, before+c.s, len(before), 0, 0, c.want)
		}
	}
	for _, s := range []string{"é", "€", "😀"} {
		for at := 1; at < len(s); at++ {
			wantNext(t, s, at, 0, 0, api.ErrUTF)
		}
	}
	wantNext(t, "\xff€\xff", 1, 0x20ac, 3, api.OK)
	wantNext(t, "\xff\x00\xe2", 1, 0, 1, api.OK)
	wantNext(t, "\xff\xef\xbf\xbd\xff", 1, 0xfffd, 3, api.OK)
}

// P4.1, P4.7, errors: all strings of up to three bytes, of which the third one is at an edge, and all of four bytes at edges, against the chapter's row.
func TestNextBytes(t *testing.T) {
	begin := beginnings()
	hold := func(b ...byte) {
		s := string(b)
		r, size, e := expect(begin, s)
		wantNext(t, s, 0, r, size, e)
		if want := utf8.ValidString(s); Valid(s) != want {
			t.Errorf("%q: not %v", s, want)
		}
	}
	ends := []byte{0x00, 0x22, 0x7f, 0x80, 0x8f, 0x90, 0x9f, 0xa0, 0xbd, 0xbf, 0xc0, 0xc1, 0xc2, 0xdf, 0xe0, 0xe1, 0xec, 0xed, 0xee, 0xef, 0xf0, 0xf1, 0xf3, 0xf4, 0xf5, 0xff}
	hold()
	for a := range 256 {
		hold(byte(a))
		for b := range 256 {
			hold(byte(a), byte(b))
			for _, c := range ends {
				hold(byte(a), byte(b), c)
			}
		}
		for _, b := range ends {
			for _, c := range ends {
				for _, d := range ends {
					hold(byte(a), b, c, d)
				}
			}
		}
	}
}

// P4.2: UTF-8, with the number of its runes.
func TestValid(t *testing.T) {
	for _, s := range valids() {
		if !Valid(s) {
			t.Errorf("%q isn't valid", s)
		}
		if n, ok := Len(s); n != len([]rune(s)) || !ok {
			t.Errorf("%q: %d %v", s, n, ok)
		}
	}
	for _, c := range []struct {
		s    string
		want int
	}{
		{"", 0}, {"a", 1}, {"\x00", 1}, {"é", 1}, {"€", 1}, {"😀", 1}, {"�", 1}, {"\xef\xbf\xbd", 1}, {"aé€😀�", 5}, {strings.Repeat("€", 4096), 4096},
	} {
		if n, ok := Len(c.s); n != c.want || !ok {
			t.Errorf("%q: %d %v, not %d", c.s, n, ok, c.want)
		}
	}
	runes(func(r int) {
		s := written(r)
		if n, ok := Len(s); n != 1 || !ok || !Valid(s) {
			t.Errorf("%x: %d %v", r, n, ok)
		}
	})
}

// P4.2: what is not UTF-8 has no number of runes.
func TestInvalid(t *testing.T) {
	for _, s := range wrongs() {
		if Valid(s) {
			t.Errorf("%q is valid", s)
		}
		if n, ok := Len(s); n != 0 || ok {
			t.Errorf("%q: %d %v", s, n, ok)
		}
	}
	from := rand.New(rand.NewSource(2))
	const whole = "aé€😀�é€😀"
	for range 20000 {
		b := []byte(whole[:from.Intn(len(whole)+1)])
		for range from.Intn(3) {
			if len(b) > 0 {
				b[from.Intn(len(b))] = byte(from.Intn(256))
			}
		}
		s, want := string(b), 0
		ok := utf8.Valid(b)
		if ok {
			want = utf8.RuneCount(b)
		}
		if n, is := Len(s); n != want || is != ok || Valid(s) != ok {
			t.Errorf("%q: %d %v, not %d %v", s, n, is, want, ok)
		}
	}
}

// P4.3: Next inverts Put, with the size, whatever stands around; and Put inverts Next.
func TestInverse(t *testing.T) {
	runes(func(r int) {
		s := put(t, r)
		wantNext(t, s, 0, r, len(s), api.OK)
		wantNext(t, "\xff"+s+"\x80", 1, r, len(s), api.OK)
	})
	for _, s := range append(valids(), wrongs()...) {
		for at := range len(s) {
			r, size, e := Next(s, at)
			if e == api.OK && put(t, r) != s[at:at+size] {
				t.Errorf("%q at %d: %x %d", s, at, r, size)
			}
		}
	}
}

// P4.4: a concatenation has as many runes as both; a string is UTF-8 from the beginning of each of its runes, and from no other index.
func TestConcatenation(t *testing.T) {
	some := valids()
	for i, a := range some {
		b := some[(i*7919+13)%len(some)]
		m, _ := Len(a)
		n, _ := Len(b)
		if both, ok := Len(a + b); both != m+n || !ok || !Valid(a+b) {
			t.Errorf("%q, %q: %d %v", a, b, both, ok)
		}
	}
	for _, s := range some {
		left, _ := Len(s)
		for at := range s {
			if n, ok := Len(s[at:]); n != left || !ok || !Valid(s[at:]) {
				t.Errorf("%q from %d on: %d %v", s, at, n, ok)
			}
			left--
		}
		for at := range len(s) {
			if Valid(s[at:]) != utf8.RuneStart(s[at]) {
				t.Errorf("%q from %d on: %v", s, at, Valid(s[at:]))
			}
		}
	}
}

// P4.5: every rune that is cut, alone and behind others.
func TestTruncation(t *testing.T) {
	runes(func(r int) {
		s := put(t, r)
		for n := 1; n < len(s); n++ {
			wantNext(t, s[:n], 0, 0, 0, api.ErrShort)
			wantNext(t, "€a"+s[:n], 4, 0, 0, api.ErrShort)
			if _, ok := Len("a�" + s[:n]); ok || Valid("a�"+s[:n]) || Valid(s[:n]) {
				t.Errorf("%q is valid", s[:n])
			}
		}
	})
}

// P4.6: every rune and the one before it, and runes of all lengths.
func TestOrder(t *testing.T) {
	last := ""
	runes(func(r int) {
		s := put(t, r)
		if r > 0 && s <= last {
			t.Errorf("%x: %q isn't after %q", r, s, last)
		}
		last = s
	})
	some := append(append([]int{}, edges...), others...)
	for _, a := range some {
		for _, b := range some {
			if (a < b) != (put(t, a) < put(t, b)) || (a == b) != (put(t, a) == put(t, b)) {
				t.Errorf("%x, %x", a, b)
			}
		}
	}
}

// P4.7: each stray byte where a rune begins, and each byte that is in no rune anywhere, whatever follows.
func TestStrayBytes(t *testing.T) {
	for _, after := range []string{"", "a", "\x80", "\x80\x80\x80", "\xbf\xbf\xbf", "€", "\xff"} {
		for c := range 256 {
			one := string([]byte{byte(c)})
			none := c == 0xc0 || c == 0xc1 || c >= 0xf5
			if none || c >= 0x80 && c <= 0xbf {
				wantNext(t, one+after, 0, 0, 0, api.ErrUTF)
				wantNext(t, "é"+one+after, 2, 0, 0, api.ErrUTF)
			}
			if !none {
				continue
			}
			for _, before := range []string{"\xc3", "\xe2", "\xe2\x82", "\xf0", "\xf0\x9f", "\xf0\x9f\x98"} {
				wantNext(t, before+one+after, 0, 0, 0, api.ErrUTF)
			}
		}
	}
}
