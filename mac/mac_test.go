package mac

import (
	"crypto/hmac"
	"crypto/sha256"
	"math/rand"
	"strings"
	"testing"

	"legate/hex"
	"legate/sha"
)

// rfc4231 is the key of 131 bytes of two of RFC 4231's test cases.
var rfc4231 = strings.Repeat("\xaa", 131)

// published are HMACs that the chapter, RFC 4231's test cases and others tell.
func published() []struct{ key, s, want string } {
	return []struct{ key, s, want string }{
		{strings.Repeat("\x0b", 20), "Hi There", "b0344c61d8db38535ca8afceaf0bf12b881dc200c9833da726e9376c2e32cff7"},
		{"Jefe", "what do ya want for nothing?", "5bdcc146bf60754e6a042426089575c75a003f089d2739839dec58b964ec3843"},
		{strings.Repeat("\xaa", 20), strings.Repeat("\xdd", 50), "773ea91e36800e46854db8ebd09181a72959098b3ef8c122d9635514ced565fe"},
		{numbered(1, 25), strings.Repeat("\xcd", 50), "82558a389a443c0ea4cc819899f2083a85f0faa3e578f8077a2e3ff46729665b"},
		{rfc4231, "Test Using Larger Than Block-Size Key - Hash Key First", "60e431591ee0b67f0d8a26aacbf5b77f8e0bc6213728c5140546040f0ee37f54"},
		{rfc4231, "This is a test using a larger than block-size key and a larger than block-size data. The key needs to be hashed before being used by the HMAC algorithm.", "9b09ffa71b942fcb27635fbcd5b0e944bfdc63644f0713938a7f51535c3a35e2"},
		{"", "", "b613679a0814d9ec772f95d778c35fc5ff1697c493715653c6c712144292c5ad"},
		{"key", "The quick brown fox jumps over the lazy dog", "f7bc83f430538424b13298e6aa6fb143ef4d59a14946175997479dbc2d1a3cd8"},
	}
}

// numbered returns the bytes from first to last.
func numbered(first, last int) string {
	var out []byte
	for c := first; c <= last; c++ {
		out = append(out, byte(c))
	}
	return string(out)
}

// library is the library's HMAC.
func library(key, s string) string {
	h := hmac.New(sha256.New, []byte(key))
	h.Write([]byte(s))
	return string(h.Sum(nil))
}

// sample returns n bytes of all kinds.
func sample(n int) string {
	b := make([]byte, n)
	rand.New(rand.NewSource(int64(n))).Read(b)
	return string(b)
}

// zeros returns n zero bytes.
func zeros(n int) string {
	return strings.Repeat("\x00", n)
}

// keys are keys of all lengths up to three blocks and of some greater ones: of all kinds of bytes, of zero bytes, and with a zero byte at an end.
func keys() []string {
	var out []string
	for n := range 3*64 + 2 {
		out = append(out, sample(n), zeros(n), strings.Repeat("\xff", n), "\x00"+sample(n), sample(n)+"\x00")
	}
	return append(out, sample(4096), sample(65537))
}

// texts are strings of bytes to be signed, of lengths around the ends of blocks.
func texts() []string {
	out := []string{"abc", "\x00", "\xff", "é", strings.Repeat("\x36", 64), strings.Repeat("\x5c", 64)}
	for _, n := range []int{0, 1, 31, 32, 33, 55, 56, 63, 64, 65, 119, 120, 127, 128, 129, 1000} {
		out = append(out, sample(n))
	}
	return out
}

// longer are keys that are longer than a block.
func longer() []string {
	out := []string{rfc4231, zeros(65), zeros(128), sample(64) + "\x00", sample(65537)}
	for n := 65; n <= 200; n++ {
		out = append(out, sample(n))
	}
	return out
}

// wantSame holds that two keys have the same block, and the same HMAC of each of the texts.
func wantSame(t *testing.T, what, one, other string) {
	t.Helper()
	if Block(one) != Block(other) {
		t.Errorf("%s: the blocks of %x and %x differ", what, one, other)
	}
	for _, s := range texts() {
		if Of(one, s) != Of(other, s) {
			t.Errorf("%s: the HMACs of %d bytes with %x and %x differ", what, len(s), one, other)
		}
	}
}

// wantOther holds that two keys have neither the same block nor the same HMAC of any of the texts.
func wantOther(t *testing.T, what, one, other string) {
	t.Helper()
	if Block(one) == Block(other) {
		t.Errorf("%s: %x and %x have the same block", what, one, other)
	}
	for _, s := range texts() {
		if Of(one, s) == Of(other, s) {
			t.Errorf("%s: %x and %x have the same HMAC of %d bytes", what, one, other, len(s))
		}
	}
}

// wantEqual holds Same against what two strings are, in both orders.
func wantEqual(t *testing.T, a, b string, want bool) {
	t.Helper()
	if Same(a, b) != want || Same(b, a) != want {
		t.Errorf("%q, %q: not %v", a, b, want)
	}
}

// P3.1: the published HMACs.
func TestPublished(t *testing.T) {
	for _, c := range published() {
		if u := hex.Encode(Of(c.key, c.s)); u != c.want {
			t.Errorf("%x, %q: %s, not %s", c.key, c.s, u, c.want)
		}
	}
}

// P3.1: the first 16 bytes are all that RFC 4231 tells of one HMAC.
func TestTruncated(t *testing.T) {
	u := hex.Encode(Of(strings.Repeat("\x0c", 20), "Test With Truncation"))
	if !strings.HasPrefix(u, "a3b6167473100ee06e0c796c2955552b") {
		t.Errorf("%s", u)
	}
}

// P3.1: every key with every text against the library, 32 bytes each, and the same when asked again.
func TestOf(t *testing.T) {
	for _, key := range keys() {
		for _, s := range texts() {
			u := Of(key, s)
			if u != library(key, s) || len(u) != 32 {
				t.Errorf("%x, %d bytes: %x", key, len(s), u)
			}
			if Of(key, s) != u {
				t.Errorf("%x, %d bytes: another HMAC when asked again", key, len(s))
			}
		}
	}
}

// P3.1: texts of every length around the ends of blocks, and long ones.
func TestLengths(t *testing.T) {
	for _, key := range []string{"", "k", sample(63), sample(64), sample(65)} {
		for n := range 5*64 + 1 {
			if s := sample(n); Of(key, s) != library(key, s) {
				t.Errorf("%x, %d bytes: %x", key, n, Of(key, s))
			}
		}
		for _, s := range []string{sample(65536), strings.Repeat("legate: ", 1<<17)} {
			if Of(key, s) != library(key, s) {
				t.Errorf("%x, %d bytes: %x", key, len(s), Of(key, s))
			}
		}
	}
}

// P3.1: a block is the key, or the SHA-256 of a longer one, and zero bytes.
func TestBlock(t *testing.T) {
	for _, key := range keys() {
		start := key
		if len(key) > 64 {
			sum := sha256.Sum256([]byte(key))
			start = string(sum[:])
		}
		want := start + zeros(64-len(start))
		for range 2 {
			if b := Block(key); b != want {
				t.Errorf("%x: %x, not %x", key, b, want)
			}
		}
	}
}

// P3.1: the edges of a block, written out.
func TestBlockEdges(t *testing.T) {
	sixty := strings.Repeat("k", 60)
	for _, c := range []struct{ key, want string }{
		{"", zeros(64)},
		{"\x00", zeros(64)},
		{"a", "a" + zeros(63)},
		{"\x00a", "\x00a" + zeros(62)},
		{sixty + "abc", sixty + "abc\x00"},
		{sixty + "abcd", sixty + "abcd"},
		{sixty + "abcde", sha.Sum(sixty+"abcde") + zeros(32)},
		{zeros(64), zeros(64)},
		{zeros(65), sha.Sum(zeros(65)) + zeros(32)},
	} {
		if b := Block(c.key); b != c.want {
			t.Errorf("%x: %x, not %x", c.key, b, c.want)
		}
	}
}

// P3.3: HMAC is composed of SHA-256, of the block and of the two constants.
func TestConstruction(t *testing.T) {
	for _, key := range keys() {
		inside, outside := "", ""
		for _, c := range []byte(Block(key)) {
			inside += string([]byte{c ^ 0x36})
			outside += string([]byte{c ^ 0x5c})
		}
		for _, s := range texts() {
			if want := sha.Sum(outside + sha.Sum(inside+s)); Of(key, s) != want {
				t.Errorf("%x, %d bytes: %x, not %x", key, len(s), Of(key, s), want)
			}
		}
	}
}

// P3.4: a key and the same key with zero bytes appended, up to 64 bytes; one zero byte more is another key.
func TestZeros(t *testing.T) {
	for _, key := range []string{"", "k", "\x00", "Jefe", sample(20), sample(32), sample(62), sample(63), sample(64), zeros(5)} {
		for n := range 64 - len(key) + 1 {
			wantSame(t, "zeros", key, key+zeros(n))
		}
		wantOther(t, "65 bytes", key, key+zeros(65-len(key)))
	}
}

// P3.4: a longer key and its SHA-256; a key of 64 bytes or fewer isn't replaced by its SHA-256.
func TestLonger(t *testing.T) {
	for _, key := range longer() {
		wantSame(t, "a longer key", key, sha.Sum(key))
		wantSame(t, "a longer key, with zeros", key, sha.Sum(key)+zeros(32))
		wantOther(t, "its SHA-256 and too many zeros", key, sha.Sum(key)+zeros(33))
	}
	for _, n := range []int{0, 1, 31, 32, 33, 62, 63, 64} {
		wantOther(t, "no longer key", sample(n), sha.Sum(sample(n)))
	}
}

// P3.4: a block is its own block.
func TestOwnBlock(t *testing.T) {
	for _, key := range keys() {
		b := Block(key)
		if len(b) != 64 || Block(b) != b {
			t.Errorf("%x: %x, then %x", key, b, Block(b))
		}
	}
	for _, key := range append(longer(), "", "k", "Jefe", sample(63), sample(64)) {
		wantSame(t, "a block", key, Block(key))
	}
}

// P3.4: each byte of a block is part of the key.
func TestOtherBlocks(t *testing.T) {
	for _, key := range []string{sample(64), zeros(64), sample(20), sample(131)} {
		for at := range 64 {
			other := []byte(Block(key))
			other[at] ^= 1
			wantOther(t, "a byte of the block", key, string(other))
		}
	}
	wantOther(t, "a zero byte in front", "k", "\x00k")
}

// P3.2, P3.5: strings that are equal, the same one and one in other memory.
func TestSame(t *testing.T) {
	for _, s := range append(texts(), keys()...) {
		wantEqual(t, s, s, true)
		wantEqual(t, s, string([]byte(s)), true)
	}
	wantEqual(t, Of("Jefe", "a"), Of("Jefe", "a"), true)
	wantEqual(t, Of("Jefe", "a"), Of("Jefe", "b"), false)
}

// P3.2, P3.5: every two bytes, and one byte at each place.
func TestDiffering(t *testing.T) {
	for a := range 256 {
		for b := range 256 {
			wantEqual(t, string([]byte{byte(a)}), string([]byte{byte(b)}), a == b)
		}
	}
	for _, n := range []int{1, 2, 31, 32, 33, 64, 65, 300} {
		s := sample(n)
		for at := range n {
			for bit := range 8 {
				other := []byte(s)
				other[at] ^= 1 << bit
				wantEqual(t, s, string(other), false)
			}
		}
	}
}

// P3.2, P3.5: a byte is missing, or is too much, at each place.
func TestMissing(t *testing.T) {
	for _, n := range []int{1, 2, 31, 32, 33, 64, 65, 300} {
		for _, s := range []string{sample(n), zeros(n), strings.Repeat("a", n)} {
			wantEqual(t, s, s[:n-1], false)
			wantEqual(t, s, s[1:], false)
			wantEqual(t, s, "", false)
			wantEqual(t, s, s+s, false)
			for at := range n {
				wantEqual(t, s, s[:at]+s[at+1:], false)
				wantEqual(t, s, s[:at]+"\x00"+s[at:], false)
			}
		}
	}
}

// P3.2, P3.5: strings that agree in the sum of their bytes, in their XOR, in their letters, or in their runes.
func TestAlike(t *testing.T) {
	for _, c := range [][2]string{
		{"ab", "ba"},
		{"aa", "bb"},
		{"\x01\x03", "\x02\x02"},
		{"abc", "ABC"},
		{"abc", "abc "},
		{"abc", "abc\n"},
		{"", "\x00"},
		{"\x00", "\x00\x00"},
		{"\xff", "\xfe"},
		{"\xff", "\xef\xbf\xbd"},
		{"\u00e9", "e\u0301"},
		{"abc\x00x", "abc\x00y"},
	} {
		wantEqual(t, c[0], c[1], false)
	}
}
