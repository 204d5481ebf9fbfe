package sha

import (
	"crypto/sha256"
	enc "encoding/hex"
	"math/rand"
	"strings"
	"testing"

	"legate/api"
	"legate/hex"
)

const (
	ofNone = "e3b0c44298fc1c149afbf4c8996fb92427ae41e4649b934ca495991b7852b855"
	ofAbc  = "ba7816bf8f01cfea414140de5dae2223b00361a396177a9cb410ff61f20015ad"
)

// published are strings with the digests that the chapter, FIPS 180-4's examples and others tell.
func published() map[string]string {
	return map[string]string{
		"":    ofNone,
		"abc": ofAbc,
		"abcdbcdecdefdefgefghfghighijhijkijkljklmklmnlmnomnopnopq":                                                         "248d6a61d20638b8e5c026930c3e6039a33ce45964ff2167f6ecedd419db06c1",
		"abcdefghbcdefghicdefghijdefghijkefghijklfghijklmghijklmnhijklmnoijklmnopjklmnopqklmnopqrlmnopqrsmnopqrstnopqrstu": "cf5b16a778af8380036ce59e7b0492370b249b11e8f07a51afac45037afee9d1",
		strings.Repeat("a", 1000000):                  "cdc76e5c9914fb9281a1c7e284d73e67f1809a48a497200e046d39ccc7112cd0",
		"\xbd":                                        "68325720aabd7c82f30f554b313d0570c95accbb7dc4b5aae11204c08ffe732b",
		"\xc9\x8c\x8e\x55":                            "7abc22c0ae5af26ce93dbb94433a0e0b2e119d014f8e7f65bd56c61ccccd9504",
		strings.Repeat("\x00", 55):                    "02779466cdec163811d078815c633f21901413081449002f24aa3e80f0b88ef7",
		strings.Repeat("\x00", 56):                    "d4817aa5497628e7c77e6b606107042bbba3130888c5f47a375e6179be789fbb",
		strings.Repeat("\x00", 57):                    "65a16cb7861335d5ace3c60718b5052e44660726da4cd13bb745381b235a1785",
		strings.Repeat("\x00", 64):                    "f5a5fd42d16a20302798ef6ed309979b43003d2320d9f0e8ea9831a92759fb4b",
		"The quick brown fox jumps over the lazy dog": "d7a8fbb307d7809469ca9abcb0082e4f8d5651e46d3cdb762d02d0bf37c9e592",
	}
}

// whole is the library's SHA-256.
func whole(s string) string {
	d := sha256.Sum256([]byte(s))
	return string(d[:])
}

// sample returns n bytes of all kinds.
func sample(n int) string {
	b := make([]byte, n)
	rand.New(rand.NewSource(int64(n))).Read(b)
	return string(b)
}

// lengths are all up to five blocks, and those around the ends of later ones.
func lengths() []int {
	var out []int
	for n := range 5*64 + 1 {
		out = append(out, n)
	}
	for _, blocks := range []int{32, 33, 1024, 4096} {
		for _, off := range []int{-65, -10, -9, -8, -1, 0, 1, 55, 56} {
			out = append(out, 64*blocks+off)
		}
	}
	return out
}

// wantHash holds Sum and Len of a hash against the bytes that it covers.
func wantHash(t *testing.T, what string, h *Hash, covered string) {
	t.Helper()
	if h == nil {
		t.Fatalf("%s: nil", what)
	}
	if s := h.Sum(); s != whole(covered) {
		t.Errorf("%s: Sum of %d bytes: %x", what, len(covered), s)
	}
	if n := h.Len(); n != len(covered) {
		t.Errorf("%s: Len %d, not %d", what, n, len(covered))
	}
}

// write appends s, and holds that there is no error.
func write(t *testing.T, h *Hash, s string) {
	t.Helper()
	if e := h.Write(s); e != api.OK {
		t.Errorf("Write of %d bytes: %v", len(s), e)
	}
}

// P2.1: the published digests.
func TestPublished(t *testing.T) {
	for s, want := range published() {
		if u := Digest(s); u != want {
			t.Errorf("%d bytes: %s, not %s", len(s), u, want)
		}
		if u := enc.EncodeToString([]byte(Sum(s))); u != want {
			t.Errorf("%d bytes: %s, not %s", len(s), u, want)
		}
	}
}

// P2.1: every length around a block's end and around that of the padding.
func TestLengths(t *testing.T) {
	for _, n := range lengths() {
		for _, s := range []string{sample(n), strings.Repeat("\x00", n), strings.Repeat("\xff", n)} {
			if u := Sum(s); u != whole(s) {
				t.Errorf("Sum of %d bytes: %x", n, u)
			}
			if u, want := Digest(s), enc.EncodeToString([]byte(whole(s))); u != want {
				t.Errorf("Digest of %d bytes: %s, not %s", n, u, want)
			}
		}
	}
}

// P2.1: a number of bits that needs more than 32 bits.
func TestLong(t *testing.T) {
	if testing.Short() {
		t.Skip("half a gigabyte is hashed")
	}
	piece := strings.Repeat("legate: ", 1<<17)
	h, want := New(), sha256.New()
	for range 513 {
		h.Write(piece)
		want.Write([]byte(piece))
	}
	if h.Len() != 513<<20 || h.Sum() != string(want.Sum(nil)) {
		t.Errorf("%d bytes: %x", h.Len(), h.Sum())
	}
}

// P2.2: New and a zero Hash are hashes of no bytes, each time, and can be written to.
func TestNone(t *testing.T) {
	var zero Hash
	for what, h := range map[string]*Hash{"New": New(), "a zero Hash": {}, "a zero variable": &zero, "a copy": New().Copy(), "a zero Hash's copy": (&Hash{}).Copy()} {
		wantHash(t, what, h, "")
		wantHash(t, what+" again", h, "")
		write(t, h, "")
		wantHash(t, what+", nothing written", h, "")
		write(t, h, "abc")
		wantHash(t, what+", abc written", h, "abc")
		if u := hex.Encode(h.Sum()); u != ofAbc {
			t.Errorf("%s: %s", what, u)
		}
	}
	one, other := New(), New()
	write(t, one, "a")
	wantHash(t, "another hash", other, "")
}

// P2.2: after a Sum, at each place of a block, the hash remains usable.
func TestUsable(t *testing.T) {
	all := sample(3*64 + 7)
	for first := range len(all) + 1 {
		h := New()
		write(t, h, all[:first])
		wantHash(t, "a part", h, all[:first])
		wantHash(t, "a part again", h, all[:first])
		write(t, h, all[first:])
		wantHash(t, "the whole", h, all)
	}
}

// P2.2, errors: a nil Hash.
func TestNil(t *testing.T) {
	var h *Hash
	for _, s := range []string{"", "abc", sample(200)} {
		if e := h.Write(s); e != api.ErrNil {
			t.Errorf("Write: %v", e)
		}
	}
	if s := h.Sum(); s != "" {
		t.Errorf("Sum: %x", s)
	}
	if n := h.Len(); n != 0 {
		t.Errorf("Len: %d", n)
	}
	if h.Copy() != nil {
		t.Error("Copy: not nil")
	}
}

// P2.3: every division into two pieces, with an empty one between.
func TestTwoPieces(t *testing.T) {
	for _, n := range []int{0, 1, 55, 56, 63, 64, 65, 119, 120, 127, 128, 129, 200} {
		all := sample(n)
		for at := range n + 1 {
			h := New()
			write(t, h, all[:at])
			write(t, h, "")
			write(t, h, all[at:])
			wantHash(t, "two pieces", h, all)
		}
	}
}

// P2.3: pieces of equal length, examined at every moment.
func TestEqualPieces(t *testing.T) {
	all := sample(400)
	for _, by := range []int{1, 2, 3, 7, 31, 32, 33, 63, 64, 65, 127, 128, 129, 200} {
		var h Hash
		for at := 0; at < len(all); at += by {
			end := min(at+by, len(all))
			write(t, &h, all[at:end])
			wantHash(t, "a moment", &h, all[:end])
		}
	}
}

// P2.3: pieces of random lengths, many of them empty.
func TestRandomPieces(t *testing.T) {
	r := rand.New(rand.NewSource(3))
	for range 100 {
		h, covered := New(), ""
		for range 60 {
			piece := sample(r.Intn(3) * r.Intn(100))
			write(t, h, piece)
			covered += piece
			if r.Intn(4) == 0 {
				wantHash(t, "a moment", h, covered)
			}
		}
		wantHash(t, "the end", h, covered)
	}
}

// P2.4: a digest is 64 hexadecimal digits that denote the 32 bytes.
func TestDigests(t *testing.T) {
	for _, n := range lengths() {
		s := sample(n)
		d := Digest(s)
		if len(d) != 64 || !hex.Is(d) {
			t.Errorf("%d bytes: %q", n, d)
		}
		if u, e := hex.Decode(d); e != api.OK || u != Sum(s) || len(u) != 32 {
			t.Errorf("%d bytes: %x %v", n, u, e)
		}
	}
}

// P2.5: a hash and its copy, each written to behind the copying, in both orders.
func TestIndependence(t *testing.T) {
	for _, n := range []int{0, 1, 20, 55, 56, 63, 64, 65, 127, 128, 150} {
		for _, m := range []int{0, 1, 8, 43, 44, 63, 64, 65, 200} {
			start, one, other := sample(n), sample(m), strings.Repeat("o", m)
			h := New()
			write(t, h, start)
			c := h.Copy()
			wantHash(t, "a copy", c, start)
			write(t, c, other)
			wantHash(t, "the hash, its copy written to", h, start)
			write(t, h, one)
			wantHash(t, "the copy, its hash written to", c, start+other)
			wantHash(t, "the hash", h, start+one)

			d := c.Copy()
			write(t, c, one)
			wantHash(t, "the copy's copy", d, start+other)
			write(t, d, "d")
			wantHash(t, "the copy", c, start+other+one)
			wantHash(t, "the copy's copy, written to", d, start+other+"d")
		}
	}
}

// P2.5: what is in a hash's incomplete block isn't shared with its copy's, byte for byte in turns.
func TestTurns(t *testing.T) {
	h := New()
	c := h.Copy()
	one, other := "", ""
	for i := range 300 {
		a, b := string([]byte{byte(i)}), string([]byte{^byte(i)})
		write(t, h, a)
		write(t, c, b)
		one, other = one+a, other+b
		wantHash(t, "the hash", h, one)
		wantHash(t, "the copy", c, other)
	}
}
