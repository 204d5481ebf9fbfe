// Package hex is layer 1, hexadecimal digits: see shared/doc/01-hex.md.
package hex

import "legate/api"

// most: the greatest uint64 has 16 digits.
const most = 16

var digits = [16]byte{'0', '1', '2', '3', '4', '5', '6', '7', '8', '9', 'a', 'b', 'c', 'd', 'e', 'f'}

func value(c byte) (int, bool) {
	for v, d := range digits {
		if c == d {
			return v, true
		}
	}
	return 0, false
}

// Encode, Decode, Is, Digit: P1.1.

func Encode(s string) string {
	out := make([]byte, 0, 2*len(s))
	for i := range len(s) {
		out = append(out, digits[s[i]>>4], digits[s[i]&15])
	}
	return string(out)
}

func Decode(s string) (string, api.Errno) {
	// ErrForm goes before ErrShort, so the last byte of an odd number is examined, too.
	if !Is(s) {
		return "", api.ErrForm
	}
	if len(s)%2 != 0 {
		return "", api.ErrShort
	}
	out := make([]byte, 0, len(s)/2)
	for i := 0; i < len(s); i += 2 {
		high, _ := value(s[i])
		low, _ := value(s[i+1])
		out = append(out, byte(high<<4|low))
	}
	return string(out), api.OK
}

func Is(s string) bool {
	for i := range len(s) {
		if _, is := value(s[i]); !is {
			return false
		}
	}
	return true
}

func Digit(s string, at int) (int, bool) {
	if at < 0 || at >= len(s) {
		return 0, false
	}
	return value(s[at])
}

// Number, Digits: P1.2.

func Number(s string) (uint64, api.Errno) {
	if !Is(s) {
		return 0, api.ErrForm
	}
	if len(s) == 0 {
		return 0, api.ErrShort
	}
	if len(s) > most {
		return 0, api.ErrLong
	}
	var n uint64
	for i := range len(s) {
		v, _ := value(s[i])
		n = n<<4 | uint64(v)
	}
	return n, api.OK
}

func Digits(n uint64, least int) string {
	least = within(least, 1, most)
	var out [most]byte
	at := most
	for n > 0 || most-at < least {
		at--
		out[at] = digits[n&15]
		n >>= 4
	}
	return string(out[at:])
}

func within(n, low, high int) int {
	if n < low {
		return low
	}
	if n > high {
		return high
	}
	return n
}
