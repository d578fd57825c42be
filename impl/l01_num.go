package impl

import (
	"strconv"
	"strings"
)

const MaxVar = 562949953421311

const (
	maxWidth    = 7
	maxVarBytes = 7
	maxDigits   = 9
	hexDigits   = "0123456789abcdef"
)

func Fixed(n int, width int) string {
	if width < 1 || width > maxWidth || n < 0 || n>>(8*width) != 0 {
		return ""
	}
	buf := make([]byte, width)
	at := 0
	for i := range width {
		at = putBehind(buf, at, byte(n>>(8*(width-1-i))))
	}
	return string(buf)
}

func ReadFixed(s string, width int) (int, bool) {
	if width < 1 || width > maxWidth || len(s) < width {
		return 0, false
	}
	n := 0
	for i := range width {
		n = n<<8 | int(s[i])
	}
	return n, true
}

func Var(n int) string {
	if n < 0 || n > MaxVar {
		return ""
	}
	buf := make([]byte, maxVarBytes)
	at := 0
	for n > 127 {
		at = putBehind(buf, at, byte(n&127|128))
		n >>= 7
	}
	at = putBehind(buf, at, byte(n))
	return string(buf[:at])
}

func ReadVar(s string) (int, int) {
	n := 0
	for i := range min(len(s), maxVarBytes) {
		n |= int(s[i]&127) << (7 * i)
		if s[i] > 127 {
			continue
		}
		// A last byte 0 behind others adds nothing, so Var makes no such text.
		if i > 0 && s[i] == 0 {
			return 0, 0
		}
		return n, i + 1
	}
	return 0, 0
}

func Hex(s string) string {
	buf := make([]byte, 2*len(s))
	at := 0
	for i := range len(s) {
		at = putBehind(buf, at, hexDigits[s[i]>>4], hexDigits[s[i]&15])
	}
	return string(buf)
}

func Unhex(s string) (string, bool) {
	if len(s)%2 != 0 {
		return "", false
	}
	buf := make([]byte, len(s)/2)
	at := 0
	for i := 0; i < len(s); i += 2 {
		high := strings.IndexByte(hexDigits, s[i])
		low := strings.IndexByte(hexDigits, s[i+1])
		if high < 0 || low < 0 {
			return "", false
		}
		at = putBehind(buf, at, byte(high<<4|low))
	}
	return string(buf), true
}

func Dec(n int) string {
	return strconv.Itoa(n)
}

func ReadDec(s string) (int, bool) {
	if len(strings.TrimPrefix(s, "-")) > maxDigits {
		return 0, false
	}
	n, err := strconv.Atoi(s)
	// Atoi also takes +1, 01 and -0, of which Dec makes none.
	if err != nil || Dec(n) != s {
		return 0, false
	}
	return n, true
}

// putBehind tells where the next bytes go, so that one buffer of the final
// size serves a whole text however long it is.
func putBehind(buf []byte, at int, more ...byte) int {
	return at + copy(buf[at:], more)
}
