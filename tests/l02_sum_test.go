package tests

import (
	"strings"
	"testing"

	"loop.example/g01397/impl"
)

// slowSum goes bit by bit, as the document tells it.
func slowSum(s string) int {
	c := 4294967295
	for i := range len(s) {
		c ^= int(s[i])
		for range 8 {
			odd := c%2 == 1
			c /= 2
			if odd {
				c ^= 2197175160
			}
		}
	}
	return 4294967295 - c
}

// sumTexts are texts of many lengths and of all kinds of bytes.
func sumTexts() []string {
	all := make([]byte, 256)
	for i := range all {
		all[i] = byte(i)
	}
	texts := []string{
		"123456789",
		"a",
		"seg1",
		"é",
		"aé",
		"éa",
		"日本語",
		"𝄞 and a little more",
		"\xc3",
		"\xc3(",
		"\xe6\x97",
		"\xf0\x9d\x84",
		"a\x80\x80b",
		"\xff\xfe\xfd",
		"\xed\xa0\x80",
		"\xef\xbf\xbd",
		"\xef\xbf\xbd\xff",
		string(all),
		strings.Repeat("é\xc3\x00", 1000),
		strings.Repeat("a longer text, ", 1000),
	}
	for n := 1; n <= 20; n++ {
		texts = append(texts, strings.Repeat("\x00", n), strings.Repeat("\xff", n), strings.Repeat("\x80", n), string(all[100:100+n]))
	}
	return texts
}

// turned is s with the bits of turn, one byte behind the other, xored into it
// from at on.
func turned(s string, at int, turn string) string {
	b := []byte(s)
	for i := range len(turn) {
		b[at+i] ^= turn[i]
	}
	return string(b)
}

func TestCrcTold(t *testing.T) {
	for _, c := range []struct {
		text string
		want int
	}{
		{"123456789", 3808858755},
		{"", 0},
		{"a", 0xc1d04330},
		{"\x00", 0x527d5351},
		{"\xff", 0xff000000},
		{"\xff\xff\xff\xff", 0xffffffff},
		{strings.Repeat("\x00", 32), 0x8a9136aa},
		{strings.Repeat("\xff", 32), 0x62a8ab43},
	} {
		if got := impl.Crc(c.text); got != c.want {
			t.Errorf("Crc(%q) = %d, want %d", c.text, got, c.want)
		}
	}
}

func TestCrcGoesBitByBit(t *testing.T) {
	for _, s := range append(shortTexts(), sumTexts()...) {
		if got, want := impl.Crc(s), slowSum(s); got != want {
			t.Errorf("Crc(%.40q) = %d, want %d", s, got, want)
		}
	}
}

func TestCrcOfOneByteApart(t *testing.T) {
	seen := map[int]string{impl.Crc(""): ""}
	for b := range 256 {
		s := string([]byte{byte(b)})
		sum := impl.Crc(s)
		if other, ok := seen[sum]; ok {
			t.Errorf("%q and %q have one sum", s, other)
		}
		if sum < 0 || sum > 4294967295 {
			t.Errorf("Crc(%q) = %d, out of range", s, sum)
		}
		seen[sum] = s
	}
}

func TestCrcDependsOnTheBytesAlone(t *testing.T) {
	for _, s := range append(sumTexts(), "") {
		want := impl.Crc(s)
		byBytes := []byte{}
		for i := range len(s) {
			byBytes = append(byBytes, s[i])
		}
		byHex, _ := impl.Unhex(impl.Hex(s))
		half := len(s) / 2
		other := "xé" + s + "\x80z"
		for _, same := range []string{s, string(byBytes), byHex, s[:half] + s[half:], other[3 : 3+len(s)]} {
			if got := impl.Crc(same); got != want {
				t.Errorf("Crc(%.40q) = %d, then %d", s, want, got)
			}
		}
	}
}

func TestCrcTellsTheLastBit(t *testing.T) {
	for _, s := range sumTexts() {
		for bit := range 8 {
			other := turned(s, len(s)-1, string([]byte{1 << bit}))
			if impl.Crc(other) == impl.Crc(s) {
				t.Errorf("bit %d of the last byte of %.40q does not count", bit, s)
			}
		}
	}
}

func TestCrcTellsTurnedBytes(t *testing.T) {
	turns := []string{
		"\x01", "\x80", "\xff",
		"\x01\x01", "\xff\xff", "\x80\x01",
		"\x01\x00\x80", "\xff\xff\xff",
		"\x01\x00\x00\x01", "\x80\x00\x00\x01", "\xff\xff\xff\xff", "\x82\xf6\x3b\x78", "\x78\x3b\xf6\x82",
	}
	for _, s := range sumTexts() {
		sum := impl.Crc(s)
		for _, turn := range turns {
			for at := range min(len(s)-len(turn)+1, 60) {
				other := turned(s, at, turn)
				if got := impl.Crc(other); got == sum {
					t.Errorf("%q turned at %d of %.40q does not count", turn, at, s)
				} else if got != slowSum(other) {
					t.Errorf("%q turned at %d of %.40q: sum %d", turn, at, s, got)
				}
			}
		}
	}
}
