package tests

import (
	"math"
	"strings"
	"testing"

	"loop.example/g01397/impl"
)

// wrongWidths are ones that no Fixed has.
var wrongWidths = []int{0, -1, 8, 9, 64, math.MinInt, math.MaxInt}

func TestFixedMakes(t *testing.T) {
	for _, c := range []struct {
		n, width int
		want     string
	}{
		{0, 1, "\x00"},
		{65, 1, "A"},
		{255, 1, "\xff"},
		{256, 1, ""},
		{0, 2, "\x00\x00"},
		{258, 2, "\x01\x02"},
		{65535, 2, "\xff\xff"},
		{65536, 2, ""},
		{4294967295, 4, "\xff\xff\xff\xff"},
		{4294967296, 4, ""},
		{0, 7, "\x00\x00\x00\x00\x00\x00\x00"},
		{0x01020304050607, 7, "\x01\x02\x03\x04\x05\x06\x07"},
		{1<<56 - 1, 7, "\xff\xff\xff\xff\xff\xff\xff"},
		{1 << 56, 7, ""},
		{math.MaxInt, 7, ""},
		{-1, 1, ""},
		{-1, 7, ""},
		{math.MinInt, 7, ""},
	} {
		if got := impl.Fixed(c.n, c.width); got != c.want {
			t.Errorf("Fixed(%d, %d) = %q, want %q", c.n, c.width, got, c.want)
		}
	}
	for _, width := range wrongWidths {
		for _, n := range []int{0, 1, -1, math.MaxInt, math.MinInt} {
			if got := impl.Fixed(n, width); got != "" {
				t.Errorf("Fixed(%d, %d) = %q, want none", n, width, got)
			}
		}
	}
}

func TestFixedFitsExactly(t *testing.T) {
	for width := 1; width <= 7; width++ {
		end := 1 << (8 * width)
		for _, n := range []int{0, 1, end/2 - 1, end / 2, end - 2, end - 1} {
			s := impl.Fixed(n, width)
			if len(s) != width {
				t.Errorf("Fixed(%d, %d) has %d bytes", n, width, len(s))
			}
			if got, ok := impl.ReadFixed(s, width); got != n || !ok {
				t.Errorf("ReadFixed of Fixed(%d, %d) = %d, %v", n, width, got, ok)
			}
			if got, ok := impl.ReadFixed(s+"\x01z", width); got != n || !ok {
				t.Errorf("ReadFixed with more behind Fixed(%d, %d) = %d, %v", n, width, got, ok)
			}
		}
		if got := impl.Fixed(end, width); got != "" {
			t.Errorf("Fixed(%d, %d) = %q, one too great", end, width, got)
		}
	}
}

func TestReadFixedTellsWhatFixedMakes(t *testing.T) {
	for _, s := range shortTexts() {
		if n, ok := impl.ReadFixed(s, len(s)); !ok || impl.Fixed(n, len(s)) != s {
			t.Errorf("ReadFixed(%q, %d) = %d, %v", s, len(s), n, ok)
		}
	}
}

func TestReadFixedRefuses(t *testing.T) {
	for width := 1; width <= 7; width++ {
		for have := range width {
			if n, ok := impl.ReadFixed(strings.Repeat("\xff", have), width); n != 0 || ok {
				t.Errorf("ReadFixed of %d bytes, width %d = %d, %v", have, width, n, ok)
			}
		}
	}
	for _, width := range wrongWidths {
		for _, s := range []string{"", "\x01", strings.Repeat("\x01", 100)} {
			if n, ok := impl.ReadFixed(s, width); n != 0 || ok {
				t.Errorf("ReadFixed(%q, %d) = %d, %v", s, width, n, ok)
			}
		}
	}
}

func TestVarMakes(t *testing.T) {
	for _, c := range []struct {
		n    int
		want string
	}{
		{0, "\x00"},
		{1, "\x01"},
		{127, "\x7f"},
		{128, "\x80\x01"},
		{300, "\xac\x02"},
		{16383, "\xff\x7f"},
		{16384, "\x80\x80\x01"},
		{impl.MaxVar, "\xff\xff\xff\xff\xff\xff\x7f"},
		{impl.MaxVar + 1, ""},
		{math.MaxInt, ""},
		{-1, ""},
		{math.MinInt, ""},
	} {
		if got := impl.Var(c.n); got != c.want {
			t.Errorf("Var(%d) = %q, want %q", c.n, got, c.want)
		}
	}
}

func TestVarIsShortestAndReadBack(t *testing.T) {
	for size := 1; size <= 7; size++ {
		low, end := 1<<(7*(size-1)), 1<<(7*size)
		for _, n := range []int{low, low + 1, end/2 + 1, end - 2, end - 1} {
			s := impl.Var(n)
			if len(s) != size {
				t.Errorf("Var(%d) has %d bytes, want %d", n, len(s), size)
			}
			for _, more := range []string{"", "\x00", "\x80", "\x01z", "\xff\xff\xff\xff\xff\xff\xff\xff"} {
				if got, k := impl.ReadVar(s + more); got != n || k != size {
					t.Errorf("ReadVar(%q) = %d, %d, want %d, %d", s+more, got, k, n, size)
				}
			}
			for cut := range size {
				if got, k := impl.ReadVar(s[:cut]); got != 0 || k != 0 {
					t.Errorf("ReadVar(%q), cut, = %d, %d", s[:cut], got, k)
				}
			}
		}
	}
}

// shortTexts are all texts of one and of two bytes.
func shortTexts() []string {
	var l []string
	for a := range 256 {
		l = append(l, string([]byte{byte(a)}))
		for b := range 256 {
			l = append(l, string([]byte{byte(a), byte(b)}))
		}
	}
	return l
}

func TestReadVarTakesNothingElse(t *testing.T) {
	made := map[string]int{}
	for n := range 1 << 14 {
		made[impl.Var(n)] = n
	}
	if len(made) != 1<<14 {
		t.Fatalf("%d numbers have %d Vars", 1<<14, len(made))
	}
	for _, s := range shortTexts() {
		wantN, wantK := 0, 0
		for k := 1; k <= len(s); k++ {
			if n, ok := made[s[:k]]; ok {
				wantN, wantK = n, k
			}
		}
		if n, k := impl.ReadVar(s); n != wantN || k != wantK {
			t.Errorf("ReadVar(%q) = %d, %d, want %d, %d", s, n, k, wantN, wantK)
		}
	}
}

func TestReadVarRefuses(t *testing.T) {
	wrong := []string{
		"",
		"\x80",
		"\xff\xff\xff",
		"\x80\x80\x80\x80\x80\x80\x80",
		"\x80\x80\x80\x80\x80\x80\x80\x01",
		"\xff\xff\xff\xff\xff\xff\xff\x00",
		"\xff\xff\xff\xff\xff\xff\xff\x7f",
		"\xff\xff\xff\xff\xff\xff\xff\xff\xff\x01",
	}
	for size := 1; size <= 10; size++ {
		wrong = append(wrong, strings.Repeat("\x80", size)+"\x00", strings.Repeat("\xff", size)+"\x00")
	}
	for _, s := range wrong {
		if n, k := impl.ReadVar(s); n != 0 || k != 0 {
			t.Errorf("ReadVar(%q) = %d, %d", s, n, k)
		}
	}
}

func TestHexMakes(t *testing.T) {
	for _, c := range []struct{ text, want string }{
		{"", ""},
		{"\x00", "00"},
		{"a\xff", "61ff"},
		{"\x0f\xf0\x9a\xbc\xde", "0ff09abcde"},
		{"é", "c3a9"},
	} {
		if got := impl.Hex(c.text); got != c.want {
			t.Errorf("Hex(%q) = %q, want %q", c.text, got, c.want)
		}
		if got, ok := impl.Unhex(c.want); got != c.text || !ok {
			t.Errorf("Unhex(%q) = %q, %v", c.want, got, ok)
		}
	}
	long := strings.Repeat("\x00\x7f\x80\xff", 5000)
	if got, ok := impl.Unhex(impl.Hex(long)); got != long || !ok {
		t.Error("a long text does not come back")
	}
}

func TestUnhexTakesNothingElse(t *testing.T) {
	made := map[string]string{}
	for a := range 256 {
		one := string([]byte{byte(a)})
		made[impl.Hex(one)] = one
	}
	if len(made) != 256 {
		t.Fatalf("256 bytes have %d texts of Hex", len(made))
	}
	for _, s := range shortTexts() {
		want, wantOk := made[s]
		if got, ok := impl.Unhex(s); got != want || ok != wantOk {
			t.Errorf("Unhex(%q) = %q, %v, want %q, %v", s, got, ok, want, wantOk)
		}
	}
}

func TestUnhexRefuses(t *testing.T) {
	for _, s := range []string{"6", "616", "61f", "6F", "F6", "6162G3", "61 62", " 6162", "0x61", "6g", "g6", "-1", "616\x00", "61é"} {
		if got, ok := impl.Unhex(s); got != "" || ok {
			t.Errorf("Unhex(%q) = %q, %v", s, got, ok)
		}
	}
}

func TestDecMakes(t *testing.T) {
	for _, c := range []struct {
		n    int
		want string
	}{
		{0, "0"},
		{7, "7"},
		{10, "10"},
		{-1, "-1"},
		{-120, "-120"},
		{999999999, "999999999"},
		{1000000000, "1000000000"},
		{math.MaxInt, "9223372036854775807"},
		{math.MinInt, "-9223372036854775808"},
	} {
		if got := impl.Dec(c.n); got != c.want {
			t.Errorf("Dec(%d) = %q, want %q", c.n, got, c.want)
		}
	}
}

func TestReadDecUpToNineDigits(t *testing.T) {
	for _, n := range []int{0, 1, 9, 10, 99, 100, 12345678, 100000000, 123456789, 999999998, 999999999} {
		for _, m := range []int{n, -n} {
			if got, ok := impl.ReadDec(impl.Dec(m)); got != m || !ok {
				t.Errorf("ReadDec of Dec(%d) = %d, %v", m, got, ok)
			}
		}
	}
	for _, n := range []int{1000000000, 1000000001, 2147483648, 9999999999, math.MaxInt} {
		for _, m := range []int{n, -n} {
			if got, ok := impl.ReadDec(impl.Dec(m)); got != 0 || ok {
				t.Errorf("ReadDec of Dec(%d), too long, = %d, %v", m, got, ok)
			}
		}
	}
}

// All texts of up to four of these bytes are held against all Decs that short.
func TestReadDecTakesNothingElse(t *testing.T) {
	made := map[string]int{}
	for n := -999; n <= 9999; n++ {
		made[impl.Dec(n)] = n
	}
	texts := []string{""}
	for from, size := 0, 0; size <= 4; size++ {
		end := len(texts)
		for _, s := range texts[from:end] {
			want, wantOk := made[s]
			if got, ok := impl.ReadDec(s); got != want || ok != wantOk {
				t.Errorf("ReadDec(%q) = %d, %v, want %d, %v", s, got, ok, want, wantOk)
			}
			for _, b := range []byte("-+01259 _.ex\x00\n") {
				texts = append(texts, s+string([]byte{b}))
			}
		}
		from = end
	}
}

func TestReadDecRefuses(t *testing.T) {
	for _, s := range []string{
		"", "-", "--1", "-0", "00", "01", "-01", "0000000001", "000000000", "-000000001",
		"+1", "+0", " 1", "1 ", "1\n", "1_000", "0x1", "1e3", "1.0", "١", "１",
		"1000000000", "-1000000000", "99999999999999999999", "-99999999999999999999",
		strings.Repeat("0", 1000) + "1", strings.Repeat("9", 1000), strings.Repeat("-", 1000),
	} {
		if n, ok := impl.ReadDec(s); n != 0 || ok {
			t.Errorf("ReadDec(%q) = %d, %v", s, n, ok)
		}
	}
}
