package tests

import (
	"encoding/binary"
	"math"
	"slices"
	"strings"
	"testing"

	"loop.example/g01397/impl"
)

// summed is a text with its right sum ahead, whatever it is.
func summed(s string) string {
	return string(binary.BigEndian.AppendUint32(nil, uint32(slowSum(s)))) + s
}

// slowFrame is Frame by the chapter's words, with the library's numbers.
func slowFrame(s string) string {
	if len(s) > impl.MaxFrame {
		return ""
	}
	return summed(string(binary.AppendUvarint(nil, uint64(len(s)))) + s)
}

// slowUnframe tries a text of each length, and asks whether s begins with the
// frame of that one.
func slowUnframe(s string) (string, int) {
	for n := range impl.MaxFrame + 1 {
		ahead := string(binary.AppendUvarint(nil, uint64(n)))
		from := 4 + len(ahead)
		if len(s) < from+n || s[4:from] != ahead {
			continue
		}
		text := s[from : from+n]
		if f := slowFrame(text); strings.HasPrefix(s, f) {
			return text, len(f)
		}
	}
	return "", 0
}

// slowScan is ScanRecs by the chapter's words.
func slowScan(s string) ([]impl.Spot, int) {
	var l []impl.Spot
	at := 0
	for {
		text, n := slowUnframe(s[at:])
		r, ok := slowReadRec(text)
		if n == 0 || !ok {
			return l, at
		}
		l = append(l, impl.Spot{At: at, Len: n, Rec: r})
		at += n
	}
}

// slowRecAt is RecAt by the chapter's words.
func slowRecAt(s string, at, n int) (impl.Rec, bool) {
	if !within(at, 0, len(s)) || !within(n, 0, len(s)-at) {
		return impl.Rec{}, false
	}
	text, size := slowUnframe(s[at : at+n])
	if size == 0 || size != n {
		return impl.Rec{}, false
	}
	return slowReadRec(text)
}

// logOf are the frames of records, one behind the other.
func logOf(l ...impl.Rec) string {
	s := ""
	for _, r := range l {
		s += slowFrame(slowShowRec(r))
	}
	return s
}

// nested is a record whose value is itself the frame of one.
func nested() impl.Rec {
	return put(5, "in", logOf(del(4, "b")))
}

// badPieces are bytes that a scan does not get past, by what is wrong.
func badPieces() map[string]string {
	whole := logOf(put(3, "key", "value"))
	return map[string]string{
		"half a frame":                whole[:len(whole)-1],
		"the sum of a frame":          whole[:4],
		"a sum and a cut length":      summed("\x80"),
		"a byte":                      "\x00",
		"a frame with a wrong sum":    turned(whole, 3, "\x01"),
		"a frame with a turned text":  turned(whole, len(whole)-1, "\x80"),
		"a frame without a record":    slowFrame("no record"),
		"the frame of an empty text":  slowFrame(""),
		"a frame with more behind":    slowFrame(slowShowRec(del(1, "a")) + "\x00"),
		"a frame with a wrong record": slowFrame("\x02\x00\x01a"),
		"a record without a frame":    slowShowRec(put(3, "key", "value")),
		"noughts":                     strings.Repeat("\x00", 40),
		"ones":                        strings.Repeat("\xff", 40),
		"a frame of a frame":          slowFrame(whole),
		"a frame that is too long":    summed(impl.Var(impl.MaxFrame+1) + strings.Repeat("x", impl.MaxFrame+1)),
	}
}

func checkUnframe(t *testing.T, s string) {
	t.Helper()
	got, n := impl.Unframe(s)
	want, wantN := slowUnframe(s)
	if got != want || n != wantN {
		t.Fatalf("Unframe(%.80q) = %q, %d, want %q, %d", s, got, n, want, wantN)
	}
}

func checkNoFrame(t *testing.T, s string) {
	t.Helper()
	if got, n := impl.Unframe(s); got != "" || n != 0 {
		t.Errorf("Unframe(%.80q) = %q, %d, want none", s, got, n)
	}
}

func checkScan(t *testing.T, s string) {
	t.Helper()
	got, end := impl.ScanRecs(s)
	want, wantEnd := slowScan(s)
	if !slices.Equal(got, want) || end != wantEnd {
		t.Fatalf("ScanRecs(%.80q) = %v, %d, want %v, %d", s, got, end, want, wantEnd)
	}
	for _, spot := range got {
		if r, ok := impl.RecAt(s, spot.At, spot.Len); r != spot.Rec || !ok {
			t.Fatalf("RecAt(%.80q, %d, %d) = %v, %v, want %v", s, spot.At, spot.Len, r, ok, spot.Rec)
		}
	}
}

func checkRecAt(t *testing.T, s string, at, n int) {
	t.Helper()
	got, ok := impl.RecAt(s, at, n)
	want, wantOk := slowRecAt(s, at, n)
	if got != want || ok != wantOk {
		t.Fatalf("RecAt(%.80q, %d, %d) = %v, %v, want %v, %v", s, at, n, got, ok, want, wantOk)
	}
}

func TestFrameMakes(t *testing.T) {
	long := strings.Repeat("x", 128)
	for text, want := range map[string]string{
		"":                  "\x52\x7d\x53\x51\x00",
		"a":                 "\x71\x6e\xff\xc4\x01a",
		"\x02\x01\x01a":     "\x3f\x1e\xf1\x6c\x04\x02\x01\x01a",
		"\x00\x80\xff":      "\x7c\xfb\x6b\x56\x03\x00\x80\xff",
		"two\nlines":        "\x16\x25\xdc\x64\x09two\nlines",
		long:                "\xf8\x57\x55\xf9\x80\x01" + long,
		"\x05é\xc3":         "\x7f\x1f\xf3\x23\x04\x05é\xc3",
		"seg1 hint1 live 1": "\x3c\xd0\x7b\x9c\x11seg1 hint1 live 1",
	} {
		if got := impl.Frame(text); got != want {
			t.Errorf("Frame(%.80q) = %q, want %q", text, got, want)
		}
		for _, more := range []string{"", "x", "\x00", want} {
			if got, n := impl.Unframe(want + more); got != text || n != len(want) {
				t.Errorf("Unframe(%.80q) = %q, %d, want %q, %d", want+more, got, n, text, len(want))
			}
		}
	}
}

func TestFrameEdges(t *testing.T) {
	for _, n := range []int{0, 1, 2, 126, 127, 128, 129, impl.MaxFrame - 1, impl.MaxFrame} {
		for _, letter := range []string{"x", "\x00", "\x80", "\xff"} {
			text := strings.Repeat(letter, n)
			f := impl.Frame(text)
			if f != slowFrame(text) || len(f) != 4+len(impl.Var(n))+n {
				t.Errorf("Frame of %d bytes %q = %q", n, letter, f)
			}
			for _, more := range []string{"", "x", "\x80", f, strings.Repeat("\x00", 1000)} {
				if got, size := impl.Unframe(f + more); got != text || size != len(f) {
					t.Errorf("Unframe of the frame of %d bytes %q = %q, %d", n, letter, got, size)
				}
			}
		}
	}
	for _, n := range []int{impl.MaxFrame + 1, impl.MaxFrame + 2, 255, 256, 257, 16383, 16384, 16384 + 1, impl.MaxCap} {
		if f := impl.Frame(strings.Repeat("x", n)); f != "" {
			t.Errorf("Frame of %d bytes = %.80q", n, f)
		}
	}
}

func TestFramesOfManyTexts(t *testing.T) {
	from := map[string]string{}
	for _, text := range append(shortTexts(), sumTexts()...) {
		f := impl.Frame(text)
		if f != slowFrame(text) {
			t.Fatalf("Frame(%.80q) = %q, want %q", text, f, slowFrame(text))
		}
		checkUnframe(t, f+"more")
		if other, has := from[f]; has && other != text && f != "" {
			t.Fatalf("%q and %q have one frame", other, text)
		}
		from[f] = text
	}
}

// framedTexts are texts whose frames are cut and turned at each byte.
func framedTexts() []string {
	return []string{
		"", "a", "\x00", "xy", "\x02\x01\x01a",
		strings.Repeat("x", 127), strings.Repeat("x", 128),
		strings.Repeat("\x80", 129), strings.Repeat("\x00", impl.MaxFrame-1), strings.Repeat("x", impl.MaxFrame),
		slowShowRec(put(300, "key", "value")), slowShowRec(mark(0, 0, 0)),
	}
}

func TestUnframeRefusesWhatIsCut(t *testing.T) {
	for _, text := range framedTexts() {
		f := impl.Frame(text)
		for n := range len(f) {
			checkNoFrame(t, f[:n])
		}
		for at := 1; at <= len(f); at++ {
			checkUnframe(t, f[at:])
		}
	}
}

func TestUnframeRefusesWhatIsTurned(t *testing.T) {
	for _, text := range framedTexts() {
		f := impl.Frame(text)
		for at := range len(f) {
			for turn := 1; turn < 256; turn++ {
				if bits := len(f) > 40 && turn&(turn-1) != 0; bits {
					continue
				}
				s := turned(f, at, string([]byte{byte(turn)}))
				checkNoFrame(t, s)
				checkUnframe(t, s+f)
			}
		}
	}
}

func TestUnframeRefusesLengths(t *testing.T) {
	for _, c := range []struct{ name, s string }{
		{"a length that is not there", summed("")},
		{"a cut length of one byte", summed("\x80")},
		{"a cut length of one byte, 200", summed("\xc8")},
		{"a cut length of two bytes", summed("\x80\x80")},
		{"a cut length of six bytes", summed("\xff\xff\xff\xff\xff\xff")},
		{"a length of eight bytes", summed("\x80\x80\x80\x80\x80\x80\x80\x01")},
		{"a length without an end", summed(strings.Repeat("\x80", 300))},
		{"a length of ones", summed(strings.Repeat("\xff", 300))},
		{"a length without its text", summed("\x01")},
		{"a length past the end by one", summed("\x03ab")},
		{"a length past the end", summed("\x7fab")},
		{"MaxFrame past the end by one", summed(impl.Var(impl.MaxFrame) + strings.Repeat("x", impl.MaxFrame-1))},
		{"a length above MaxFrame", summed(impl.Var(impl.MaxFrame+1) + strings.Repeat("x", impl.MaxFrame+1))},
		{"a length above MaxFrame, cut", summed(impl.Var(impl.MaxFrame+1) + strings.Repeat("x", impl.MaxFrame))},
		{"a length far above MaxFrame", summed(impl.Var(impl.MaxCap) + strings.Repeat("x", impl.MaxCap))},
		{"a length of 256 and no more", summed(impl.Var(256))},
		{"a length of 256", summed(impl.Var(256) + strings.Repeat("x", 256))},
		{"a length of 1 << 32", summed(impl.Var(1 << 32))},
		{"a length of 1 << 32 and 1", summed(impl.Var(1<<32+1) + "a")},
		{"a length of MaxVar", summed(impl.Var(impl.MaxVar) + "abc")},
	} {
		if got, n := impl.Unframe(c.s); got != "" || n != 0 {
			t.Errorf("%s: Unframe = %q, %d", c.name, got, n)
		}
		checkUnframe(t, c.s+"x")
		checkScan(t, c.s)
	}
}

func TestUnframeRefusesLongerLengths(t *testing.T) {
	for _, text := range framedTexts() {
		for _, ahead := range longer(len(text)) {
			checkNoFrame(t, summed(ahead+text))
			checkNoFrame(t, summed(ahead)+text)
		}
	}
}

func TestUnframeRefusesSumsOfLess(t *testing.T) {
	for _, text := range framedTexts() {
		ahead := impl.Var(len(text))
		bytes := func(n int) string { return string(binary.BigEndian.AppendUint32(nil, uint32(n))) }
		// The length is summed too, and nothing behind the text is.
		if text != "" {
			checkNoFrame(t, bytes(slowSum(ahead))+ahead+text)
		}
		checkNoFrame(t, bytes(slowSum(text))+ahead+text)
		checkNoFrame(t, bytes(slowSum(ahead+text+"x"))+ahead+text+"x")
		checkNoFrame(t, string(binary.LittleEndian.AppendUint32(nil, uint32(slowSum(ahead+text))))+ahead+text)
		checkNoFrame(t, ahead+text)
		checkNoFrame(t, ahead+text+bytes(slowSum(ahead+text)))
	}
	checkNoFrame(t, "")
	for _, s := range shortTexts() {
		checkNoFrame(t, s)
	}
	for _, letter := range []string{"\x00", "\x01", "x", "\x7f", "\x80", "\xff"} {
		for n := range 300 {
			checkUnframe(t, strings.Repeat(letter, n))
		}
		checkNoFrame(t, strings.Repeat(letter, 1<<20))
	}
}

func TestScanRecsTells(t *testing.T) {
	l := []impl.Rec{put(1, "a", "x"), del(1, "b"), seal(1, 2, 77), keep(300, "c", ""), mark(0, 1, 5)}
	s := logOf(l...)
	want := []impl.Spot{
		{At: 0, Len: 11, Rec: l[0]},
		{At: 11, Len: 9, Rec: l[1]},
		{At: 20, Len: 12, Rec: l[2]},
		{At: 32, Len: 11, Rec: l[3]},
		{At: 43, Len: 12, Rec: l[4]},
	}
	got, end := impl.ScanRecs(s)
	if !slices.Equal(got, want) || end != 55 || len(s) != 55 {
		t.Errorf("ScanRecs = %v, %d of %d, want %v", got, end, len(s), want)
	}
	for _, spot := range want {
		if r, ok := impl.RecAt(s, spot.At, spot.Len); r != spot.Rec || !ok {
			t.Errorf("RecAt(%d, %d) = %v, %v, want %v", spot.At, spot.Len, r, ok, spot.Rec)
		}
	}
	if got, end := impl.ScanRecs(""); len(got) != 0 || end != 0 {
		t.Errorf("ScanRecs of nothing = %v, %d", got, end)
	}
}

func TestScanRecsOfAllRecords(t *testing.T) {
	s := ""
	for i, r := range rightRecs() {
		f := impl.Frame(impl.ShowRec(r))
		if got, end := impl.ScanRecs(f); !slices.Equal(got, []impl.Spot{{Len: len(f), Rec: r}}) || end != len(f) {
			t.Fatalf("ScanRecs of %v = %v, %d", r, got, end)
		}
		if i%11 == 0 {
			s += f
		}
	}
	checkScan(t, s)
}

// TestScanRecsOfWhatIsCut is the promise: a log that is cut tells a beginning.
func TestScanRecsOfWhatIsCut(t *testing.T) {
	for _, s := range []string{
		logOf(fewRecs()...),
		logOf(nested(), nested(), del(1, "a")),
		logOf(fewRecs()...) + badPieces()["half a frame"],
		logOf(put(1, "a", "")) + slowFrame("no record") + logOf(put(1, "b", "")),
	} {
		all, allEnd := slowScan(s)
		for n := range len(s) + 1 {
			got, end := impl.ScanRecs(s[:n])
			whole := 0
			for whole < len(all) && all[whole].At+all[whole].Len <= n {
				whole++
			}
			want := 0
			if whole > 0 {
				want = all[whole-1].At + all[whole-1].Len
			}
			if !slices.Equal(got, all[:whole]) || end != want || end > allEnd {
				t.Fatalf("cut to %d: ScanRecs = %v, %d, want %v, %d", n, got, end, all[:whole], want)
			}
		}
	}
}

func TestScanRecsOfWhatIsBad(t *testing.T) {
	l := []impl.Rec{put(1, "a", "x"), seal(1, 1, 9), keep(2, "key", "value")}
	for name, bad := range badPieces() {
		for n := range len(l) + 1 {
			ahead := logOf(l[:n]...)
			s := ahead + bad + logOf(l[n:]...)
			got, end := impl.ScanRecs(s)
			want, _ := slowScan(ahead)
			if !slices.Equal(got, want) || end != len(ahead) {
				t.Errorf("%s behind %d: ScanRecs = %v, %d, want %v, %d", name, n, got, end, want, len(ahead))
			}
			checkScan(t, s)
			checkScan(t, ahead+bad)
			// What stands behind what is bad is told where it stands.
			if at := len(ahead + bad); n < len(l) {
				size := len(logOf(l[n]))
				if r, ok := impl.RecAt(s, at, size); r != l[n] || !ok {
					t.Errorf("%s: RecAt behind it = %v, %v", name, r, ok)
				}
			}
			if r, ok := impl.RecAt(s, len(ahead), len(bad)); r != (impl.Rec{}) || ok {
				t.Errorf("%s: RecAt of it = %v, %v", name, r, ok)
			}
		}
	}
}

func TestScanRecsOfTurnedLogs(t *testing.T) {
	s := logOf(fewRecs()...)
	for at := range len(s) {
		for _, turn := range []string{"\x01", "\x10", "\x80", "\xff", "\x01\x01", "\xff\xff\xff\xff"} {
			checkScan(t, turned(s, at, turn[:min(len(turn), len(s)-at)]))
		}
		checkScan(t, s[:at]+s[at+1:])
		checkScan(t, s[:at]+"\x00"+s[at:])
		checkScan(t, s[at:])
	}
}

func TestScanRecsOfALongLog(t *testing.T) {
	s := logOf(nested())
	n := impl.MaxCap / len(s)
	long := strings.Repeat(s, n)
	got, end := impl.ScanRecs(long + s[:len(s)-1])
	if len(got) != n || end != len(long) {
		t.Fatalf("ScanRecs of %d records tells %d, %d", n, len(got), end)
	}
	for i, spot := range got {
		if spot != (impl.Spot{At: i * len(s), Len: len(s), Rec: nested()}) {
			t.Fatalf("spot %d is %v", i, spot)
		}
	}
}

func TestRecAtEdges(t *testing.T) {
	l := []impl.Rec{del(1, "a"), nested(), mark(0, 0, 0), put(2, "b", "c")}
	great := []int{math.MinInt, math.MinInt + 1, -1 << 32, -2, 1 << 32, math.MaxInt - 1, math.MaxInt}
	for _, s := range []string{"", logOf(l[0]), logOf(l...), logOf(l...) + "x", logOf(l[:2]...) + slowFrame("none") + logOf(l[2:]...)} {
		places := great
		for n := -1; n <= len(s)+2; n++ {
			places = append(slices.Clip(places), n)
		}
		for _, at := range places {
			for _, n := range append(places, len(s)-at, len(s)-at+1, math.MaxInt-at) {
				checkRecAt(t, s, at, n)
			}
		}
	}
}

func TestRecAtWantsJustTheFrame(t *testing.T) {
	for _, r := range fewRecs() {
		f := logOf(r)
		for _, ahead := range []string{"", "x", f, slowFrame("none")} {
			for _, behind := range []string{"", "x", "\x00", f} {
				s := ahead + f + behind
				at := len(ahead)
				if got, ok := impl.RecAt(s, at, len(f)); got != r || !ok {
					t.Errorf("RecAt(%q, %d, %d) = %v, %v, want %v", s, at, len(f), got, ok, r)
				}
				for _, n := range []int{len(f) - 1, len(f) + 1, 0, -1, -len(f), len(f) - 4, len(s), len(s) + 1} {
					if n == len(f) {
						continue
					}
					if got, ok := impl.RecAt(s, at, n); got != (impl.Rec{}) || ok {
						t.Errorf("RecAt(%q, %d, %d) = %v, %v, want none", s, at, n, got, ok)
					}
				}
				for _, off := range []int{-1, 1} {
					checkRecAt(t, s, at+off, len(f))
				}
			}
		}
	}
}

func TestRecAtOfAFrameInAValue(t *testing.T) {
	s := logOf(nested())
	inner := logOf(del(4, "b"))
	at := strings.Index(s, inner)
	if r, ok := impl.RecAt(s, at, len(inner)); r != del(4, "b") || !ok {
		t.Errorf("RecAt(%q, %d, %d) = %v, %v", s, at, len(inner), r, ok)
	}
	// A scan goes from frame to frame, and so past it.
	if l, end := impl.ScanRecs(s); len(l) != 1 || l[0].Rec != nested() || end != len(s) {
		t.Errorf("ScanRecs(%q) = %v, %d", s, l, end)
	}
}

func TestSumOf(t *testing.T) {
	wrong := []impl.Rec{{}, put(0, "k", "v"), put(1, "", "v"), del(1, strings.Repeat("k", impl.MaxKey+1)), seal(1, impl.MaxPuts+1, 0), {Kind: 6, Batch: 1, Key: "k"}}
	right := fewRecs()
	for _, l := range [][]impl.Rec{nil, {}, right[:1], right[:2], right, rightRecs(), wrong, {wrong[0]}, append(wrong, right...), append(slices.Clone(right), wrong...), {right[0], wrong[1], right[1]}} {
		shown := ""
		for _, r := range l {
			shown += slowShowRec(r)
		}
		before := slices.Clone(l)
		if got, want := impl.SumOf(l), slowSum(shown); got != want {
			t.Errorf("SumOf of %d records = %d, want %d", len(l), got, want)
		}
		if !slices.Equal(l, before) {
			t.Errorf("SumOf has written into %v", before)
		}
	}
	if impl.SumOf(nil) != 0 || impl.SumOf(wrong) != 0 {
		t.Error("SumOf without right records")
	}
	if got, want := impl.SumOf([]impl.Rec{del(1, "a")}), slowSum("\x02\x01\x01a"); got != want {
		t.Errorf("SumOf = %d, want %d", got, want)
	}
	if impl.SumOf(right[:2]) == impl.SumOf([]impl.Rec{right[1], right[0]}) {
		t.Error("SumOf does not tell the order")
	}
}

func TestSumOfLeavesSpareRoom(t *testing.T) {
	all := fewRecs()
	before := slices.Clone(all)
	impl.SumOf(all[:3])
	if !slices.Equal(all, before) {
		t.Errorf("SumOf has written behind its list: %v", all)
	}
}

func TestScanRecsTellsNewMemory(t *testing.T) {
	s := logOf(fewRecs()...)
	want, _ := slowScan(s)
	first, _ := impl.ScanRecs(s)
	second, _ := impl.ScanRecs(s)
	for i := range first {
		first[i] = impl.Spot{At: -1}
	}
	if !slices.Equal(second, want) {
		t.Errorf("two answers share memory: %v", second)
	}
	if third, _ := impl.ScanRecs(s); !slices.Equal(third, want) {
		t.Errorf("an answer was kept: %v", third)
	}
}
