package tests

import (
	"fmt"
	"maps"
	"math"
	"slices"
	"strings"
	"testing"

	"loop.example/g01397/impl"
)

func hint(size, mark int, l ...impl.Entry) impl.Hint {
	return impl.Hint{Size: size, Mark: mark, List: l}
}

// ofSeg are the entries as they would stand in that segment.
func ofSeg(seg int, l []impl.Entry) []impl.Entry {
	l = slices.Clone(l)
	for i := range l {
		l[i].Seg = seg
	}
	return l
}

func sameHint(a, b impl.Hint) bool {
	return a.Size == b.Size && a.Mark == b.Mark && slices.Equal(a.List, b.List)
}

// slowHintOk is a right hint by the chapter's words.
func slowHintOk(h impl.Hint) bool {
	for _, e := range h.List {
		for _, other := range h.List {
			if e.Seg != other.Seg {
				return false
			}
		}
		if !within(e.At, 0, 100000) {
			return false
		}
	}
	return within(h.Size, 0, 100000) && within(h.Mark, 0, 1000000) && slowDirOk(h.List)
}

// hintParts are the pieces of a hint's text behind its sum, right or not;
// those at the places of numbers are Vars.
func hintParts(h impl.Hint) (parts []string, numbers map[int]int) {
	numbers = map[int]int{}
	number := func(n int) {
		numbers[len(parts)] = n
		parts = append(parts, numbersOf(n))
	}
	number(h.Size)
	number(h.Mark)
	number(len(h.List))
	for _, e := range h.List {
		number(len(e.Key))
		parts = append(parts, e.Key)
		number(e.Seg)
		number(e.At)
		number(e.Len)
		number(e.Batch)
	}
	return parts, numbers
}

// insideOf is what stands behind the sum of a hint, right or not.
func insideOf(h impl.Hint) string {
	parts, _ := hintParts(h)
	return strings.Join(parts, "")
}

func slowShowHint(h impl.Hint) string {
	if !slowHintOk(h) {
		return ""
	}
	return summed(insideOf(h))
}

// slowReadHint guesses the one hint that may have been meant, and asks
// whether that one is shown as this text.
func slowReadHint(s string) (impl.Hint, bool) {
	var h impl.Hint
	var count int
	rest := s[min(4, len(s)):]
	h.Size, rest = looseNumber(rest)
	h.Mark, rest = looseNumber(rest)
	count, rest = looseNumber(rest)
	for len(h.List) < min(count, 100) {
		var e impl.Entry
		e.Key, rest = looseText(rest)
		e.Seg, rest = looseNumber(rest)
		e.At, rest = looseNumber(rest)
		e.Len, rest = looseNumber(rest)
		e.Batch, rest = looseNumber(rest)
		h.List = append(h.List, e)
	}
	if s == "" || slowShowHint(h) != s {
		return impl.Hint{}, false
	}
	return h, true
}

// slowHintOf is HintOf by the chapter's words.
func slowHintOf(id int, text string) (impl.Hint, bool) {
	spots, end := slowScan(text)
	if end != len(text) || len(spots) == 0 || !within(id, 1, 100000) {
		return impl.Hint{}, false
	}
	last := len(spots) - 1
	m := spots[last].Rec
	h := hint(len(text), m.Batch)
	var kept []impl.Rec
	for i, spot := range spots[:last] {
		r := spot.Rec
		if r.Kind != impl.RkKeep || r.Batch > m.Batch || i > 0 && spots[i-1].Rec.Key >= r.Key {
			return impl.Hint{}, false
		}
		kept = append(kept, r)
		h.List = append(h.List, impl.Entry{Key: r.Key, Seg: id, At: spot.At, Len: spot.Len, Batch: r.Batch})
	}
	count, sum := totalOf(kept)
	if m.Kind != impl.RkMark || m.Count != count || m.Sum != sum {
		return impl.Hint{}, false
	}
	return h, true
}

// rightHints have all edges that are accepted.
func rightHints() []impl.Hint {
	top := impl.Entry{Key: "12345678", Seg: impl.MaxId, At: impl.MaxCap, Len: impl.MaxFrame + 10, Batch: impl.MaxBatch}
	least := impl.Entry{Key: "\x00", Seg: 1, Len: 1, Batch: 1}
	l := []impl.Hint{
		{}, {List: []impl.Entry{}}, hint(1, 0), hint(0, 1), hint(127, 128), hint(128, 127), hint(impl.MaxCap, 0), hint(0, impl.MaxBatch), hint(impl.MaxCap, impl.MaxBatch), hint(impl.MaxCap-1, impl.MaxBatch-1),
		hint(0, 0, least), hint(impl.MaxCap, impl.MaxBatch, top), hint(0, 0, top), hint(impl.MaxCap, impl.MaxBatch, least),
		hint(23, 7, impl.Entry{Key: "x", Seg: 4, Len: 11, Batch: 2}),
	}
	for _, dir := range someDirs() {
		for _, seg := range []int{1, 127, 128, impl.MaxId - 1, impl.MaxId} {
			l = append(l, hint(300, 16384, ofSeg(seg, dir)...))
		}
	}
	far := ofSeg(5, entries(rowKeys(impl.MaxKeys)...))
	for i := range far {
		far[i].At = impl.MaxCap - i
	}
	return append(l, hint(5, 5, far...))
}

// wrongHints hold in their fields and lists one thing each that is not right.
func wrongHints() []impl.Hint {
	ab := ofSeg(3, entries("a", "b"))
	var l []impl.Hint
	for _, list := range [][]impl.Entry{nil, ab[:1], ab} {
		for _, n := range []int{math.MinInt, -1 << 32, -2, -1, 1 << 49, 1 << 56, math.MaxInt} {
			l = append(l, hint(n, 7, list...), hint(7, n, list...))
		}
		l = append(l, hint(impl.MaxCap+1, 7, list...), hint(impl.MaxBatch, 7, list...), hint(7, impl.MaxBatch+1, list...), hint(1<<32, 7, list...), hint(7, 1<<32, list...))
	}
	for _, dir := range noDirs() {
		l = append(l, hint(7, 7, dir...))
	}
	for _, keys := range [][]string{{"a", "a"}, {"b", "a"}, {"a", "b", "b"}, {"a", "c", "b"}, {"", "a"}, {"a", "123456789"}, rowKeys(impl.MaxKeys + 1), rowKeys(3 * impl.MaxKeys)} {
		l = append(l, hint(7, 7, ofSeg(3, entries(keys...))...))
	}
	for _, n := range []int{2, 3, impl.MaxKeys} {
		for at := range n {
			list := ofSeg(3, entries(rowKeys(n)...))
			list[at].Seg = 4
			l = append(l, hint(7, 7, list...))
		}
		l = append(l, hint(7, 7, entries(rowKeys(n)...)...))
	}
	return l
}

// fewHints are some, for what goes through each byte of a text.
func fewHints() []impl.Hint {
	return []impl.Hint{
		{}, hint(300, 77),
		hint(23, 7, impl.Entry{Key: "x", Seg: 4, Len: 11, Batch: 2}),
		hint(impl.MaxCap, impl.MaxBatch, impl.Entry{Key: "\x80\xff", Seg: impl.MaxId, At: impl.MaxCap, Len: impl.MaxFrame + 10, Batch: impl.MaxBatch}),
		hint(128, 200, ofSeg(127, entries("a", "b", "k\x00", "ü"))...),
		hint(9999, 21, ofSeg(128, entries(rowKeys(impl.MaxKeys)...))...),
	}
}

func checkReadHint(t *testing.T, s string) {
	t.Helper()
	got, ok := impl.ReadHint(s)
	want, wantOk := slowReadHint(s)
	if !sameHint(got, want) || ok != wantOk {
		t.Fatalf("ReadHint(%.80q) = %.300v, %v, want %.300v, %v", s, got, ok, want, wantOk)
	}
	if ok && impl.ShowHint(got) != s {
		t.Fatalf("ReadHint takes %.80q, and ShowHint makes %.80q", s, impl.ShowHint(got))
	}
}

func checkNoHint(t *testing.T, s string) {
	t.Helper()
	if h, ok := impl.ReadHint(s); !sameHint(h, impl.Hint{}) || ok {
		t.Errorf("ReadHint(%.80q) = %.300v, %v, want none", s, h, ok)
	}
}

func TestShowHintMakes(t *testing.T) {
	for _, c := range []struct {
		h    impl.Hint
		want string
	}{
		{impl.Hint{}, "\x00\x00\x00"},
		{hint(12, 3), "\x0c\x03\x00"},
		{hint(23, 7, impl.Entry{Key: "x", Seg: 4, Len: 11, Batch: 2}), "\x17\x07\x01\x01x\x04\x00\x0b\x02"},
		{hint(300, 128, impl.Entry{Key: "a", Seg: 127, At: 5, Len: 6, Batch: 7}, impl.Entry{Key: "bc", Seg: 127, At: 128, Len: 129, Batch: 130}), "\xac\x02\x80\x01\x02\x01a\x7f\x05\x06\x07\x02bc\x7f\x80\x01\x81\x01\x82\x01"},
		{hint(100000, 1000000, impl.Entry{Key: "12345678", Seg: 100000, At: 100000, Len: 210, Batch: 1000000}), "\xa0\x8d\x06\xc0\x84\x3d\x01\x0812345678\xa0\x8d\x06\xa0\x8d\x06\xd2\x01\xc0\x84\x3d"},
	} {
		if s := impl.ShowHint(c.h); s != summed(c.want) {
			t.Errorf("ShowHint(%v) = %q, want %q behind its sum", c.h, s, c.want)
		}
		if h, ok := impl.ReadHint(summed(c.want)); !ok || !sameHint(h, c.h) {
			t.Errorf("ReadHint(%q) = %v, %v, want %v", summed(c.want), h, ok, c.h)
		}
	}
}

func TestHintsAreReadBack(t *testing.T) {
	from := map[string]impl.Hint{}
	for _, h := range append(rightHints(), fewHints()...) {
		s := impl.ShowHint(h)
		if s == "" || s != slowShowHint(h) {
			t.Errorf("ShowHint(%.300v) = %.80q, want %.80q", h, s, slowShowHint(h))
		}
		if other, has := from[s]; has && !sameHint(other, h) {
			t.Errorf("%.300v and %.300v have one text", other, h)
		}
		from[s] = h
		if got, ok := impl.ReadHint(s); !ok || !sameHint(got, h) {
			t.Errorf("ReadHint of %.300v = %.300v, %v", h, got, ok)
		}
	}
}

// TestWrongHintsHaveNoText has the texts that they would have, with the sums
// that are right of these.
func TestWrongHintsHaveNoText(t *testing.T) {
	for _, h := range wrongHints() {
		if s := impl.ShowHint(h); s != "" || slowHintOk(h) {
			t.Errorf("ShowHint(%.300v) = %.80q", h, s)
		}
		checkNoHint(t, summed(insideOf(h)))
	}
}

// checkOneHint holds ShowHint and ReadHint of any hint, right or not, against
// the chapter's words.
func checkOneHint(t *testing.T, what string, h impl.Hint) {
	t.Helper()
	want := slowShowHint(h)
	if s := impl.ShowHint(h); s != want {
		t.Errorf("%s: ShowHint(%.300v) = %.80q, want %.80q", what, h, s, want)
	}
	got, ok := impl.ReadHint(summed(insideOf(h)))
	if ok != (want != "") || ok && !sameHint(got, h) || !ok && !sameHint(got, impl.Hint{}) {
		t.Errorf("%s: ReadHint of the text of %.300v = %.300v, %v", what, h, got, ok)
	}
}

func TestHintByItsNumbers(t *testing.T) {
	for n, want := range map[int][2]bool{
		math.MinInt: {}, -1: {}, 0: {true, true}, 1: {true, true}, impl.MaxCap - 1: {true, true}, impl.MaxCap: {true, true}, impl.MaxCap + 1: {false, true},
		impl.MaxBatch - 1: {false, true}, impl.MaxBatch: {false, true}, impl.MaxBatch + 1: {}, 1 << 32: {}, impl.MaxVar: {}, impl.MaxVar + 1: {}, math.MaxInt: {},
	} {
		for _, keys := range [][]string{nil, {"a"}, {"a", "b"}, rowKeys(impl.MaxKeys)} {
			list := ofSeg(2, entries(keys...))
			for i, h := range []impl.Hint{hint(n, 3, list...), hint(3, n, list...)} {
				if got := impl.ShowHint(h) != ""; got != want[i] {
					t.Errorf("of %d entries, with number %d %d: a text is %v", len(keys), i, n, got)
				}
				checkOneHint(t, "by a number", h)
			}
		}
	}
	for n := range 3 * impl.MaxKeys {
		h := hint(9, 9, ofSeg(2, entries(rowKeys(n)...))...)
		if got := impl.ShowHint(h) != ""; got != (n <= impl.MaxKeys) {
			t.Errorf("of %d entries there is a text: %v", n, got)
		}
		checkOneHint(t, "by how many", h)
	}
}

// TestHintWithOneOff has in each place of the list an entry of which one field
// is at an edge.
func TestHintWithOneOff(t *testing.T) {
	for _, n := range []int{1, 2, 3, impl.MaxKeys - 1, impl.MaxKeys} {
		for at := range n {
			for name, change := range dirChanges() {
				list := ofSeg(6, entries(rowKeys(n)...))
				right := change(&list[at]) && list[at].At <= impl.MaxCap && (n == 1 || list[at].Seg == 6)
				h := hint(7, 7, list...)
				if got := impl.ShowHint(h) != ""; got != right {
					t.Errorf("of %d entries, of number %d %s: a text is %v", n, at, name, got)
				}
				checkOneHint(t, name, h)
			}
		}
	}
}

// TestHintsOfAnyList has small lists of all orders and keys, each in one
// segment and in those that its entries say.
func TestHintsOfAnyList(t *testing.T) {
	for _, l := range smallLists() {
		checkOneHint(t, "one segment", hint(1, 2, ofSeg(9, l)...))
		checkOneHint(t, "any segment", hint(1, 2, l...))
	}
	for _, e := range oddEntries() {
		checkOneHint(t, "alone", hint(1, 2, e))
		checkOneHint(t, "behind another", hint(1, 2, impl.Entry{Key: "a", Seg: e.Seg, Len: 1, Batch: 1}, e))
	}
}

func TestReadHintRefusesWhatIsCut(t *testing.T) {
	for _, h := range fewHints() {
		s, inside := impl.ShowHint(h), insideOf(h)
		for n := range len(s) {
			checkNoHint(t, s[:n])
			checkNoHint(t, s[n+1:])
			checkReadHint(t, s[:n]+s[n+1:])
		}
		for n := range len(inside) {
			checkNoHint(t, summed(inside[:n]))
			checkReadHint(t, summed(inside[n+1:]))
			checkReadHint(t, summed(inside[:n]+inside[n+1:]))
		}
		checkReadHint(t, inside)
		checkReadHint(t, slowFrame(inside))
	}
	checkNoHint(t, "")
	checkNoHint(t, summed(""))
}

func TestReadHintRefusesWhatIsBehind(t *testing.T) {
	for _, h := range fewHints() {
		s, inside := impl.ShowHint(h), insideOf(h)
		for b := range 256 {
			more := string([]byte{byte(b)})
			checkNoHint(t, s+more)
			checkNoHint(t, more+s)
			checkNoHint(t, summed(inside+more))
			checkReadHint(t, summed(more+inside))
		}
		for at := range len(s) {
			checkReadHint(t, s[:at]+"\x00"+s[at:])
			checkReadHint(t, s[:at]+"\x01"+s[at:])
		}
		checkNoHint(t, s+s)
		checkNoHint(t, summed(inside+inside))
		checkNoHint(t, s+strings.Repeat("\x00", 1<<20))
		checkNoHint(t, summed(s))
	}
}

func TestReadHintOfTurnedTexts(t *testing.T) {
	for _, h := range fewHints() {
		s, inside := impl.ShowHint(h), insideOf(h)
		for at := range len(s) {
			for turn := 1; turn < 256; turn++ {
				checkNoHint(t, turned(s, at, string([]byte{byte(turn)})))
			}
		}
		// With a sum that is right again, some of these are hints.
		for at := range len(inside) {
			for turn := 1; turn < 256; turn++ {
				if bits := len(inside) > 60 && turn&(turn-1) != 0; bits {
					continue
				}
				checkReadHint(t, summed(turned(inside, at, string([]byte{byte(turn)}))))
			}
		}
	}
}

func TestReadHintRefusesLongerNumbers(t *testing.T) {
	for _, h := range fewHints() {
		parts, numbers := hintParts(h)
		for at, n := range numbers {
			if s := summed(withPart(parts, at, impl.Var(n))); s != impl.ShowHint(h) {
				t.Fatalf("%.300v is not of the parts %.300q", h, parts)
			}
			for _, part := range longer(n) {
				checkNoHint(t, summed(withPart(parts, at, part)))
			}
		}
	}
}

// TestReadHintRefusesCounts tells of lists that there are more or less than
// follow, and of keys that they are longer or shorter.
func TestReadHintRefusesCounts(t *testing.T) {
	counts := []int{0, 1, 2, impl.MaxKeys, impl.MaxKeys + 1, 127, 128, 200, 1 << 32, impl.MaxCap, impl.MaxVar - 1, impl.MaxVar}
	for n := range impl.MaxKeys + 3 {
		h := hint(7, 7, ofSeg(2, entries(rowKeys(n)...))...)
		parts, _ := hintParts(h)
		for _, count := range append(slices.Clip(counts), n, n+1, n+2, max(0, n-1), 256+n, 1<<32+n) {
			s := summed(withPart(parts, 2, impl.Var(count)))
			if got, ok := impl.ReadHint(s); ok != (count == n && n <= impl.MaxKeys) || ok && !sameHint(got, h) {
				t.Errorf("ReadHint of %d entries told as %d = %.300v, %v", n, count, got, ok)
			}
		}
		for _, size := range append(slices.Clip(counts), 5, 7, 8, 9, 64, 1<<32+6) {
			if n > 0 {
				checkReadHint(t, summed(withPart(parts, 3, impl.Var(size))))
			}
		}
	}
	for _, s := range []string{"\x07\x07", "\x07\x07\x01", "\x07\x07\x14", "\x07\x07\x80", "\x07\x80", "\x80", "\x07\x07\x01\x01", "\x07\x07\x01\x01a", "\x07\x07\x01\x01a\x01\x00\x01", "\x07\x07\x01\x00\x01\x00\x01\x01", strings.Repeat("\xff", 99), strings.Repeat("\x01", 99)} {
		checkNoHint(t, summed(s))
	}
}

func TestReadHintRefusesOtherSums(t *testing.T) {
	for _, h := range fewHints() {
		s, inside := impl.ShowHint(h), insideOf(h)
		sum := slowSum(inside)
		for _, other := range []int{0, 1, topSum, topSum - sum, sum ^ 1, sum ^ 1<<31, sum>>8 | sum&255<<24, slowSum(s), slowSum(inside + "\x00")} {
			if other != sum {
				checkNoHint(t, impl.Fixed(other, 4)+inside)
			}
		}
		// The sum stands ahead, the highest byte first, in four bytes.
		checkNoHint(t, string([]byte{s[3], s[2], s[1], s[0]})+inside)
		checkNoHint(t, inside+s[:4])
		checkNoHint(t, impl.Fixed(sum, 5)+inside)
		checkNoHint(t, impl.Var(sum)+inside)
	}
}

func TestReadHintOfWhatIsNone(t *testing.T) {
	for _, s := range shortTexts() {
		checkNoHint(t, s)
		checkReadHint(t, summed(s))
		checkReadHint(t, summed(s+"\x00"))
	}
	for _, piece := range badPieces() {
		checkReadHint(t, piece)
	}
	for _, r := range fewRecs() {
		checkReadHint(t, logOf(r))
		checkReadHint(t, summed(slowShowRec(r)))
	}
	for _, v := range rightLives() {
		checkReadHint(t, impl.ShowLive(v))
	}
	for _, text := range sumTexts() {
		checkReadHint(t, text)
		checkReadHint(t, summed(text))
	}
	for _, letter := range []string{"\x00", "\x01", "\x80", "\xff", "x"} {
		checkNoHint(t, strings.Repeat(letter, 1<<20))
		checkNoHint(t, summed(strings.Repeat(letter, 1<<20)))
	}
}

// checkHintOf holds HintOf against the chapter's words, and, where there is a
// hint, promise 10.
func checkHintOf(t *testing.T, what string, id int, text string) bool {
	t.Helper()
	got, ok := impl.HintOf(id, text)
	want, wantOk := slowHintOf(id, text)
	if !sameHint(got, want) || ok != wantOk {
		t.Fatalf("%s: HintOf(%d, %.300q) = %.300v, %v, want %.300v, %v", what, id, text, got, ok, want, wantOk)
	}
	if fits := impl.HintFits(id, text, want); fits != wantOk {
		t.Fatalf("%s: HintFits(%d, %.300q, %.300v) = %v", what, id, text, want, fits)
	}
	if ok {
		checkHintPromise(t, id, text, got)
	}
	return ok
}

// checkHintPromise: a hint says what Regroup of the records says, and still
// says so when it was shown and read back.
func checkHintPromise(t *testing.T, id int, text string, h impl.Hint) {
	t.Helper()
	l := segPlaces(id, text)
	g := impl.Regroup(impl.Group{}, l)
	if g.Code != impl.GrOk || g.Last != h.Mark || !impl.SameDir(g.Dir, h.List) || h.Size != len(text) {
		t.Fatalf("the hint of %.300q is %.300v, and Regroup tells %.300v", text, h, g)
	}
	back, ok := impl.ReadHint(impl.ShowHint(h))
	if !ok || !sameHint(back, h) || !impl.HintFits(id, text, back) {
		t.Fatalf("the hint %.300v is read back as %.300v, %v", h, back, ok)
	}
	for _, e := range h.List {
		if r, ok := impl.RecAt(text, e.At, e.Len); !ok || r.Key != e.Key || r.Batch != e.Batch || e.Seg != id {
			t.Fatalf("of %.300q the hint has the entry %v, and there stands %v", text, e, r)
		}
	}
}

// segPlaces are the records of a segment, each with its place.
func segPlaces(id int, text string) []impl.Place {
	var l []impl.Place
	spots, _ := impl.ScanRecs(text)
	for _, spot := range spots {
		l = append(l, impl.Place{Seg: id, At: spot.At, Len: spot.Len, Rec: spot.Rec})
	}
	return l
}

func mergedText(batch int, kept ...impl.Rec) string {
	return logOf(marked(batch, kept...)...)
}

func TestHintOfAMergedSegment(t *testing.T) {
	text := mergedText(300, keep(2, "a", "v"), keep(300, "b", ""), keep(128, "key", "value"))
	want := hint(len(text), 300,
		impl.Entry{Key: "a", Seg: 7, At: 0, Len: 11, Batch: 2},
		impl.Entry{Key: "b", Seg: 7, At: 11, Len: 11, Batch: 300},
		impl.Entry{Key: "key", Seg: 7, At: 22, Len: 18, Batch: 128})
	if h, ok := impl.HintOf(7, text); !ok || !sameHint(h, want) || h.Size != 53 {
		t.Errorf("HintOf(7, %q) = %v, %v, want %v", text, h, ok, want)
	}
	if h, ok := impl.HintOf(1, mergedText(0)); !ok || !sameHint(h, hint(12, 0)) {
		t.Errorf("HintOf of a mark alone = %v, %v", h, ok)
	}
	for n := range impl.MaxKeys + 3 {
		for _, batch := range []int{1, 127, 128, impl.MaxBatch} {
			text := mergedText(batch, keepsOf(batch, rowKeys(n)...)...)
			for _, id := range []int{1, 2, 127, 128, impl.MaxId} {
				if ok := checkHintOf(t, "some keys", id, text); ok != (n <= impl.MaxKeys) {
					t.Errorf("HintOf of %d keys of batch %d: %v", n, batch, ok)
				}
			}
		}
	}
}

func TestHintOfIds(t *testing.T) {
	for _, text := range []string{mergedText(0), mergedText(9, keep(2, "a", "v")), mergedText(9, keepsOf(3, rowKeys(impl.MaxKeys)...)...)} {
		for id, want := range map[int]bool{math.MinInt: false, -1 << 32: false, -impl.MaxId: false, -1: false, 0: false, 1: true, 2: true, impl.MaxId - 1: true, impl.MaxId: true, impl.MaxId + 1: false, 1<<32 + 1: false, math.MaxInt: false} {
			if ok := checkHintOf(t, "an id", id, text); ok != want {
				t.Errorf("HintOf of segment %d: %v", id, ok)
			}
			if impl.HintFits(id, text, impl.Hint{}) {
				t.Errorf("the zero hint fits segment %d", id)
			}
		}
	}
}

type hintCase struct {
	name string
	recs []impl.Rec
	want bool
}

func checkHintCases(t *testing.T, cases []hintCase) {
	t.Helper()
	for _, c := range cases {
		if ok := checkHintOf(t, c.name, 7, logOf(c.recs...)); ok != c.want {
			t.Errorf("%s: HintOf says %v", c.name, ok)
		}
	}
}

func TestHintOfMarks(t *testing.T) {
	a, b := keep(2, "a", "v"), keep(3, "b", "w")
	both := markOf(7, a, b)
	checkHintCases(t, []hintCase{
		{"no record", nil, false},
		{"one kept", marked(7, a), true},
		{"two kept", marked(7, a, b), true},
		{"no mark", []impl.Rec{a, b}, false},
		{"one kept and no mark", []impl.Rec{a}, false},
		{"a mark that is the first", []impl.Rec{both, a, b}, false},
		{"a mark that is not the last", []impl.Rec{a, markOf(7, a), b}, false},
		{"a mark that is not the last, of all", []impl.Rec{a, both, b}, false},
		{"two marks", []impl.Rec{a, b, both, both}, false},
		{"two marks, each with its own", inRow(marked(7, a), marked(7, b)), false},
		{"two marks, the second of nothing", inRow(marked(7, a, b), marked(7)), false},
		{"two marks, the first of nothing", inRow(marked(7), marked(7, a, b)), false},
		{"two marks of nothing", inRow(marked(7), marked(7)), false},
		{"a mark alone", marked(7), true},
		{"a mark alone, of batch 0", marked(0), true},
		{"a mark alone, of MaxBatch", marked(impl.MaxBatch), true},
		{"a mark alone with Count 1", []impl.Rec{mark(7, 1, 0)}, false},
		{"a mark alone with Count MaxKeys", []impl.Rec{mark(7, impl.MaxKeys, 0)}, false},
		{"a mark alone with Sum 1", []impl.Rec{mark(7, 0, 1)}, false},
		{"a mark alone with the total of one", []impl.Rec{markOf(7, a)}, false},
		{"Count one less", []impl.Rec{a, b, oddTotal(both, -1, 0)}, false},
		{"Count one more", []impl.Rec{a, b, oddTotal(both, 1, 0)}, false},
		{"Count 0", []impl.Rec{a, b, oddTotal(both, -2, 0)}, false},
		{"Sum one less", []impl.Rec{a, b, oddTotal(both, 0, -1)}, false},
		{"Sum one more", []impl.Rec{a, b, oddTotal(both, 0, 1)}, false},
		{"Sum 0", []impl.Rec{a, b, mark(7, 2, 0)}, false},
		{"Count and Sum 0", []impl.Rec{a, b, mark(7, 0, 0)}, false},
		{"the total of the other order", []impl.Rec{a, b, markOf(7, b, a)}, false},
		{"the total of the first", []impl.Rec{a, b, markOf(7, a)}, false},
		{"the total of the last", []impl.Rec{a, b, markOf(7, b)}, false},
		{"the total of another value", []impl.Rec{a, markOf(7, keep(2, "a", "w"))}, false},
		{"the total of another batch", []impl.Rec{a, markOf(7, keep(1, "a", "v"))}, false},
		{"the total of a put", []impl.Rec{a, markOf(7, put(2, "a", "v"))}, false},
	})
}

func TestHintOfOtherKinds(t *testing.T) {
	a, b, c := keep(2, "a", "v"), keep(3, "b", "w"), keep(4, "c", "x")
	cases := []hintCase{
		{"a batch and nothing kept", sealed(1, put(1, "a", "v")), false},
		{"a batch and a mark of nothing", inRow(sealed(1, put(1, "a", "v")), marked(7)), false},
		{"puts and the mark of their keeps", []impl.Rec{put(2, "a", "v"), markOf(7, a)}, false},
		{"puts and their mark", marked(7, put(2, "a", "v")), false},
		{"keeps and their seal", []impl.Rec{a, sealOf(7, a)}, false},
		{"a seal in the place of the mark", []impl.Rec{a, b, seal(7, 2, markOf(7, a, b).Sum)}, false},
	}
	for _, other := range []impl.Rec{put(2, "bb", "v"), put(1, "bb", ""), del(2, "bb"), seal(2, 0, 0), seal(2, 1, 5), mark(7, 0, 0), mark(0, 0, 0), markOf(7, a), {}, {Kind: 6, Batch: 2, Key: "bb"}} {
		row := []impl.Rec{a, b, c, markOf(7, a, b, c)}
		for at := range len(row) + 1 {
			cases = append(cases, hintCase{fmt.Sprintf("%v in the place %d", other, at), slices.Insert(slices.Clone(row), at, other), false})
		}
		for at := range row {
			with := slices.Clone(row)
			with[at] = other
			cases = append(cases, hintCase{fmt.Sprintf("%v for the record %d", other, at), with, false})
		}
	}
	checkHintCases(t, cases)
}

func TestHintOfKeys(t *testing.T) {
	for _, c := range []struct {
		keys []string
		want bool
	}{
		{[]string{"a", "b", "c"}, true}, {[]string{"b", "a"}, false}, {[]string{"a", "c", "b"}, false}, {[]string{"b", "a", "c"}, false}, {[]string{"c", "b", "a"}, false},
		{[]string{"a", "a"}, false}, {[]string{"a", "a", "b"}, false}, {[]string{"a", "b", "b"}, false}, {[]string{"a", "b", "a"}, false}, {[]string{"b", "a", "b"}, false},
		{[]string{"a", "aa", "aaa", "ab"}, true}, {[]string{"aa", "a"}, false}, {[]string{"1", "10", "2"}, true}, {[]string{"2", "10"}, false},
		{[]string{"A", "a"}, true}, {[]string{"a", "A"}, false}, {[]string{"\x00", "\x00\x00", "\x7f", "\x80", "\xff"}, true}, {[]string{"\xff", "a"}, false}, {[]string{"z", "é"}, true}, {[]string{"é", "z"}, false},
		{[]string{"12345678"}, true}, {[]string{"123456789"}, false}, {[]string{""}, false},
	} {
		if ok := checkHintOf(t, "keys", 7, mergedText(7, keepsOf(2, c.keys...)...)); ok != c.want {
			t.Errorf("HintOf of the keys %q: %v", c.keys, ok)
		}
	}
	for _, n := range []int{2, 3, impl.MaxKeys} {
		for at := range n {
			for from := range n {
				keys := rowKeys(n)
				keys[at] = keys[from]
				if ok := checkHintOf(t, "a key twice", 7, mergedText(7, keepsOf(2, keys...)...)); ok != (at == from) {
					t.Errorf("HintOf of the keys %q: %v", keys, ok)
				}
				keys = rowKeys(n)
				keys[at], keys[from] = keys[from], keys[at]
				if ok := checkHintOf(t, "keys exchanged", 7, mergedText(7, keepsOf(2, keys...)...)); ok != (at == from) {
					t.Errorf("HintOf of the keys %q: %v", keys, ok)
				}
			}
		}
	}
	// The same record twice is the same key twice.
	a := keep(2, "a", "v")
	checkHintCases(t, []hintCase{{"the same record twice", marked(7, a, a), false}, {"the same record twice, told once", []impl.Rec{a, a, markOf(7, a)}, false}})
}

// TestHintOfBatches has in each place a record whose batch is near that of the
// mark.
func TestHintOfBatches(t *testing.T) {
	for _, batch := range []int{0, 1, 2, 127, 128, impl.MaxBatch - 1, impl.MaxBatch} {
		for _, n := range []int{1, 2, 3, impl.MaxKeys} {
			for at := range n {
				for _, other := range []int{1, batch - 1, batch, batch + 1, impl.MaxBatch} {
					kept := keepsOf(1, rowKeys(n)...)
					kept[at].Batch = other
					want := within(other, 1, batch) && batch >= 1
					if ok := checkHintOf(t, "batches", 7, mergedText(batch, kept...)); ok != want {
						t.Errorf("HintOf of %d records, number %d of batch %d, the mark of %d: %v", n, at, other, batch, ok)
					}
				}
			}
		}
	}
}

func TestHintOfWhatIsCutOrTurned(t *testing.T) {
	for _, text := range []string{mergedText(0), mergedText(9, keep(2, "a", "v")), mergedText(300, keep(2, "a", ""), keep(300, "b", "value"), keep(9, "c", mergedText(9)))} {
		checkHintOf(t, "whole", 7, text)
		for n := range len(text) {
			if checkHintOf(t, "cut", 7, text[:n]) {
				t.Errorf("HintOf of %q, cut to %d, is true", text, n)
			}
			checkHintOf(t, "cut ahead", 7, text[n+1:])
			checkHintOf(t, "a byte out", 7, text[:n]+text[n+1:])
			checkHintOf(t, "a byte in", 7, text[:n]+"\x00"+text[n:])
			for turn := 1; turn < 256; turn++ {
				s := turned(text, n, string([]byte{byte(turn)}))
				if h, ok := impl.HintOf(7, s); ok || !sameHint(h, impl.Hint{}) || impl.HintFits(7, s, impl.Hint{}) {
					t.Fatalf("HintOf of %q, turned at %d by %d: %v, %v", text, n, turn, h, ok)
				}
			}
		}
		for b := range 256 {
			more := string([]byte{byte(b)})
			for _, s := range []string{text + more, more + text, text + more + text} {
				if checkHintOf(t, "a byte more", 7, s) {
					t.Errorf("HintOf of %q is true", s)
				}
			}
		}
		if checkHintOf(t, "twice", 7, text+text) || checkHintOf(t, "a frame in a frame", 7, slowFrame(text)) {
			t.Errorf("HintOf of %q twice, or in a frame, is true", text)
		}
	}
}

func TestHintOfWhatIsBad(t *testing.T) {
	recs := marked(9, keep(2, "a", "v"), keep(9, "b", ""))
	for name, bad := range badPieces() {
		for n := range len(recs) + 1 {
			if checkHintOf(t, name, 7, logOf(recs[:n]...)+bad+logOf(recs[n:]...)) || checkHintOf(t, name, 7, logOf(recs[:n]...)+bad) {
				t.Errorf("%s behind %d: HintOf is true", name, n)
			}
		}
	}
	for _, s := range shortTexts() {
		if h, ok := impl.HintOf(7, s); ok || !sameHint(h, impl.Hint{}) {
			t.Fatalf("HintOf(7, %q) = %v, %v", s, h, ok)
		}
	}
	for _, letter := range []string{"\x00", "\x01", "\x80", "\xff", "x"} {
		for _, ahead := range []string{"", logOf(recs...)} {
			if h, ok := impl.HintOf(7, ahead+strings.Repeat(letter, 1<<20)); ok || !sameHint(h, impl.Hint{}) {
				t.Errorf("HintOf of many bytes %q = %v, %v", letter, h, ok)
			}
		}
	}
}

// TestHintOfALongLog is of logs that are longer than any merge.
func TestHintOfALongLog(t *testing.T) {
	a := keep(2, "a", "v")
	one := logOf(a)
	long := strings.Repeat(one, impl.MaxCap)
	for _, s := range []string{long, long + logOf(markOf(7, a)), long + logOf(mark(7, impl.MaxKeys, 0)), long + logOf(mark(7, 0, 0)), strings.Repeat(mergedText(7), impl.MaxCap), strings.Repeat(mergedText(7, a), impl.MaxCap)} {
		if h, ok := impl.HintOf(7, s); ok || !sameHint(h, impl.Hint{}) || impl.HintFits(7, s, impl.Hint{Size: len(s), Mark: 7}) {
			t.Errorf("HintOf of %d bytes = %v, %v", len(s), h, ok)
		}
	}
}

// hintSteps are what the rows of records below are made of.
func hintSteps() []nextRec {
	return []nextRec{
		endRec(impl.RkMark, 3, 0, 0), endRec(impl.RkMark, 2, 0, 0), endRec(impl.RkMark, 0, 0, 0), endRec(impl.RkMark, 3, 1, 0), endRec(impl.RkMark, 3, 0, 1), endRec(impl.RkSeal, 1, 0, 0),
		fixedRec(keep(1, "a", "v")), fixedRec(keep(2, "b", "")), fixedRec(keep(3, "c", "w")), fixedRec(keep(4, "d", "x")), fixedRec(put(1, "e", "v")), fixedRec(del(1, "f")),
	}
}

// TestHintsOfAllRows asks all rows of a few records which of them are merged
// segments.
func TestHintsOfAllRows(t *testing.T) {
	all, merged := 0, 0
	forAllRows(hintSteps(), 4, func(l []impl.Place) {
		text := ""
		for _, p := range l {
			text += slowFrame(slowShowRec(p.Rec))
		}
		all++
		if checkHintOf(t, "row", 1+all%impl.MaxId, text) {
			merged++
		}
	})
	// Of no key, one, two and three that rise, behind each the marks of which
	// the batch is not below theirs: 3, 2 + 2 + 1, 2 + 1 + 1 and 1.
	if want := 3 + 5 + 4 + 1; merged != want {
		t.Errorf("of %d rows %d are merged, want %d", all, merged, want)
	}
}

// fitCases are hints that differ from the segment's own one in one thing; a few
// of them, for short lists, in none.
func fitCases(id int, h impl.Hint) map[string]impl.Hint {
	l := map[string]impl.Hint{"the zero one": {}, "no entries": hint(h.Size, h.Mark)}
	with := func(name string, change func(h *impl.Hint)) {
		other := hint(h.Size, h.Mark, slices.Clone(h.List)...)
		change(&other)
		l[name] = other
	}
	for _, off := range []int{-1, 1, 1 << 32, math.MinInt} {
		with(fmt.Sprint("Size by ", off), func(h *impl.Hint) { h.Size += off })
		with(fmt.Sprint("Mark by ", off), func(h *impl.Hint) { h.Mark += off })
		for at := range h.List {
			with(fmt.Sprint("Seg ", at, off), func(h *impl.Hint) { h.List[at].Seg += off })
			with(fmt.Sprint("At ", at, off), func(h *impl.Hint) { h.List[at].At += off })
			with(fmt.Sprint("Len ", at, off), func(h *impl.Hint) { h.List[at].Len += off })
			with(fmt.Sprint("Batch ", at, off), func(h *impl.Hint) { h.List[at].Batch += off })
		}
	}
	with("another segment", func(h *impl.Hint) { h.List = ofSeg(id+1, h.List) })
	with("an entry more", func(h *impl.Hint) { h.List = append(h.List, impl.Entry{Key: "zz", Seg: id, Len: 11, Batch: 1}) })
	with("a zero entry more", func(h *impl.Hint) { h.List = append(h.List, impl.Entry{}) })
	with("an entry ahead", func(h *impl.Hint) {
		h.List = slices.Insert(h.List, 0, impl.Entry{Key: "\x00", Seg: id, Len: 11, Batch: 1})
	})
	for at := range h.List {
		with(fmt.Sprint("Key longer ", at), func(h *impl.Hint) { h.List[at].Key += "x" })
		with(fmt.Sprint("Key empty ", at), func(h *impl.Hint) { h.List[at].Key = "" })
		with(fmt.Sprint("without ", at), func(h *impl.Hint) { h.List = slices.Delete(h.List, at, at+1) })
		with(fmt.Sprint("twice ", at), func(h *impl.Hint) { h.List = slices.Insert(h.List, at, h.List[at]) })
		with(fmt.Sprint("first ", at), func(h *impl.Hint) { h.List[0], h.List[at] = h.List[at], h.List[0] })
		with(fmt.Sprint("up to ", at), func(h *impl.Hint) { h.List = h.List[:at] })
	}
	return l
}

func TestHintFits(t *testing.T) {
	for _, n := range []int{0, 1, 2, 3, impl.MaxKeys} {
		for _, id := range []int{1, 4, impl.MaxId - 1} {
			kept := keepsOf(2, rowKeys(n)...)
			text := mergedText(9, kept...)
			h, ok := slowHintOf(id, text)
			if !ok || !impl.HintFits(id, text, h) {
				t.Fatalf("the hint of %d keys does not fit: %v, %v", n, h, ok)
			}
			cases := fitCases(id, h)
			for _, name := range slices.Sorted(maps.Keys(cases)) {
				other := cases[name]
				if got := impl.HintFits(id, text, other); got != sameHint(other, h) {
					t.Errorf("of %d keys, %s: HintFits = %v", n, name, got)
				}
			}
			for _, otherId := range []int{id + 1, id - 1, -id, 0, id + 1<<32} {
				if got := impl.HintFits(otherId, text, h); got != (n == 0 && within(otherId, 1, impl.MaxId)) {
					t.Errorf("of %d keys: HintFits of %d with the hint of %d = %v", n, otherId, id, got)
				}
			}
			for _, other := range []string{"", text[:len(text)-1], text[1:], text + "x", text + text, mergedText(8, kept...), mergedText(9, append(slices.Clip(kept), keep(2, "z", "v"))...), logOf(kept...), turned(text, 0, "\x01")} {
				if impl.HintFits(id, other, h) || impl.HintFits(id, other, hint(len(other), 9, h.List...)) {
					t.Errorf("of %d keys: the hint fits %.80q", n, other)
				}
			}
		}
	}
}

func TestHintFitsWhatIsAlike(t *testing.T) {
	alone := mergedText(3)
	if !impl.HintFits(4, alone, impl.Hint{Size: len(alone), Mark: 3}) || !impl.HintFits(4, alone, impl.Hint{Size: len(alone), Mark: 3, List: []impl.Entry{}}) {
		t.Error("nil and an empty list are not alike")
	}
	// A hint has no values: with others as long it is the hint as well.
	a, b := mergedText(3, keep(2, "a", "v")), mergedText(3, keep(2, "a", "w"))
	h, _ := impl.HintOf(4, a)
	if !impl.HintFits(4, b, h) {
		t.Errorf("the hint %v of %q does not fit %q", h, a, b)
	}
	for name, c := range map[string]struct {
		id   int
		text string
	}{
		"the empty text":          {1, ""},
		"no mark":                 {1, logOf(keep(1, "a", ""))},
		"a mark with another sum": {1, logOf(mark(0, 0, 1))},
		"segment 0":               {0, mergedText(0)},
		"segment MaxId + 1":       {impl.MaxId + 1, mergedText(0)},
		"a cut mark":              {1, mergedText(0)[:11]},
	} {
		for _, h := range append(fewHints(), impl.Hint{}, impl.Hint{List: []impl.Entry{}}, hint(len(c.text), 0), hint(len(c.text), 1)) {
			if impl.HintFits(c.id, c.text, h) {
				t.Errorf("%s: the hint %.300v fits", name, h)
			}
		}
	}
}

// TestHintPromise merges what Regroup tells of long rows of batches, and goes
// on behind the merge by the hint and by the records.
func TestHintPromise(t *testing.T) {
	merges := 0
	for seed := 1; seed <= 40; seed++ {
		for _, keyCount := range []int{1, 3, 10, 20, 25} {
			g := impl.Regroup(impl.Group{}, longRow(60, keyCount, seed))
			if len(g.Dir) > impl.MaxKeys {
				continue
			}
			var kept []impl.Rec
			for i, e := range g.Dir {
				kept = append(kept, keep(e.Batch, e.Key, strings.Repeat("v", i)))
			}
			text := mergedText(g.Last, kept...)
			if !checkHintOf(t, "merged", seed, text) {
				t.Fatalf("HintOf of the merge of %v is false", g)
			}
			h, _ := impl.HintOf(seed, text)
			later := longRow(40, keyCount, seed+100)
			all := append(segPlaces(seed, text), later...)
			checkRegroup(t, "behind a hint", impl.Group{Dir: h.List, Last: h.Mark}, later, impl.Regroup(impl.Group{}, all))
			merges++
		}
	}
	if merges < 100 {
		t.Errorf("only %d merges", merges)
	}
}

func TestHintsAreLeftAlone(t *testing.T) {
	text := mergedText(9, keep(2, "a", "v"), keep(9, "b", ""))
	own, _ := slowHintOf(4, text)
	for _, h := range slices.Concat(rightHints(), wrongHints(), fewHints(), []impl.Hint{own}) {
		handed, whole := roomyDir(h.List)
		kept := slices.Clone(whole)
		given := impl.Hint{Size: h.Size, Mark: h.Mark, List: handed}
		shown := impl.ShowHint(given)
		impl.HintFits(4, text, given)
		if !slices.Equal(whole, kept) || !sameHint(given, h) {
			t.Fatalf("%.300v: what was handed in is another: %.300v", kept, whole)
		}
		if again := impl.ShowHint(given); again != shown || impl.HintFits(4, text, given) != sameHint(h, own) {
			t.Fatalf("%.300v: asked again it is told as %.80q", h, again)
		}
	}
}

func TestHintsAreNewMemory(t *testing.T) {
	overwriteList := func(h impl.Hint) {
		all := h.List[:cap(h.List)]
		for i := range all {
			all[i] = entry("written", 9)
		}
	}
	for n := range impl.MaxKeys + 1 {
		text := mergedText(9, keepsOf(2, rowKeys(n)...)...)
		want, _ := slowHintOf(4, text)
		first, _ := impl.HintOf(4, text)
		second, _ := impl.HintOf(4, text)
		overwriteList(first)
		if third, _ := impl.HintOf(4, text); !sameHint(second, want) || !sameHint(third, want) || !impl.HintFits(4, text, want) {
			t.Errorf("answers of HintOf share memory: %.300v, %.300v", second, third)
		}
		s := impl.ShowHint(want)
		first, _ = impl.ReadHint(s)
		second, _ = impl.ReadHint(s)
		overwriteList(first)
		if third, _ := impl.ReadHint(s); !sameHint(second, want) || !sameHint(third, want) {
			t.Errorf("answers of ReadHint share memory: %.300v, %.300v", second, third)
		}
	}
}
