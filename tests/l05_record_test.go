package tests

import (
	"encoding/binary"
	"math"
	"strings"
	"testing"

	"loop.example/g01397/impl"
)

const topSum = 4294967295

// recKinds are the five, and others beside and far from them.
var recKinds = []int{
	impl.RkPut, impl.RkDel, impl.RkSeal, impl.RkKeep, impl.RkMark,
	0, 6, 7, -1, -impl.RkPut, 129, 257, math.MinInt, math.MaxInt,
}

func put(batch int, key, value string) impl.Rec {
	return impl.Rec{Kind: impl.RkPut, Batch: batch, Key: key, Value: value}
}

func del(batch int, key string) impl.Rec {
	return impl.Rec{Kind: impl.RkDel, Batch: batch, Key: key}
}

func seal(batch, count, sum int) impl.Rec {
	return impl.Rec{Kind: impl.RkSeal, Batch: batch, Count: count, Sum: sum}
}

func keep(batch int, key, value string) impl.Rec {
	return impl.Rec{Kind: impl.RkKeep, Batch: batch, Key: key, Value: value}
}

func mark(batch, count, sum int) impl.Rec {
	return impl.Rec{Kind: impl.RkMark, Batch: batch, Count: count, Sum: sum}
}

// within says of a number whether it is from least to most.
func within(n, least, most int) bool {
	return least <= n && n <= most
}

// slowRecOk is a right record by the chapter's words.
func slowRecOk(r impl.Rec) bool {
	key := within(len(r.Key), 1, impl.MaxKey)
	value := len(r.Value) <= impl.MaxValue
	batch := within(r.Batch, 1, impl.MaxBatch)
	sum := within(r.Sum, 0, topSum)
	noTexts := r.Key == "" && r.Value == ""
	noNumbers := r.Count == 0 && r.Sum == 0
	switch r.Kind {
	case impl.RkPut, impl.RkKeep:
		return batch && key && value && noNumbers
	case impl.RkDel:
		return batch && key && r.Value == "" && noNumbers
	case impl.RkSeal:
		return batch && within(r.Count, 0, impl.MaxPuts) && sum && noTexts
	case impl.RkMark:
		return within(r.Batch, 0, impl.MaxBatch) && within(r.Count, 0, impl.MaxKeys) && sum && noTexts
	}
	return false
}

// slowShowRec is ShowRec by the chapter's words, with the library's numbers.
func slowShowRec(r impl.Rec) string {
	if !slowRecOk(r) {
		return ""
	}
	buf := binary.AppendUvarint(nil, uint64(r.Kind))
	buf = binary.AppendUvarint(buf, uint64(r.Batch))
	if r.Kind == impl.RkSeal || r.Kind == impl.RkMark {
		buf = binary.AppendUvarint(buf, uint64(r.Count))
		return string(binary.BigEndian.AppendUint32(buf, uint32(r.Sum)))
	}
	buf = append(binary.AppendUvarint(buf, uint64(len(r.Key))), r.Key...)
	if r.Kind == impl.RkPut || r.Kind == impl.RkKeep {
		buf = append(binary.AppendUvarint(buf, uint64(len(r.Value))), r.Value...)
	}
	return string(buf)
}

// looseNumber and looseText take what is at hand, and care for no edge.
func looseNumber(s string) (int, string) {
	n, size := binary.Uvarint([]byte(s))
	return int(n), s[max(0, size):]
}

func looseText(s string) (string, string) {
	n, s := looseNumber(s)
	n = max(0, min(n, len(s)))
	return s[:n], s[n:]
}

// slowReadRec guesses the one record that may have been meant, and asks
// whether that one is shown as this text.
func slowReadRec(s string) (impl.Rec, bool) {
	var r impl.Rec
	rest := s
	r.Kind, rest = looseNumber(rest)
	r.Batch, rest = looseNumber(rest)
	switch r.Kind {
	case impl.RkPut, impl.RkKeep:
		r.Key, rest = looseText(rest)
		r.Value, _ = looseText(rest)
	case impl.RkDel:
		r.Key, _ = looseText(rest)
	case impl.RkSeal, impl.RkMark:
		r.Count, rest = looseNumber(rest)
		r.Sum = int(binary.BigEndian.Uint32(append([]byte(rest), 0, 0, 0, 0)))
	}
	if s == "" || slowShowRec(r) != s {
		return impl.Rec{}, false
	}
	return r, true
}

func recKeys() []string {
	return []string{"a", "\x00", "\xff", "ab", "\x80\x80", "\x01\x02a", "é", strings.Repeat("k", impl.MaxKey-1), strings.Repeat("k", impl.MaxKey), "\x00\x01\x02\x03\x04\x05\x06\x07"}
}

func recValues() []string {
	return []string{"", "v", "\x00", "\xff", "\x00\x00", "\x80\x00", "two", strings.Repeat("v", impl.MaxValue-1), strings.Repeat("v", impl.MaxValue), strings.Repeat("\xff", impl.MaxValue)}
}

var recBatches = []int{1, 2, 127, 128, 300, 16383, 16384, impl.MaxBatch - 1, impl.MaxBatch}
var recSums = []int{0, 1, 127, 128, 255, 256, 258, 65536, 1 << 24, 1 << 31, topSum - 1, topSum}

// rightRecs are records of each kind, with all edges that are accepted.
func rightRecs() []impl.Rec {
	var l []impl.Rec
	for _, b := range recBatches {
		for _, k := range recKeys() {
			l = append(l, del(b, k))
			for _, v := range recValues() {
				l = append(l, put(b, k, v), keep(b, k, v))
			}
		}
	}
	for _, b := range append([]int{0}, recBatches...) {
		for _, sum := range recSums {
			for n := range impl.MaxKeys + 1 {
				if b > 0 && n <= impl.MaxPuts {
					l = append(l, seal(b, n, sum))
				}
				l = append(l, mark(b, n, sum))
			}
		}
	}
	return l
}

// fewRecs are some of each kind, for what goes through each byte of a text.
func fewRecs() []impl.Rec {
	return []impl.Rec{
		put(1, "a", ""),
		put(300, "k", "vw"),
		put(impl.MaxBatch, strings.Repeat("k", impl.MaxKey), strings.Repeat("v", impl.MaxValue)),
		del(1, "ab"),
		del(16384, strings.Repeat("\xff", impl.MaxKey)),
		seal(1, 0, 0),
		seal(128, 2, 258),
		seal(impl.MaxBatch, impl.MaxPuts, topSum),
		keep(1, "\x00", "\x00"),
		keep(127, "key", strings.Repeat("\x80", impl.MaxValue)),
		mark(0, 0, 0),
		mark(77, 9, 1<<31),
		mark(impl.MaxBatch, impl.MaxKeys, topSum),
	}
}

// checkRead holds what ReadRec tells of a text against the chapter's words.
func checkRead(t *testing.T, s string) {
	t.Helper()
	got, ok := impl.ReadRec(s)
	want, wantOk := slowReadRec(s)
	if got != want || ok != wantOk {
		t.Fatalf("ReadRec(%.80q) = %v, %v, want %v, %v", s, got, ok, want, wantOk)
	}
	if ok && (impl.ShowRec(got) != s || !impl.RecOk(got)) {
		t.Fatalf("ReadRec takes %.80q, and ShowRec makes %q", s, impl.ShowRec(got))
	}
}

func checkRefused(t *testing.T, s string) {
	t.Helper()
	if r, ok := impl.ReadRec(s); r != (impl.Rec{}) || ok {
		t.Errorf("ReadRec(%.80q) = %v, %v, want none", s, r, ok)
	}
}

func TestKeyOk(t *testing.T) {
	for n, want := range map[int]bool{0: false, 1: true, 2: true, impl.MaxKey - 1: true, impl.MaxKey: true, impl.MaxKey + 1: false, 127: false, 256: false, 257: false, 100000: false} {
		for _, letter := range []string{"a", "\x00", " ", "\x80", "\xff"} {
			if got := impl.KeyOk(strings.Repeat(letter, n)); got != want {
				t.Errorf("KeyOk of %d bytes %q = %v", n, letter, got)
			}
		}
	}
	// Bytes are counted, not letters.
	if !impl.KeyOk("éééé") || impl.KeyOk("ééééé") {
		t.Error("KeyOk of letters of two bytes")
	}
}

func TestShowRecMakes(t *testing.T) {
	for _, c := range []struct {
		r    impl.Rec
		want string
	}{
		{put(1, "a", ""), "\x01\x01\x01a\x00"},
		{put(300, "k", "vw"), "\x01\xac\x02\x01k\x02vw"},
		{put(127, "abcdefgh", "123456789012345678901234"), "\x01\x7f\x08abcdefgh\x18123456789012345678901234"},
		{del(1, "ab"), "\x02\x01\x02ab"},
		{del(impl.MaxBatch, "abcdefgh"), "\x02\xc0\x84\x3d\x08abcdefgh"},
		{seal(1, 2, 258), "\x03\x01\x02\x00\x00\x01\x02"},
		{seal(1, 0, 0), "\x03\x01\x00\x00\x00\x00\x00"},
		{seal(128, 8, topSum), "\x03\x80\x01\x08\xff\xff\xff\xff"},
		{keep(9, "k", "v"), "\x04\x09\x01k\x01v"},
		{keep(impl.MaxBatch, "\x00", "\x00"), "\x04\xc0\x84\x3d\x01\x00\x01\x00"},
		{mark(0, 0, 0), "\x05\x00\x00\x00\x00\x00\x00"},
		{mark(1, 20, 0x01020304), "\x05\x01\x14\x01\x02\x03\x04"},
		{mark(impl.MaxBatch, 20, topSum), "\x05\xc0\x84\x3d\x14\xff\xff\xff\xff"},
	} {
		if got := impl.ShowRec(c.r); got != c.want {
			t.Errorf("ShowRec(%v) = %q, want %q", c.r, got, c.want)
		}
		if got, ok := impl.ReadRec(c.want); got != c.r || !ok {
			t.Errorf("ReadRec(%q) = %v, %v, want %v", c.want, got, ok, c.r)
		}
	}
}

func TestRecsAreReadBack(t *testing.T) {
	from := map[string]impl.Rec{}
	for _, r := range rightRecs() {
		s := impl.ShowRec(r)
		if !impl.RecOk(r) || s == "" || s != slowShowRec(r) {
			t.Fatalf("ShowRec(%v) = %q, RecOk %v, want %q", r, s, impl.RecOk(r), slowShowRec(r))
		}
		if got, ok := impl.ReadRec(s); got != r || !ok {
			t.Fatalf("ReadRec(%q) = %v, %v, want %v", s, got, ok, r)
		}
		if other, has := from[s]; has {
			t.Fatalf("%v and %v have one text %q", other, r, s)
		}
		from[s] = r
	}
}

func TestRecEdges(t *testing.T) {
	for _, c := range []struct {
		name  string
		set   func(r *impl.Rec, n int)
		kinds []impl.Rec
		edges map[int]bool
	}{
		{
			"a key of bytes", func(r *impl.Rec, n int) { r.Key = strings.Repeat("k", n) },
			[]impl.Rec{put(1, "k", "v"), del(1, "k"), keep(1, "k", "v")},
			map[int]bool{0: false, 1: true, impl.MaxKey: true, impl.MaxKey + 1: false, 129: false, 256: false, 100000: false},
		}, {
			"a value of bytes", func(r *impl.Rec, n int) { r.Value = strings.Repeat("v", n) },
			[]impl.Rec{put(1, "k", "v"), keep(1, "k", "v")},
			map[int]bool{0: true, 1: true, impl.MaxValue: true, impl.MaxValue + 1: false, 128: false, 256: false, 100000: false},
		}, {
			"a batch", func(r *impl.Rec, n int) { r.Batch = n },
			[]impl.Rec{put(1, "k", "v"), del(1, "k"), seal(1, 1, 1), keep(1, "k", "v")},
			map[int]bool{math.MinInt: false, -1: false, 0: false, 1: true, impl.MaxBatch: true, impl.MaxBatch + 1: false, impl.MaxVar: false, impl.MaxVar + 1: false, math.MaxInt: false},
		}, {
			"a mark's batch", func(r *impl.Rec, n int) { r.Batch = n },
			[]impl.Rec{mark(1, 1, 1)},
			map[int]bool{math.MinInt: false, -1: false, 0: true, 1: true, impl.MaxBatch: true, impl.MaxBatch + 1: false, impl.MaxVar: false, impl.MaxVar + 1: false, math.MaxInt: false},
		}, {
			"a seal's count", func(r *impl.Rec, n int) { r.Count = n },
			[]impl.Rec{seal(1, 1, 1)},
			map[int]bool{math.MinInt: false, -1: false, 0: true, impl.MaxPuts: true, impl.MaxPuts + 1: false, impl.MaxKeys: false, math.MaxInt: false},
		}, {
			"a mark's count", func(r *impl.Rec, n int) { r.Count = n },
			[]impl.Rec{mark(1, 1, 1)},
			map[int]bool{math.MinInt: false, -1: false, 0: true, impl.MaxPuts: true, impl.MaxPuts + 1: true, impl.MaxKeys: true, impl.MaxKeys + 1: false, math.MaxInt: false},
		}, {
			"a sum", func(r *impl.Rec, n int) { r.Sum = n },
			[]impl.Rec{seal(1, 1, 1), mark(1, 1, 1)},
			map[int]bool{math.MinInt: false, -1: false, 0: true, 1 << 31: true, topSum: true, topSum + 1: false, math.MaxInt: false},
		}, {
			"a kind", func(r *impl.Rec, n int) { r.Kind = n },
			[]impl.Rec{{Batch: 1}, put(1, "k", ""), del(1, "k"), seal(1, 1, 1), keep(1, "k", ""), mark(1, 1, 1)},
			map[int]bool{math.MinInt: false, -5: false, -1: false, 0: false, 6: false, 7: false, 128 + impl.RkPut: false, 256 + impl.RkPut: false, math.MaxInt: false},
		},
	} {
		for _, r := range c.kinds {
			for n, want := range c.edges {
				c.set(&r, n)
				if got := impl.RecOk(r); got != want {
					t.Errorf("%s: %d: RecOk(%v) = %v", c.name, n, r, got)
				}
				s := impl.ShowRec(r)
				if (s != "") != want {
					t.Errorf("%s: %d: ShowRec(%v) = %.80q", c.name, n, r, s)
				}
				if got, ok := impl.ReadRec(s); ok != want || want && got != r {
					t.Errorf("%s: %d: ReadRec(%.80q) = %v, %v", c.name, n, s, got, ok)
				}
			}
		}
	}
}

func TestRecWithAFieldOfAnotherKind(t *testing.T) {
	text := func(field func(r *impl.Rec) *string) []func(r *impl.Rec) {
		var l []func(r *impl.Rec)
		for _, s := range []string{"x", "\x00", strings.Repeat("x", impl.MaxKey+1), strings.Repeat("x", impl.MaxValue+1)} {
			l = append(l, func(r *impl.Rec) { *field(r) = s })
		}
		return l
	}
	number := func(field func(r *impl.Rec) *int) []func(r *impl.Rec) {
		var l []func(r *impl.Rec)
		for _, n := range []int{1, -1, impl.MaxPuts, topSum, topSum + 1, math.MinInt, math.MaxInt} {
			l = append(l, func(r *impl.Rec) { *field(r) = n })
		}
		return l
	}
	key := text(func(r *impl.Rec) *string { return &r.Key })
	value := text(func(r *impl.Rec) *string { return &r.Value })
	count := number(func(r *impl.Rec) *int { return &r.Count })
	sum := number(func(r *impl.Rec) *int { return &r.Sum })
	for _, c := range []struct {
		r      impl.Rec
		others [][]func(r *impl.Rec)
	}{
		{put(1, "k", "v"), [][]func(r *impl.Rec){count, sum}},
		{keep(1, "k", "v"), [][]func(r *impl.Rec){count, sum}},
		{del(1, "k"), [][]func(r *impl.Rec){value, count, sum}},
		{seal(1, 1, 1), [][]func(r *impl.Rec){key, value}},
		{mark(0, 0, 0), [][]func(r *impl.Rec){key, value}},
	} {
		if !impl.RecOk(c.r) {
			t.Errorf("RecOk(%v) = false", c.r)
		}
		for _, sets := range c.others {
			for _, set := range sets {
				r := c.r
				set(&r)
				if impl.RecOk(r) || impl.ShowRec(r) != "" {
					t.Errorf("%v: RecOk %v, ShowRec %q", r, impl.RecOk(r), impl.ShowRec(r))
				}
			}
		}
	}
}

func TestRecsByTheWords(t *testing.T) {
	batches := []int{math.MinInt, -1, 0, 1, 300, impl.MaxBatch, impl.MaxBatch + 1, math.MaxInt}
	keys := []string{"", "k", strings.Repeat("k", impl.MaxKey), strings.Repeat("k", impl.MaxKey+1)}
	values := []string{"", "v", strings.Repeat("v", impl.MaxValue), strings.Repeat("v", impl.MaxValue+1)}
	counts := []int{math.MinInt, -1, 0, 1, impl.MaxPuts, impl.MaxPuts + 1, impl.MaxKeys, impl.MaxKeys + 1, math.MaxInt}
	sums := []int{math.MinInt, -1, 0, 1, topSum, topSum + 1, math.MaxInt}
	for _, kind := range recKinds {
		for _, batch := range batches {
			for _, key := range keys {
				for _, value := range values {
					for _, count := range counts {
						for _, sum := range sums {
							r := impl.Rec{Kind: kind, Batch: batch, Key: key, Value: value, Count: count, Sum: sum}
							if got, want := impl.RecOk(r), slowRecOk(r); got != want {
								t.Fatalf("RecOk(%v) = %v", r, got)
							}
							if got, want := impl.ShowRec(r), slowShowRec(r); got != want {
								t.Fatalf("ShowRec(%v) = %q, want %q", r, got, want)
							}
						}
					}
				}
			}
		}
	}
}

func TestReadRecRefusesWhatIsCut(t *testing.T) {
	checkRefused(t, "")
	for _, r := range rightRecs() {
		s := impl.ShowRec(r)
		for n := range len(s) {
			checkRefused(t, s[:n])
		}
	}
}

func TestReadRecRefusesWhatIsBehind(t *testing.T) {
	for _, r := range rightRecs() {
		s := impl.ShowRec(r)
		for _, more := range []string{"\x00", "\x01", "x", "\x80", "\xff", "\x00\x00", s, strings.Repeat("\x00", 1000)} {
			checkRefused(t, s+more)
		}
	}
	for _, r := range fewRecs() {
		s := impl.ShowRec(r)
		for b := range 256 {
			checkRefused(t, s+string([]byte{byte(b)}))
			checkRead(t, string([]byte{byte(b)})+s)
		}
	}
}

// longer are texts that name a number as Var does not: with bytes too many.
func longer(n int) []string {
	s := []byte(impl.Var(n))
	s[len(s)-1] |= 128
	var l []string
	for zeros := range 9 {
		l = append(l, string(s)+strings.Repeat("\x80", zeros)+"\x00")
	}
	return l
}

// partsOf are the pieces of a record's text; those at the places of numbers
// are Vars.
func partsOf(r impl.Rec) (parts []string, numbers map[int]int) {
	parts = []string{impl.Var(r.Kind), impl.Var(r.Batch)}
	numbers = map[int]int{0: r.Kind, 1: r.Batch}
	switch r.Kind {
	case impl.RkSeal, impl.RkMark:
		numbers[2] = r.Count
		return append(parts, impl.Var(r.Count), impl.Fixed(r.Sum, 4)), numbers
	case impl.RkDel:
		numbers[2] = len(r.Key)
		return append(parts, impl.Var(len(r.Key)), r.Key), numbers
	}
	numbers[2], numbers[4] = len(r.Key), len(r.Value)
	return append(parts, impl.Var(len(r.Key)), r.Key, impl.Var(len(r.Value)), r.Value), numbers
}

// withPart is the text with another piece in one place.
func withPart(parts []string, at int, part string) string {
	return strings.Join(parts[:at], "") + part + strings.Join(parts[at+1:], "")
}

func TestReadRecRefusesLongerNumbers(t *testing.T) {
	for _, r := range rightRecs() {
		parts, numbers := partsOf(r)
		for at, n := range numbers {
			if withPart(parts, at, impl.Var(n)) != impl.ShowRec(r) {
				t.Fatalf("%v is not of the parts %q", r, parts)
			}
			for _, part := range longer(n) {
				checkRefused(t, withPart(parts, at, part))
			}
		}
	}
}

func TestReadRecRefusesLengthsPastTheEnd(t *testing.T) {
	texts := []impl.Rec{put(1, "k", "v"), put(1, "k", ""), put(2, "12345678", "123"), del(1, "k"), del(1, "12345678"), keep(1, "k", "v"), keep(3, "ab", strings.Repeat("v", impl.MaxValue))}
	for _, r := range texts {
		parts, numbers := partsOf(r)
		for at, n := range numbers {
			if at < 2 {
				continue
			}
			end := len(strings.Join(parts[at+1:], ""))
			for _, size := range []int{end + 1, end + 2, end + 128, impl.MaxKey + end, impl.MaxValue + end, impl.MaxCap, 1 << 31, 1 << 32, impl.MaxVar - 1, impl.MaxVar} {
				checkRefused(t, withPart(parts, at, impl.Var(size)))
			}
			for size := range impl.MaxValue + 2 {
				s := withPart(parts, at, impl.Var(size))
				checkRead(t, s)
				// The last text goes just to the end.
				if last := at == len(parts)-2; last && size != n {
					checkRefused(t, s)
				}
			}
		}
	}
}

func TestReadRecRefusesWhatIsPastALimit(t *testing.T) {
	text := func(n int) string { return impl.Var(n) + strings.Repeat("x", n) }
	sum := "\x00\x00\x00\x00"
	for _, s := range []string{
		"\x01\x01" + text(0) + text(1),
		"\x01\x01" + text(impl.MaxKey+1) + text(1),
		"\x01\x01" + text(1) + text(impl.MaxValue+1),
		"\x01\x01" + text(1) + text(200),
		"\x01\x01" + text(impl.MaxCap) + text(impl.MaxCap),
		"\x01\x00" + text(1) + text(1),
		"\x01" + impl.Var(impl.MaxBatch+1) + text(1) + text(1),
		"\x01" + impl.Var(impl.MaxVar) + text(1) + text(1),
		"\x02\x01" + text(0),
		"\x02\x01" + text(impl.MaxKey+1),
		"\x02\x01" + text(1) + text(0),
		"\x02\x00" + text(1),
		"\x02" + impl.Var(impl.MaxBatch+1) + text(1),
		"\x03\x00\x01" + sum,
		"\x03\x01" + impl.Var(impl.MaxPuts+1) + sum,
		"\x03\x01" + impl.Var(impl.MaxKeys) + sum,
		"\x03\x01" + impl.Var(impl.MaxVar) + sum,
		"\x03" + impl.Var(impl.MaxBatch+1) + "\x01" + sum,
		"\x03\x01\x01" + sum + "\x00",
		"\x03\x01\x01" + sum[:3],
		"\x04\x01" + text(0) + text(1),
		"\x04\x01" + text(impl.MaxKey+1) + text(1),
		"\x04\x01" + text(1) + text(impl.MaxValue+1),
		"\x04\x00" + text(1) + text(1),
		"\x04" + impl.Var(impl.MaxBatch+1) + text(1) + text(1),
		"\x05\x01" + impl.Var(impl.MaxKeys+1) + sum,
		"\x05\x01" + impl.Var(impl.MaxVar) + sum,
		"\x05" + impl.Var(impl.MaxBatch+1) + "\x01" + sum,
		"\x05\x00\x00" + sum + "\x00",
		"\x05\x00\x00" + sum[:3],
	} {
		checkRefused(t, s)
	}
}

func TestReadRecRefusesOtherKinds(t *testing.T) {
	for _, r := range fewRecs() {
		parts, _ := partsOf(r)
		for _, kind := range []int{0, 6, 7, 8, 127, 128, 256 + r.Kind, 1<<32 + r.Kind, impl.MaxVar} {
			checkRefused(t, withPart(parts, 0, impl.Var(kind)))
		}
		for kind := impl.RkPut; kind <= impl.RkMark; kind++ {
			checkRead(t, withPart(parts, 0, impl.Var(kind)))
		}
	}
}

func TestReadRecOfTurnedTexts(t *testing.T) {
	for _, r := range fewRecs() {
		s := impl.ShowRec(r)
		for at := range len(s) {
			checkRead(t, s[:at]+s[at+1:])
			for b := range 256 {
				more := string([]byte{byte(b)})
				checkRead(t, s[:at]+more+s[at:])
				checkRead(t, s[:at]+more+s[at+1:])
			}
		}
	}
}

func TestReadRecOfShortTexts(t *testing.T) {
	letters := "\x00\x01\x02\x03\x04\x05\x06\x08\x09\x18\x19a\x7f\x80\x81\xff"
	texts := []string{""}
	for range 5 {
		var next []string
		for _, s := range texts {
			checkRead(t, s)
			for i := range len(letters) {
				next = append(next, s+letters[i:i+1])
			}
		}
		texts = next
	}
	for _, s := range texts {
		checkRead(t, s)
	}
}

func TestReadRecOfLongTexts(t *testing.T) {
	for _, letter := range []string{"\x00", "\x01", "\x02", "\x03", "\x04", "\x05", "\x7f", "\x80", "\xff"} {
		for n := range 60 {
			checkRead(t, strings.Repeat(letter, n))
		}
		checkRefused(t, strings.Repeat(letter, 1<<20))
	}
}
