package tests

import (
	"encoding/binary"
	"fmt"
	"math"
	"slices"
	"strconv"
	"strings"
	"testing"

	"loop.example/g01397/impl"
)

func live(next int, ids ...int) impl.Live {
	return impl.Live{Next: next, Ids: ids}
}

// run are n numbers in a row.
func run(from, n int) []int {
	var l []int
	for i := range n {
		l = append(l, from+i)
	}
	return l
}

func sameLive(a, b impl.Live) bool {
	return a.Next == b.Next && slices.Equal(a.Ids, b.Ids)
}

// slowLiveOk is a right list by the chapter's words.
func slowLiveOk(v impl.Live) bool {
	for i, id := range v.Ids {
		if id < 1 || id > v.Next-1 || i > 0 && v.Ids[i-1] >= id {
			return false
		}
	}
	return within(v.Next, 1, 100000) && within(len(v.Ids), 1, 60)
}

// numbersOf are the library's Vars of numbers, one behind the other.
func numbersOf(l ...int) string {
	var buf []byte
	for _, n := range l {
		buf = binary.AppendUvarint(buf, uint64(n))
	}
	return string(buf)
}

// listOf is what stands in the frame of a list, right or not.
func listOf(v impl.Live) string {
	return numbersOf(v.Next, len(v.Ids)) + numbersOf(v.Ids...)
}

// slowShowLive is ShowLive by the chapter's words.
func slowShowLive(v impl.Live) string {
	if !slowLiveOk(v) {
		return ""
	}
	return slowFrame(listOf(v))
}

// slowReadLive guesses the one list that may have been meant, and asks
// whether that one is shown as this text.
func slowReadLive(s string) (impl.Live, bool) {
	var v impl.Live
	var count int
	rest, _ := slowUnframe(s)
	v.Next, rest = looseNumber(rest)
	count, rest = looseNumber(rest)
	for len(v.Ids) < min(count, 1000) {
		var id int
		id, rest = looseNumber(rest)
		v.Ids = append(v.Ids, id)
	}
	if s == "" || slowShowLive(v) != s {
		return impl.Live{}, false
	}
	return v, true
}

func rightLives() []impl.Live {
	top := impl.MaxId
	return []impl.Live{
		live(2, 1), live(3, 1), live(3, 2), live(3, 1, 2), live(9, 3, 7), live(9, 1, 8),
		live(127, 126), live(128, 127), live(129, 127, 128), live(300, 1, 127, 128, 255, 256, 299),
		live(16384, 16383), live(16385, 1, 16384), live(70000, 5, 65535, 65536),
		live(top, 1), live(top-1, 1, top-2), live(top, top-1), live(top, 1, top-1), live(top, top-2, top-1),
		live(60, run(1, 59)...), live(61, run(1, 60)...), live(100, run(7, 58)...),
		live(200, run(100, 60)...), live(top, run(top-60, 60)...), live(top, run(1, 60)...), live(top, run(top-59, 59)...),
	}
}

// wrongLives hold numbers that are 0 or more; each could stand in a frame.
func wrongLives() []impl.Live {
	top := impl.MaxId
	return []impl.Live{
		{}, live(0), live(1), live(2), live(top), live(top + 1),
		live(0, 1), live(1, 1), live(1, 0), live(0, 0), live(2, 0), live(2, 2), live(2, 1, 1), live(2, 0, 1), live(2, 1, 2), live(2, 1, 0),
		live(9, 7, 3), live(9, 3, 3), live(9, 3, 3, 7), live(9, 3, 7, 7), live(9, 3, 7, 3), live(9, 3, 9), live(9, 3, 10), live(9, 3, 7, 5, 8),
		live(9, 0), live(9, 0, 3), live(9, 3, 0), live(9, 9), live(9, 9, 3), live(9, 3, 1<<32+7), live(9, 1<<32+3), live(1<<32+9, 3),
		live(top+1, 1), live(top+1, top), live(top+1, top+1), live(top, top), live(top, top-1, top), live(top, top+1), live(top+2, 1), live(1<<31, 1), live(math.MaxInt, 1), live(9, math.MaxInt), live(top, 1, math.MaxInt),
		live(top, run(1, 61)...), live(top, run(1, 62)...), live(top, run(top-61, 61)...), live(99, run(1, 61)...), live(top, run(1, 120)...), live(top, run(0, 60)...), live(60, run(1, 60)...),
		live(99, append(run(1, 59), 59)...), live(99, append(run(1, 59), 58)...), live(99, append(run(1, 59), 99)...), live(99, append(run(2, 59), 1)...), live(99, make([]int, 60)...),
	}
}

// belowLives hold numbers below 0, of which there is no Var.
func belowLives() []impl.Live {
	return []impl.Live{
		live(-1), live(-1, 1), live(-9, 3, 7), live(math.MinInt, 1), live(math.MinInt), live(-1, -2),
		live(9, -1), live(9, -3, 7), live(9, 3, -7), live(9, math.MinInt), live(9, math.MinInt, 3), live(9, 3, math.MinInt), live(99, run(-1, 60)...),
	}
}

// longLive has more numbers than any text of a list holds.
func longLive() impl.Live {
	return live(impl.MaxId, run(1, impl.MaxId-1)...)
}

// framedLists are whole lists and what stands in the frame of each, some of
// whose numbers have one, two and three bytes.
func framedLists() map[string]string {
	l := map[string]string{}
	for _, v := range []impl.Live{live(2, 1), live(9, 3, 7), live(300, 1, 127, 128, 256, 299), live(16385, 1, 16384), live(impl.MaxId, impl.MaxId-2, impl.MaxId-1), live(61, run(1, 60)...), live(impl.MaxId, run(impl.MaxId-60, 60)...)} {
		l[impl.ShowLive(v)] = listOf(v)
	}
	return l
}

func checkReadLive(t *testing.T, s string) {
	t.Helper()
	got, ok := impl.ReadLive(s)
	want, wantOk := slowReadLive(s)
	if !sameLive(got, want) || ok != wantOk {
		t.Fatalf("ReadLive(%.80q) = %v, %v, want %v, %v", s, got, ok, want, wantOk)
	}
	if ok && (impl.ShowLive(got) != s || !impl.LiveOk(got)) {
		t.Fatalf("ReadLive takes %.80q, and ShowLive makes %q", s, impl.ShowLive(got))
	}
}

func checkNoLive(t *testing.T, s string) {
	t.Helper()
	if v, ok := impl.ReadLive(s); !sameLive(v, impl.Live{}) || ok {
		t.Errorf("ReadLive(%.80q) = %v, %v, want none", s, v, ok)
	}
}

func TestLiveOkAndShowLive(t *testing.T) {
	for _, v := range rightLives() {
		if s := impl.ShowLive(v); !impl.LiveOk(v) || s == "" || s != slowShowLive(v) {
			t.Errorf("%v: LiveOk %v, ShowLive %q", v, impl.LiveOk(v), s)
		}
	}
	for _, v := range append(append(wrongLives(), belowLives()...), longLive()) {
		if s := impl.ShowLive(v); impl.LiveOk(v) || s != "" {
			t.Errorf("%.200v: LiveOk %v, ShowLive %q", v, impl.LiveOk(v), s)
		}
	}
}

func TestShowLiveMakes(t *testing.T) {
	for _, c := range []struct {
		v    impl.Live
		want string
	}{
		{live(2, 1), "\x03\x02\x01\x01"},
		{live(9, 3, 7), "\x04\x09\x02\x03\x07"},
		{live(128, 127), "\x04\x80\x01\x01\x7f"},
		{live(300, 128, 299), "\x07\xac\x02\x02\x80\x01\xab\x02"},
		{live(100000, 16384, 99999), "\x0a\xa0\x8d\x06\x02\x80\x80\x01\x9f\x8d\x06"},
	} {
		s := impl.ShowLive(c.v)
		if s != summed(c.want) {
			t.Errorf("ShowLive(%v) = %q, want %q behind its sum", c.v, s, c.want)
		}
		if v, ok := impl.ReadLive(summed(c.want)); !ok || !sameLive(v, c.v) {
			t.Errorf("ReadLive(%q) = %v, %v, want %v", summed(c.want), v, ok, c.v)
		}
	}
}

func TestLivesAreReadBack(t *testing.T) {
	from := map[string]impl.Live{}
	for _, v := range rightLives() {
		s := impl.ShowLive(v)
		if other, has := from[s]; has {
			t.Errorf("%v and %v have one text", other, v)
		}
		from[s] = v
		if got, ok := impl.ReadLive(s); !ok || !sameLive(got, v) {
			t.Errorf("ReadLive of %v = %v, %v", v, got, ok)
		}
	}
}

// TestLivesByTheWords goes through all lists of up to four small numbers.
func TestLivesByTheWords(t *testing.T) {
	lists := [][]int{nil}
	for from := 0; len(lists[from]) < 4; from++ {
		for id := -1; id <= 6; id++ {
			lists = append(lists, append(slices.Clone(lists[from]), id))
		}
	}
	for _, ids := range lists {
		for next := -1; next <= 7; next++ {
			v := live(next, ids...)
			if got := impl.LiveOk(v); got != slowLiveOk(v) {
				t.Fatalf("LiveOk(%v) = %v", v, got)
			}
			s := impl.ShowLive(v)
			if s != slowShowLive(v) {
				t.Fatalf("ShowLive(%v) = %q, want %q", v, s, slowShowLive(v))
			}
			if got, ok := impl.ReadLive(s); ok != (s != "") || ok && !sameLive(got, v) {
				t.Fatalf("ReadLive(ShowLive(%v)) = %v, %v", v, got, ok)
			}
		}
	}
}

func TestLiveByNext(t *testing.T) {
	for next, want := range map[int]bool{math.MinInt: false, -1: false, 0: false, 1: false, 2: true, 3: true, impl.MaxId - 1: true, impl.MaxId: true, impl.MaxId + 1: false, 1<<32 + 2: false, math.MaxInt: false} {
		if got := impl.LiveOk(live(next, 1)); got != want {
			t.Errorf("LiveOk with Next %d = %v", next, got)
		}
	}
	for n := range 3 * impl.MaxSegs {
		for _, from := range []int{1, 2, 500, impl.MaxId - n} {
			v := live(impl.MaxId, run(from, n)...)
			want := n >= 1 && n <= impl.MaxSegs
			if got := impl.LiveOk(v); got != want {
				t.Errorf("LiveOk of %d numbers from %d on = %v", n, from, got)
			}
			checkReadLive(t, slowFrame(listOf(v)))
		}
	}
}

// TestLiveWithOneOff has in each place of a full list a number that does not
// rise there.
func TestLiveWithOneOff(t *testing.T) {
	for at := range impl.MaxSegs {
		full := func() []int {
			var l []int
			for i := range impl.MaxSegs {
				l = append(l, 10*i+10)
			}
			return l
		}
		for off := -25; off <= 25; off++ {
			ids := full()
			ids[at] += off
			v := live(impl.MaxId, ids...)
			if got := impl.LiveOk(v); got != slowLiveOk(v) {
				t.Errorf("LiveOk(%v) = %v", v, got)
			}
			checkReadLive(t, slowFrame(listOf(v)))
		}
		for _, id := range []int{0, -1, math.MinInt, impl.MaxId, impl.MaxId + 1, math.MaxInt} {
			ids := full()
			ids[at] = id
			if impl.LiveOk(live(impl.MaxId, ids...)) {
				t.Errorf("LiveOk with %d in place %d", id, at)
			}
		}
	}
}

func TestReadLiveRefusesWrongLists(t *testing.T) {
	for _, v := range wrongLives() {
		checkNoLive(t, slowFrame(listOf(v)))
		checkNoLive(t, summed(showShort(listOf(v))))
	}
	checkNoLive(t, "")
	for _, s := range shortTexts() {
		checkNoLive(t, s)
		checkReadLive(t, slowFrame(s))
	}
}

// showShort is a text behind the Var of its length.
func showShort(s string) string {
	return numbersOf(len(s)) + s
}

func TestReadLiveRefusesWhatIsCut(t *testing.T) {
	for s, inside := range framedLists() {
		for n := range len(s) {
			checkNoLive(t, s[:n])
			checkNoLive(t, s[n+1:])
		}
		for n := range len(inside) {
			checkNoLive(t, slowFrame(inside[:n]))
			checkReadLive(t, slowFrame(inside[n+1:]))
			checkReadLive(t, slowFrame(inside[:n]+inside[n+1:]))
		}
		checkNoLive(t, inside)
		checkNoLive(t, showShort(inside))
	}
}

func TestReadLiveRefusesWhatIsBehind(t *testing.T) {
	for s, inside := range framedLists() {
		for b := range 256 {
			more := string([]byte{byte(b)})
			checkNoLive(t, s+more)
			checkNoLive(t, more+s)
			checkNoLive(t, slowFrame(inside+more))
			checkReadLive(t, slowFrame(more+inside))
		}
		checkNoLive(t, s+s)
		checkNoLive(t, s+logOf(del(1, "a")))
		checkNoLive(t, s+strings.Repeat("\x00", 1<<20))
		checkNoLive(t, slowFrame(s))
	}
}

func TestReadLiveOfTurnedTexts(t *testing.T) {
	for s, inside := range framedLists() {
		for at := range len(s) {
			for turn := 1; turn < 256; turn++ {
				checkNoLive(t, turned(s, at, string([]byte{byte(turn)})))
			}
		}
		// With a sum that is right again, some of these are lists.
		for at := range len(inside) {
			for turn := 1; turn < 256; turn++ {
				checkReadLive(t, slowFrame(turned(inside, at, string([]byte{byte(turn)}))))
			}
		}
	}
}

func TestReadLiveRefusesLongerNumbers(t *testing.T) {
	for _, v := range []impl.Live{live(2, 1), live(9, 3, 7), live(300, 1, 127, 128, 299), live(impl.MaxId, 16384, impl.MaxId-1), live(61, run(1, 60)...)} {
		var parts []string
		numbers := append([]int{v.Next, len(v.Ids)}, v.Ids...)
		for _, n := range numbers {
			parts = append(parts, numbersOf(n))
		}
		for at, n := range numbers {
			for _, part := range longer(n) {
				checkNoLive(t, slowFrame(withPart(parts, at, part)))
			}
		}
		for _, part := range longer(len(listOf(v))) {
			checkNoLive(t, summed(part+listOf(v)))
		}
	}
}

func TestReadLiveRefusesCounts(t *testing.T) {
	for _, n := range []int{1, 2, 3, 59, 60} {
		ids := run(1, n)
		for _, count := range []int{0, 1, 2, n - 1, n, n + 1, n + 2, 60, 61, 62, 127, 128, 200, 256 + n, 1<<32 + n, impl.MaxCap, impl.MaxVar - 1, impl.MaxVar} {
			s := slowFrame(numbersOf(99, count) + numbersOf(ids...))
			if v, ok := impl.ReadLive(s); ok != (count == n) || ok && !sameLive(v, live(99, ids...)) {
				t.Errorf("ReadLive of %d numbers told as %d = %v, %v", n, count, v, ok)
			}
		}
	}
	for _, s := range []string{"", "\x02", "\x02\x00", "\x02\x01", "\x02\x80", "\x80", "\x02\x01\x80", numbersOf(2, impl.MaxVar), numbersOf(impl.MaxVar, impl.MaxVar), strings.Repeat("\xff", impl.MaxFrame), strings.Repeat("\x01", impl.MaxFrame)} {
		checkNoLive(t, slowFrame(s))
	}
}

func TestReadLiveRefusesWhatIsNoList(t *testing.T) {
	for name, s := range badPieces() {
		if v, ok := impl.ReadLive(s); !sameLive(v, impl.Live{}) || ok {
			t.Errorf("%s: ReadLive = %v, %v", name, v, ok)
		}
	}
	for _, r := range fewRecs() {
		checkReadLive(t, logOf(r))
	}
	for _, text := range sumTexts() {
		checkReadLive(t, text)
		checkReadLive(t, slowFrame(text))
	}
	for _, letter := range []string{"\x00", "\x01", "\x80", "\xff", "x"} {
		checkNoLive(t, strings.Repeat(letter, 1<<20))
	}
	// A list above MaxFrame bytes has no frame, though its sum be right.
	checkNoLive(t, summed(showShort(listOf(live(impl.MaxId, run(impl.MaxId-66, 66)...)))))
	checkNoLive(t, summed(showShort(listOf(longLive()))))
}

func TestNamesOfIds(t *testing.T) {
	made := map[string]bool{}
	for id := 1; id <= impl.MaxId; id++ {
		for word, name := range map[string]string{"seg": impl.SegName(id), "hint": impl.HintName(id)} {
			if name != word+strconv.Itoa(id) || made[name] || !impl.NameOk(name) {
				t.Fatalf("the %s of %d is %q", word, id, name)
			}
			made[name] = true
			if got, ok := impl.IdOf(name); got != id || !ok {
				t.Fatalf("IdOf(%q) = %d, %v, want %d", name, got, ok, id)
			}
		}
	}
	for _, id := range []int{0, -1, -2, -12, -impl.MaxId, impl.MaxId + 1, impl.MaxId + 2, 999999, 999999999, 1 << 31, 1<<32 + 1, -1 << 32, math.MinInt, math.MinInt + 1, math.MaxInt} {
		if seg, hint := impl.SegName(id), impl.HintName(id); seg != "" || hint != "" {
			t.Errorf("the names of %d are %q and %q", id, seg, hint)
		}
	}
	for id, ends := range map[int]string{1: "1", 7: "7", 10: "10", 12: "12", 99999: "99999", impl.MaxId: "100000"} {
		if seg, hint := impl.SegName(id), impl.HintName(id); seg != "seg"+ends || hint != "hint"+ends {
			t.Errorf("the names of %d are %q and %q", id, seg, hint)
		}
	}
}

// slowIdOf tries all names that there are.
func slowIdOf() func(name string) (int, bool) {
	ids := map[string]int{}
	for id := 1; id <= impl.MaxId; id++ {
		ids[fmt.Sprintf("seg%d", id)] = id
		ids[fmt.Sprintf("hint%d", id)] = id
	}
	return func(name string) (int, bool) {
		id, has := ids[name]
		return id, has
	}
}

// wrongEnds are what stands behind seg or hint in no name.
func wrongEnds() []string {
	return []string{
		"", "0", "00", "01", "012", "007", "0100000", "00000001", "10x", "x10", "1 ", " 1", " ", "1\n", "\t1", "1\x00", "\x001", "0x1", "1e1", "1_0", "_1", "1.", ".1", "1.0", "1,000",
		"-", "+", "-1", "+1", "-0", "+0", "--1", "-01", "1-", "1+1", "a", "one", "é", "１", "٣", "1é", "seg1", "hint1", "s1", "1seg",
		"100001", "100002", "110000", "200000", "999999", "1000000", "1000001", "10000000", "999999999", "1000000000", "4294967297", "18446744073709551617", "9223372036854775807", "9223372036854775808", "-9223372036854775808", "340282366920938463463374607431768211457",
		strings.Repeat("1", 100), strings.Repeat("0", 100), strings.Repeat("0", 100) + "1", strings.Repeat("9", 1<<20),
	}
}

func TestIdOfRefuses(t *testing.T) {
	var names []string
	for _, end := range wrongEnds() {
		names = append(names, "seg"+end, "hint"+end)
	}
	for _, ahead := range []string{"", "s", "se", "sega", "segs", "segment", "h", "hi", "hin", "hints", "hinted", "Seg", "sEg", "SEG", "Hint", "hinT", "HINT", " seg", "seg ", "\x00seg", "0seg", "1seg", "xseg", "xhint", "segseg", "hinthint", "seghint", "hintseg", "seg-", "live", "temp", "gse", "data"} {
		for _, end := range []string{"", "1", "7", "12", "100000"} {
			names = append(names, ahead+end)
		}
	}
	for _, name := range names {
		if id, ok := impl.IdOf(name); id != 0 || ok {
			t.Errorf("IdOf(%.80q) = %d, %v, want none", name, id, ok)
		}
	}
}

func TestIdOfByTheWords(t *testing.T) {
	slow := slowIdOf()
	check := func(name string) {
		t.Helper()
		got, ok := impl.IdOf(name)
		want, wantOk := slow(name)
		if got != want || ok != wantOk {
			t.Fatalf("IdOf(%q) = %d, %v, want %d, %v", name, got, ok, want, wantOk)
		}
	}
	for _, word := range []string{"seg", "hint"} {
		ends := []string{""}
		for from := 0; len(ends[from]) < 4; from++ {
			check(word + ends[from])
			for _, more := range []string{"0", "1", "2", "9", "-", "+", " ", "a", "/", ":", "\x00", "\xff"} {
				ends = append(ends, ends[from]+more)
			}
		}
		for n := range 3 * impl.MaxId {
			check(word + strconv.Itoa(n))
			check(word + "0" + strconv.Itoa(n))
		}
		for _, id := range []int{1, 12, 99999, impl.MaxId} {
			name := word + strconv.Itoa(id)
			for at := range len(name) {
				check(name[:at])
				for b := range 256 {
					letter := string([]byte{byte(b)})
					check(name[:at] + letter + name[at:])
					check(name[:at] + letter + name[at+1:])
					check(name + letter)
				}
			}
		}
	}
	for _, s := range shortTexts() {
		check(s)
	}
}

// named is a disk with empty files of those names, in their order.
func named(names ...string) impl.Disk {
	slices.Sort(names)
	d := diskWith(99)
	for _, s := range names {
		d.Files = append(d.Files, impl.File{Name: s})
	}
	return d
}

// someNames are names of segments and of hints, the list's, and others.
func someNames() []string {
	return []string{"hint1", "hint10", "hint2", "hint3", "live", "seg1", "seg10", "seg2", "seg3", "seg99999", "seg100000", "temp", "hint100000", "seg100001", "seg01", "seg0", "seg", "hint", "hint00", "other", "temp1", "temps", "tem", "segx", "xseg1", "1", "a"}
}

func TestOrphans(t *testing.T) {
	some := named(someNames()...)
	loose := []string{"hint1", "hint10", "hint100000", "hint2", "hint3", "seg1", "seg10", "seg100000", "seg2", "seg3", "seg99999", "temp"}
	without := func(names ...string) []string {
		return slices.DeleteFunc(slices.Clone(loose), func(s string) bool { return slices.Contains(names, s) })
	}
	for _, c := range []struct {
		name string
		d    impl.Disk
		v    impl.Live
		want []string
	}{
		{"no files", diskWith(9), live(9, 3), nil},
		{"the zero disk", impl.Disk{}, impl.Live{}, nil},
		{"temp alone", named("temp"), live(9, 3), []string{"temp"}},
		{"temp alone and no list", named("temp"), impl.Live{}, []string{"temp"}},
		{"no one's names", named("other", "live", "seg", "seg0", "seg01", "hint", "hint007", "temp1", "seg100001"), live(9, 3), nil},
		{"all of the list", named("seg3", "hint3", "live"), live(9, 3), nil},
		{"some of the list", named("seg3", "hint7", "live"), live(9, 3, 7), nil},
		{"none of the list", named("live"), live(9, 3, 7), nil},
		{"others than of the list", named("seg3", "hint7", "live"), live(9, 4, 8), []string{"hint7", "seg3"}},
		{"a hint without its segment", named("hint3"), live(9, 4), []string{"hint3"}},
		{"the next one", named("seg3", "seg9"), live(9, 3), []string{"seg9"}},
		{"the order of names", named("seg2", "seg10", "seg1", "hint9", "temp", "hint10"), live(9, 3), []string{"hint10", "hint9", "seg1", "seg10", "seg2", "temp"}},
		{"no list", some, impl.Live{}, loose},
		{"a list of one", some, live(2, 1), without("seg1", "hint1")},
		{"a list of ten", some, live(11, 10), without("seg10", "hint10")},
		{"a list of some", some, live(impl.MaxId, 1, 3, 99999), without("seg1", "hint1", "seg3", "hint3", "seg99999")},
		{"a list that is not right: MaxId", some, live(impl.MaxId, impl.MaxId), without("seg100000", "hint100000")},
		{"a list that is not right: no Next", some, live(0, 2), without("seg2", "hint2")},
		{"a list that is not right: it falls", some, live(9, 3, 2, 3, 1), without("seg3", "hint3", "seg2", "hint2", "seg1", "hint1")},
		{"a list that is not right: noughts", some, live(9, 0, -1, math.MinInt, math.MaxInt), loose},
		{"a list that is not right: too many", some, live(impl.MaxId, append(run(200, 60), 3)...), without("seg3", "hint3")},
		{"a list that is not right: all", some, longLive(), []string{"hint100000", "seg100000", "temp"}},
		{"a disk that is down", fueled(named("seg1", "temp"), 0, true), live(9, 3), []string{"seg1", "temp"}},
		{"a disk without power", fueled(named("seg1", "temp"), 0, false), live(9, 3), []string{"seg1", "temp"}},
	} {
		if got := impl.Orphans(c.d, c.v); !slices.Equal(got, c.want) {
			t.Errorf("%s: Orphans = %q, want %q", c.name, got, c.want)
		}
	}
}

func TestOrphansOfWrongDisks(t *testing.T) {
	with := func(change func(d *impl.Disk)) impl.Disk {
		d := named("seg1", "seg2", "temp")
		change(&d)
		return d
	}
	if got := impl.Orphans(with(func(*impl.Disk) {}), impl.Live{}); len(got) != 3 {
		t.Fatalf("Orphans of a right disk = %q", got)
	}
	wrong := append(wrongDisks(),
		with(func(d *impl.Disk) { d.Cap = -1 }),
		with(func(d *impl.Disk) { d.Cap = impl.MaxCap + 1 }),
		with(func(d *impl.Disk) { d.Fuel = -2 }),
		with(func(d *impl.Disk) { d.Fuel = impl.MaxCap + 1 }),
		with(func(d *impl.Disk) { d.Cap, d.Files[2].Text = 2, "abc" }),
		with(func(d *impl.Disk) { d.Files[1].Safe = 1 }),
		with(func(d *impl.Disk) { d.Files[1].Safe = -1 }),
		with(func(d *impl.Disk) { d.Files[1].Name = "seg1" }),
		with(func(d *impl.Disk) { d.Files[1].Name = "seg10"; d.Files[0].Name = "seg2" }),
		with(func(d *impl.Disk) { d.Files[0].Name = "Seg1" }),
		with(func(d *impl.Disk) { d.Files = append(manyFiles(128), d.Files...) }),
	)
	for i, d := range wrong {
		for _, v := range []impl.Live{{}, live(9, 3), live(3, 1, 2)} {
			if got := impl.Orphans(d, v); len(got) != 0 {
				t.Errorf("wrong disk %d: Orphans = %q", i, got)
			}
		}
	}
}

func TestOrphansOfAFullDisk(t *testing.T) {
	var names []string
	for id := 1; id <= impl.MaxFiles/2; id++ {
		names = append(names, impl.SegName(id), impl.HintName(id))
	}
	full := named(names...)
	for n := range impl.MaxSegs + 1 {
		got := impl.Orphans(full, live(impl.MaxId, run(3, n)...))
		var want []string
		for _, name := range names {
			if id, _ := impl.IdOf(name); !within(id, 3, n+2) {
				want = append(want, name)
			}
		}
		slices.Sort(want)
		if !slices.Equal(got, want) || len(got) != impl.MaxFiles-2*n {
			t.Errorf("Orphans with %d numbers = %q, want %q", n, got, want)
		}
	}
}

// TestLivesAreLeftAlone has numbers behind the list that is handed in.
func TestLivesAreLeftAlone(t *testing.T) {
	disks := []impl.Disk{{}, named(someNames()...), diskWith(20, tornFiles()...), wrongDisks()[0], wrongDisks()[5]}
	for _, v := range append(append(append(rightLives(), wrongLives()...), belowLives()...), longLive()) {
		whole := append(slices.Clone(v.Ids), 5, 3)
		kept := slices.Clone(whole)
		v.Ids = whole[:len(v.Ids)]
		impl.LiveOk(v)
		impl.ShowLive(v)
		for _, d := range disks {
			handed, files := roomy(d)
			keptFiles := slices.Clone(files)
			names := impl.Orphans(handed, v)
			for i := range names[:cap(names)] {
				names[:cap(names)][i] = "written"
			}
			if !slices.Equal(files, keptFiles) {
				t.Fatalf("Orphans has written into %.200v", files)
			}
		}
		if !slices.Equal(whole, kept) {
			t.Fatalf("%.200v: what was handed in is another: %.200v", kept, whole)
		}
	}
}

func TestLivesAreNewMemory(t *testing.T) {
	for _, v := range rightLives() {
		s := impl.ShowLive(v)
		first, _ := impl.ReadLive(s)
		second, _ := impl.ReadLive(s)
		over := first.Ids[:cap(first.Ids)]
		for i := range over {
			over[i] = -1
		}
		third, _ := impl.ReadLive(s)
		if !sameLive(second, v) || !sameLive(third, v) {
			t.Errorf("answers of ReadLive share memory: %v, %v, want %v", second, third, v)
		}
	}
	d := named("seg1", "seg2", "temp")
	first := impl.Orphans(d, live(9, 2))
	second := impl.Orphans(d, live(9, 2))
	for i := range first[:cap(first)] {
		first[:cap(first)][i] = "written"
	}
	if want := []string{"seg1", "temp"}; !slices.Equal(second, want) || !slices.Equal(impl.Orphans(d, live(9, 2)), want) {
		t.Errorf("answers of Orphans share memory: %q", second)
	}
}
