package tests

import (
	"fmt"
	"math"
	"slices"
	"strings"
	"testing"

	"loop.example/g01397/impl"
)

// entry is a right one where the key and the batch are; entries of unlike
// batches differ in all fields but the key.
func entry(key string, batch int) impl.Entry {
	return impl.Entry{Key: key, Seg: 1 + batch%7, At: 10 * batch, Len: 1 + batch%impl.MaxFrame, Batch: batch}
}

// entries have the batches 1, 2, 3, and so on.
func entries(keys ...string) []impl.Entry {
	var l []impl.Entry
	for i, key := range keys {
		l = append(l, entry(key, i+1))
	}
	return l
}

// rowKeys are n keys that rise; there is room ahead of and behind each.
func rowKeys(n int) []string {
	var l []string
	for i := range n {
		l = append(l, fmt.Sprintf("k%05d", 2*i+1))
	}
	return l
}

// slowEntryOk has the limits as the document has them.
func slowEntryOk(e impl.Entry) bool {
	return within(len(e.Key), 1, 8) && within(e.Seg, 1, 100000) && within(e.At, 0, math.MaxInt) && within(e.Len, 1, 210) && within(e.Batch, 1, 1000000)
}

func slowDirOk(l []impl.Entry) bool {
	for i := range l {
		for j := range i {
			if l[j].Key >= l[i].Key {
				return false
			}
		}
		if !slowEntryOk(l[i]) {
			return false
		}
	}
	return within(len(l), 0, 20)
}

func slowDirGet(l []impl.Entry, key string) (impl.Entry, bool) {
	for _, e := range l {
		if e.Key == key {
			return e, true
		}
	}
	return impl.Entry{}, false
}

func slowDirPut(l []impl.Entry, e impl.Entry) []impl.Entry {
	var ahead, behind []impl.Entry
	for _, other := range l {
		switch {
		case other.Key == e.Key:
		case len(behind) > 0 || other.Key > e.Key:
			behind = append(behind, other)
		default:
			ahead = append(ahead, other)
		}
	}
	return append(append(ahead, e), behind...)
}

func slowDirDrop(l []impl.Entry, key string) []impl.Entry {
	var left []impl.Entry
	for _, e := range l {
		if e.Key != key {
			left = append(left, e)
		}
	}
	return left
}

// oddEntries are right or not; each differs from the others.
func oddEntries() []impl.Entry {
	return []impl.Entry{
		{}, entry("", 1), entry("b", 0), entry("b", 7), entry("bb", 7), entry("longerkey", 3), entry("\xff", 2), entry("\x00", 2), entry(strings.Repeat("z", 1<<16), 4),
		{Key: "b"}, {Seg: 5}, {At: 5}, {Len: 5}, {Batch: 5}, {Key: "b", Seg: -1, At: -1, Len: -1, Batch: -1},
		{Key: "b", Seg: math.MinInt, At: math.MinInt, Len: math.MinInt, Batch: math.MinInt}, {Key: "b", Seg: math.MaxInt, At: math.MaxInt, Len: math.MaxInt, Batch: math.MaxInt},
	}
}

// someDirs are right ones.
func someDirs() [][]impl.Entry {
	return [][]impl.Entry{
		nil, {}, entries("a"), entries("b"), entries("a", "b"), entries("a", "b", "c"), entries("b", "d", "f", "h"),
		entries("A", "B", "a", "b"), entries("a", "aa", "aaa", "ab", "b"), entries("1", "10", "2"), entries("\x00", "\x00\x00", "\x01", " ", "~", "\x7f", "\x80", "\xff", "\xff\xff"), entries("z", "é", "\xff"),
		entries("12345678", "2"), entries(rowKeys(impl.MaxKeys - 1)...), entries(rowKeys(impl.MaxKeys)...),
	}
}

// noDirs are lists of which no one is a right directory.
func noDirs() [][]impl.Entry {
	l := [][]impl.Entry{
		entries(""), entries("", "a"), entries("a", ""), entries("123456789"), entries("a", "123456789"), entries(strings.Repeat("z", 1<<16)),
		entries("a", "a"), entries("b", "a"), entries("a", "a", "b"), entries("a", "b", "b"), entries("a", "b", "a"), entries("b", "a", "b"), entries("a", "c", "b"), entries("c", "b", "a"), entries("b", "c", "a", "b", "c"), entries("d", "b", "d", "a", "d"),
		entries("a", "A"), entries("aa", "a"), entries("10", "1", "2"), entries("2", "10"), entries("\xff", "a"), entries("\x80", "\x7f"), entries("é", "z"),
		{entry("a", 3), entry("a", 3)}, {entry("a", 3), entry("b", 4), entry("a", 3)},
		entries(rowKeys(impl.MaxKeys + 1)...), entries(rowKeys(3 * impl.MaxKeys)...),
		append(entries(rowKeys(impl.MaxKeys)...), entry("k00001", 9)), append(entries(rowKeys(19)...), entry("k00001", 9)), append(entries(rowKeys(19)...), entry("a", 9)), append(entries(rowKeys(19)...), entry("k00037", 9)),
	}
	for _, e := range oddEntries() {
		if !slowEntryOk(e) {
			l = append(l, []impl.Entry{e}, []impl.Entry{entry("a", 1), e}, []impl.Entry{e, entry("zz", 1)})
		}
	}
	return l
}

// smallLists are all lists of up to four entries of five keys, in any order;
// no two entries of a list are alike.
func smallLists() [][]impl.Entry {
	lists := [][]impl.Entry{nil}
	for from := 0; len(lists[from]) < 4; from++ {
		for _, key := range []string{"b", "d", "f", "", "123456789"} {
			lists = append(lists, append(slices.Clone(lists[from]), entry(key, len(lists[from])+1)))
		}
	}
	return lists
}

func allLists() [][]impl.Entry {
	return append(append(someDirs(), noDirs()...), smallLists()...)
}

// askedKeys are those of the list, and some that are not there.
func askedKeys(l []impl.Entry) []string {
	keys := []string{"", "a", "b", "c", "d", "e", "f", "g", "B", "bb", "\x00", "\xff", "12345678", "123456789", "k", "k00000", "k00010", "k9", "z"}
	for _, e := range l {
		keys = append(keys, e.Key, e.Key+"\x00")
	}
	return keys
}

func checkDir(t *testing.T, what string, got, want []impl.Entry) {
	t.Helper()
	if !slices.Equal(got, want) {
		t.Fatalf("%s = %.400v, want %.400v", what, got, want)
	}
}

func TestDirOk(t *testing.T) {
	for _, l := range someDirs() {
		if !impl.DirOk(l) {
			t.Errorf("DirOk(%.200v) = false", l)
		}
	}
	for _, l := range noDirs() {
		if impl.DirOk(l) {
			t.Errorf("DirOk(%.200v) = true", l)
		}
	}
	for _, l := range smallLists() {
		if got := impl.DirOk(l); got != slowDirOk(l) {
			t.Errorf("DirOk(%v) = %v", l, got)
		}
	}
	for n := range 3 * impl.MaxKeys {
		if got := impl.DirOk(entries(rowKeys(n)...)); got != (n <= impl.MaxKeys) {
			t.Errorf("DirOk of %d entries = %v", n, got)
		}
	}
}

// dirChanges are of one entry; each says whether it is right behind it.
func dirChanges() map[string]func(e *impl.Entry) bool {
	l := map[string]func(e *impl.Entry) bool{}
	numbers := []int{math.MinInt, math.MinInt + 1, -1 << 32, 1 - 1<<32, -impl.MaxId, -2, -1, 0, 1, 2, impl.MaxFrame, impl.MaxFrame + 9, impl.MaxFrame + 10, impl.MaxFrame + 11, impl.MaxFrame + 12, impl.MaxId - 1, impl.MaxId, impl.MaxId + 1, impl.MaxCap, impl.MaxCap + 1, impl.MaxBatch - 1, impl.MaxBatch, impl.MaxBatch + 1, 1 << 31, 1 << 32, 1<<32 + 1, math.MaxInt - 1, math.MaxInt}
	for _, n := range numbers {
		l[fmt.Sprint("Seg ", n)] = func(e *impl.Entry) bool { e.Seg = n; return within(n, 1, 100000) }
		l[fmt.Sprint("At ", n)] = func(e *impl.Entry) bool { e.At = n; return n >= 0 }
		l[fmt.Sprint("Len ", n)] = func(e *impl.Entry) bool { e.Len = n; return within(n, 1, 210) }
		l[fmt.Sprint("Batch ", n)] = func(e *impl.Entry) bool { e.Batch = n; return within(n, 1, 1000000) }
	}
	l["nothing"] = func(e *impl.Entry) bool { return true }
	l["no key"] = func(e *impl.Entry) bool { e.Key = ""; return false }
	l["MaxKey bytes"] = func(e *impl.Entry) bool { e.Key = (e.Key + "xxxxxxx")[:impl.MaxKey]; return true }
	l["MaxKey + 1 bytes"] = func(e *impl.Entry) bool { e.Key = (e.Key + "xxxxxxx")[:impl.MaxKey+1]; return false }
	return l
}

// TestDirOkWithOneOff has in each place of a directory an entry of which one
// field is at an edge.
func TestDirOkWithOneOff(t *testing.T) {
	for _, n := range []int{1, 2, 3, impl.MaxKeys - 1, impl.MaxKeys, impl.MaxKeys + 1} {
		for at := range n {
			for name, change := range dirChanges() {
				l := entries(rowKeys(n)...)
				want := change(&l[at]) && n <= impl.MaxKeys
				if got := impl.DirOk(l); got != want {
					t.Errorf("DirOk of %d entries, of number %d %s: %v", n, at, name, got)
				}
			}
		}
	}
}

// TestDirOkRises has at each place a key that is one of the others'.
func TestDirOkRises(t *testing.T) {
	for _, n := range []int{2, 3, impl.MaxKeys - 1, impl.MaxKeys} {
		keys := rowKeys(n)
		for at := range n {
			for from := range n {
				l := entries(keys...)
				l[at].Key = keys[from]
				if got := impl.DirOk(l); got != (at == from) {
					t.Errorf("DirOk of %d entries, number %d with the key of %d: %v", n, at, from, got)
				}
				l = entries(keys...)
				l[at], l[from] = l[from], l[at]
				if got := impl.DirOk(l); got != (at == from) {
					t.Errorf("DirOk of %d entries, %d and %d exchanged: %v", n, at, from, got)
				}
			}
		}
	}
	for b := range 256 {
		for c := range 256 {
			l := entries("k"+string([]byte{byte(b)}), "k"+string([]byte{byte(c)}))
			if got := impl.DirOk(l); got != (b < c) {
				t.Fatalf("DirOk(%v) = %v", l, got)
			}
		}
	}
}

func TestDirGet(t *testing.T) {
	for _, l := range allLists() {
		for _, key := range askedKeys(l) {
			got, ok := impl.DirGet(l, key)
			want, wantOk := slowDirGet(l, key)
			if got != want || ok != wantOk {
				t.Fatalf("DirGet(%.400v, %.40q) = %v, %v, want %v, %v", l, key, got, ok, want, wantOk)
			}
		}
	}
	twice := entries("b", "a", "b", "a")
	for key, batch := range map[string]int{"b": 1, "a": 2} {
		if e, ok := impl.DirGet(twice, key); !ok || e != entry(key, batch) {
			t.Errorf("the first of the key %q is told as %v, %v", key, e, ok)
		}
	}
	// The zero entry may be found as well as not.
	if e, ok := impl.DirGet([]impl.Entry{{}}, ""); !ok || e != (impl.Entry{}) {
		t.Errorf("an entry of no key = %v, %v", e, ok)
	}
}

func TestDirPut(t *testing.T) {
	for _, c := range []struct {
		name    string
		l, want []impl.Entry
		e       impl.Entry
	}{
		{"none yet", nil, []impl.Entry{entry("a", 9)}, entry("a", 9)},
		{"ahead of all", entries("b", "d"), []impl.Entry{entry("a", 9), entry("b", 1), entry("d", 2)}, entry("a", 9)},
		{"between", entries("b", "d"), []impl.Entry{entry("b", 1), entry("c", 9), entry("d", 2)}, entry("c", 9)},
		{"behind all", entries("b", "d"), []impl.Entry{entry("b", 1), entry("d", 2), entry("e", 9)}, entry("e", 9)},
		{"again, alone", entries("b"), []impl.Entry{entry("b", 9)}, entry("b", 9)},
		{"again, first", entries("b", "d", "f"), []impl.Entry{entry("b", 9), entry("d", 2), entry("f", 3)}, entry("b", 9)},
		{"again, in the middle", entries("b", "d", "f"), []impl.Entry{entry("b", 1), entry("d", 9), entry("f", 3)}, entry("d", 9)},
		{"again, last", entries("b", "d", "f"), []impl.Entry{entry("b", 1), entry("d", 2), entry("f", 9)}, entry("f", 9)},
		{"the same, first", entries("b", "d", "f"), entries("b", "d", "f"), entry("b", 1)},
		{"the same, in the middle", entries("b", "d", "f"), entries("b", "d", "f"), entry("d", 2)},
		{"the same, last", entries("b", "d", "f"), entries("b", "d", "f"), entry("f", 3)},
		{"an older one", []impl.Entry{entry("b", 9)}, []impl.Entry{entry("b", 1)}, entry("b", 1)},
		{"by bytes", entries("B", "a"), []impl.Entry{entry("B", 1), entry("a", 2), entry("\xc3", 9)}, entry("\xc3", 9)},
		{"no order: ahead of the first greater", entries("a", "d", "b", "e"), []impl.Entry{entry("a", 1), entry("c", 9), entry("d", 2), entry("b", 3), entry("e", 4)}, entry("c", 9)},
		{"no order: none greater", entries("d", "b", "a"), []impl.Entry{entry("d", 1), entry("b", 2), entry("a", 3), entry("e", 9)}, entry("e", 9)},
		{"no order: it moves ahead", entries("f", "b"), []impl.Entry{entry("b", 9), entry("f", 1)}, entry("b", 9)},
		{"no order: it moves behind", entries("d", "b", "f"), []impl.Entry{entry("b", 2), entry("d", 9), entry("f", 3)}, entry("d", 9)},
		{"twice, beside each other", entries("a", "b", "b", "c"), []impl.Entry{entry("a", 1), entry("b", 9), entry("c", 4)}, entry("b", 9)},
		{"twice, apart", entries("b", "a", "b", "c"), []impl.Entry{entry("a", 2), entry("b", 9), entry("c", 4)}, entry("b", 9)},
		{"twice, and all", entries("b", "b"), []impl.Entry{entry("b", 9)}, entry("b", 9)},
		{"another one twice", entries("c", "a", "c"), []impl.Entry{entry("b", 9), entry("c", 1), entry("a", 2), entry("c", 3)}, entry("b", 9)},
		{"no key", entries("a"), []impl.Entry{{}, entry("a", 1)}, impl.Entry{}},
	} {
		checkDir(t, c.name, impl.DirPut(c.l, c.e), c.want)
	}
}

func TestDirPutByTheWords(t *testing.T) {
	for _, l := range allLists() {
		for _, key := range askedKeys(l) {
			for _, batch := range []int{2, 77} {
				e := entry(key, batch)
				checkDirPut(t, l, e)
				if found, ok := impl.DirGet(impl.DirPut(l, e), key); !ok || found != e {
					t.Fatalf("%.80v was put and %.80v is found", e, found)
				}
			}
		}
		for _, e := range oddEntries() {
			checkDirPut(t, l, e)
		}
	}
}

func checkDirPut(t *testing.T, l []impl.Entry, e impl.Entry) {
	t.Helper()
	if got, want := impl.DirPut(l, e), slowDirPut(l, e); !slices.Equal(got, want) {
		t.Fatalf("DirPut(%.400v, %.80v) = %.400v, want %.400v", l, e, got, want)
	}
}

// TestDirPutKeepsItRight puts into right directories at each place.
func TestDirPutKeepsItRight(t *testing.T) {
	for n := range impl.MaxKeys + 1 {
		l := entries(rowKeys(n)...)
		for at := range 2*n + 1 {
			key := fmt.Sprintf("k%05d", at)
			again := at%2 == 1
			got := impl.DirPut(l, entry(key, 9))
			if impl.DirOk(got) != (again || n < impl.MaxKeys) {
				t.Errorf("%d entries and the key %s: DirOk = %v", n, key, impl.DirOk(got))
			}
			if want := (at + 1) / 2; !again && got[want] != entry(key, 9) || again && got[at/2] != entry(key, 9) {
				t.Errorf("%d entries: the key %s stands elsewhere: %v", n, key, got)
			}
			if again && len(got) != n || !again && len(got) != n+1 {
				t.Errorf("%d entries and the key %s are %d", n, key, len(got))
			}
		}
	}
}

func TestDirDrop(t *testing.T) {
	for _, c := range []struct {
		name    string
		l, want []impl.Entry
		key     string
	}{
		{"none", nil, nil, "a"},
		{"the only one", entries("a"), nil, "a"},
		{"the first", entries("a", "b", "c"), []impl.Entry{entry("b", 2), entry("c", 3)}, "a"},
		{"the middle", entries("a", "b", "c"), []impl.Entry{entry("a", 1), entry("c", 3)}, "b"},
		{"the last", entries("a", "b", "c"), entries("a", "b"), "c"},
		{"not there", entries("a", "b", "c"), entries("a", "b", "c"), "d"},
		{"not there, between", entries("a", "c"), entries("a", "c"), "b"},
		{"not there, no key", entries("a", "c"), entries("a", "c"), ""},
		{"begins one", entries("aa", "ab"), entries("aa", "ab"), "a"},
		{"no key", entries("", "a", ""), []impl.Entry{entry("a", 2)}, ""},
		{"twice, beside each other", entries("a", "b", "b", "c"), []impl.Entry{entry("a", 1), entry("c", 4)}, "b"},
		{"twice, apart", entries("b", "a", "b", "c"), []impl.Entry{entry("a", 2), entry("c", 4)}, "b"},
		{"twice, and all", entries("b", "b"), nil, "b"},
		{"twice alike", []impl.Entry{entry("b", 1), entry("b", 1), entry("a", 1)}, []impl.Entry{entry("a", 1)}, "b"},
		{"another one twice", entries("c", "a", "c", "b"), []impl.Entry{entry("c", 1), entry("c", 3), entry("b", 4)}, "a"},
		{"no order", entries("d", "b", "e", "a", "c"), []impl.Entry{entry("d", 1), entry("b", 2), entry("a", 4), entry("c", 5)}, "e"},
	} {
		checkDir(t, c.name, impl.DirDrop(c.l, c.key), c.want)
	}
	for _, l := range allLists() {
		for _, key := range askedKeys(l) {
			got := impl.DirDrop(l, key)
			if want := slowDirDrop(l, key); !slices.Equal(got, want) {
				t.Fatalf("DirDrop(%.400v, %.40q) = %.400v, want %.400v", l, key, got, want)
			}
			if e, ok := impl.DirGet(got, key); ok || e != (impl.Entry{}) {
				t.Fatalf("%.40q was dropped and %v is found", key, e)
			}
			if impl.DirOk(l) && !impl.DirOk(got) {
				t.Fatalf("DirDrop(%v, %.40q) is no right directory", l, key)
			}
		}
	}
}

// TestDirOfManyEntries has lists of which a map tells the entries in no order.
func TestDirOfManyEntries(t *testing.T) {
	keys := rowKeys(3000)
	l := entries(keys...)
	checkDir(t, "put ahead", impl.DirPut(l, entry("a", 1)), append([]impl.Entry{entry("a", 1)}, l...))
	checkDir(t, "put behind", impl.DirPut(l, entry("z", 1)), append(slices.Clone(l), entry("z", 1)))
	checkDir(t, "dropped", impl.DirDrop(l, keys[0]), l[1:])
	slices.Reverse(l)
	checkDir(t, "none dropped", impl.DirDrop(l, "a"), l)
	slices.Reverse(keys)
	if got := impl.DirKeys(l); !slices.Equal(got, keys) {
		t.Errorf("DirKeys of %d entries are %d others", len(l), len(got))
	}
	same := make([]impl.Entry, 3000)
	checkDir(t, "all dropped", impl.DirDrop(same, ""), nil)
	checkDir(t, "all alike", impl.DirDrop(same, "a"), same)
	checkDir(t, "all put again", impl.DirPut(same, entry("", 3)), []impl.Entry{entry("", 3)})
}

func TestDirKeys(t *testing.T) {
	for _, l := range allLists() {
		var want []string
		for _, e := range l {
			want = append(want, e.Key)
		}
		if got := impl.DirKeys(l); !slices.Equal(got, want) {
			t.Fatalf("DirKeys(%.400v) = %.400q", l, got)
		}
	}
	for _, keys := range [][]string{nil, {"a"}, {"a", "b", "c"}, {"c", "a", "b"}, {"a", "a"}, {"b", "a", "b"}, {"", "a", ""}, rowKeys(impl.MaxKeys), rowKeys(impl.MaxKeys + 1)} {
		if got := impl.DirKeys(entries(keys...)); !slices.Equal(got, keys) {
			t.Errorf("DirKeys of the entries of %q = %q", keys, got)
		}
	}
}

// TestDirPromise puts and drops in a row, and holds the directory against a
// map of what must be found.
func TestDirPromise(t *testing.T) {
	seed := 1
	below := func(n int) int {
		seed = (seed*1103515245 + 12345) % 2147483648
		return seed / 65536 % n
	}
	for keyCount := 1; keyCount <= 25; keyCount++ {
		keys := rowKeys(keyCount)
		must := map[string]impl.Entry{}
		var l []impl.Entry
		for batch := 1; batch <= 200; batch++ {
			key := keys[below(keyCount)]
			if below(3) > 0 {
				must[key] = entry(key, batch)
				l = impl.DirPut(l, must[key])
			} else {
				delete(must, key)
				l = impl.DirDrop(l, key)
			}
			checkHolds(t, l, must, keys)
		}
	}
}

func checkHolds(t *testing.T, l []impl.Entry, must map[string]impl.Entry, keys []string) {
	t.Helper()
	var have []string
	for _, key := range keys {
		want, wantOk := must[key]
		if wantOk {
			have = append(have, key)
		}
		if got, ok := impl.DirGet(l, key); got != want || ok != wantOk {
			t.Fatalf("DirGet(%v, %q) = %v, %v, want %v, %v", l, key, got, ok, want, wantOk)
		}
	}
	if got := impl.DirKeys(l); !slices.Equal(got, have) {
		t.Fatalf("DirKeys = %q, want %q", got, have)
	}
	if got := impl.DirOk(l); got != (len(have) <= impl.MaxKeys) {
		t.Fatalf("DirOk of %d entries = %v", len(have), got)
	}
}

// TestDirInAnyOrder puts the same entries in many orders.
func TestDirInAnyOrder(t *testing.T) {
	want := entries(rowKeys(impl.MaxKeys)...)
	for step := 1; step <= impl.MaxKeys; step++ {
		if step%2 == 0 || step%5 == 0 {
			continue
		}
		for from := range impl.MaxKeys {
			var l []impl.Entry
			for i := range impl.MaxKeys {
				l = impl.DirPut(l, want[(from+i*step)%impl.MaxKeys])
			}
			if !impl.SameDir(l, want) || !impl.DirOk(l) {
				t.Fatalf("put by steps of %d from %d on: %v", step, from, l)
			}
			for i := range impl.MaxKeys {
				l = impl.DirDrop(l, want[(from+i*step)%impl.MaxKeys].Key)
			}
			if !impl.SameDir(l, nil) {
				t.Fatalf("dropped by steps of %d from %d on: %v", step, from, l)
			}
		}
	}
}

func TestSameDir(t *testing.T) {
	small := smallLists()
	for i, a := range small {
		for j, b := range small {
			if got := impl.SameDir(a, b); got != (i == j) {
				t.Fatalf("SameDir(%v, %v) = %v", a, b, got)
			}
		}
	}
	for _, a := range allLists() {
		if !impl.SameDir(a, slices.Clone(a)) {
			t.Errorf("%.400v is not like its copy", a)
		}
		if len(a) > 0 && (impl.SameDir(a, a[:len(a)-1]) || impl.SameDir(a[:len(a)-1], a) || impl.SameDir(a, nil) || impl.SameDir(nil, a)) {
			t.Errorf("%.400v is like what begins it", a)
		}
	}
	if !impl.SameDir(nil, nil) || !impl.SameDir([]impl.Entry{}, nil) || !impl.SameDir(nil, []impl.Entry{}) {
		t.Error("an empty list and nil are not alike")
	}
	if impl.SameDir([]impl.Entry{{}}, nil) || impl.SameDir(nil, []impl.Entry{{}}) {
		t.Error("a zero entry does not count")
	}
}

func TestSameDirByOneField(t *testing.T) {
	for _, n := range []int{1, 2, 3, impl.MaxKeys, impl.MaxKeys + 1} {
		base := entries(rowKeys(n)...)
		for at := range n {
			for name, change := range map[string]func(e *impl.Entry){
				"Key":        func(e *impl.Entry) { e.Key += "x" },
				"Key's case": func(e *impl.Entry) { e.Key = strings.ToUpper(e.Key) },
				"no Key":     func(e *impl.Entry) { e.Key = "" },
				"Seg":        func(e *impl.Entry) { e.Seg++ },
				"At":         func(e *impl.Entry) { e.At++ },
				"Len":        func(e *impl.Entry) { e.Len++ },
				"Batch":      func(e *impl.Entry) { e.Batch++ },
				"At by far":  func(e *impl.Entry) { e.At += 1 << 32 },
				"nothing":    func(e *impl.Entry) {},
			} {
				other := slices.Clone(base)
				change(&other[at])
				if want := name == "nothing"; impl.SameDir(base, other) != want || impl.SameDir(other, base) != want {
					t.Errorf("%d entries, of number %d %s: SameDir is not %v", n, at, name, want)
				}
			}
			other := slices.Clone(base)
			other[0], other[at] = other[at], other[0]
			if want := at == 0; impl.SameDir(base, other) != want || impl.SameDir(other, base) != want {
				t.Errorf("%d entries, 0 and %d exchanged: SameDir is not %v", n, at, want)
			}
		}
	}
}

// roomyDir is the list with spare room behind it, and all of that memory.
func roomyDir(l []impl.Entry) (handed, whole []impl.Entry) {
	whole = append(slices.Clone(l), entry("spare1", 5), entry("b", 6), entry("", 7))
	return whole[:len(l)], whole
}

func TestDirsAreLeftAlone(t *testing.T) {
	for _, l := range allLists() {
		handed, whole := roomyDir(l)
		kept := slices.Clone(whole)
		impl.DirOk(handed)
		impl.SameDir(handed, handed)
		impl.SameDir(handed, l)
		impl.DirKeys(handed)
		for _, key := range askedKeys(l) {
			impl.DirGet(handed, key)
			put := impl.DirPut(handed, entry(key, 99))
			left := impl.DirDrop(handed, key)
			if !slices.Equal(whole, kept) {
				t.Fatalf("%.400v: what was handed in is another by the key %.40q: %.400v", kept, key, whole)
			}
			for _, answer := range [][]impl.Entry{put, left} {
				answer = answer[:cap(answer)]
				for i := range answer {
					answer[i] = entry("written", 9)
				}
			}
			if !slices.Equal(whole, kept) {
				t.Fatalf("%.400v: an answer for the key %.40q shares its memory: %.400v", kept, key, whole)
			}
		}
	}
}

func TestDirsAreNewMemory(t *testing.T) {
	for _, l := range allLists() {
		for _, key := range askedKeys(l) {
			handed, whole := roomyDir(l)
			put, left := impl.DirPut(handed, entry(key, 99)), impl.DirDrop(handed, key)
			keys := impl.DirKeys(handed)
			again := impl.DirKeys(handed)
			for i := range again[:cap(again)] {
				again[:cap(again)][i] = "written"
			}
			for i := range whole {
				whole[i] = entry("written", 9)
			}
			if !slices.Equal(put, slowDirPut(l, entry(key, 99))) || !slices.Equal(left, slowDirDrop(l, key)) || !slices.Equal(keys, impl.DirKeys(l)) {
				t.Fatalf("an answer of %.400v and the key %.40q is another when the list is written into: %.400v, %.400v, %.400q", l, key, put, left, keys)
			}
		}
	}
}
