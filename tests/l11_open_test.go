package tests

import (
	"fmt"
	"maps"
	"math"
	"slices"
	"strconv"
	"strings"
	"testing"

	"loop.example/g01397/impl"
)

// stepper does steps by the chapter's words, up to the first that is refused.
type stepper struct {
	d    impl.Disk
	code int
	did  int
}

func stepperOf(d impl.Disk) *stepper {
	d.Files = slices.Clone(d.Files)
	return &stepper{d: d}
}

func (s *stepper) do(step diskStep) {
	if s.code != impl.CdOk {
		return
	}
	d, code := step.slow(s.d)
	s.d = d
	s.did++
	switch code {
	case impl.DkOk:
	case impl.DkDown:
		s.code = impl.CdDown
	case impl.DkFull:
		s.code = impl.CdSpace
	default:
		s.code = impl.CdCorrupt
	}
}

func (s *stepper) removeAll(names []string) {
	for _, name := range names {
		s.do(diskStep{kind: "remove", name: name})
	}
}

func (s *stepper) putLive(v impl.Live) {
	if _, has := textOf(s.d, "temp"); has {
		s.do(diskStep{kind: "remove", name: "temp"})
	}
	s.do(diskStep{kind: "create", name: "temp"})
	s.do(diskStep{kind: "append", name: "temp", text: slowShowLive(v)})
	s.do(diskStep{kind: "sync", name: "temp"})
	s.do(diskStep{kind: "rename", name: "temp", text: "live"})
}

// brief tells anything, as far as it is worth reading.
func brief(l ...any) string {
	var told []string
	for _, v := range l {
		s := fmt.Sprintf("%+v", v)
		told = append(told, s[:min(len(s), 600)])
	}
	return strings.Join(told, ", ")
}

func textOf(d impl.Disk, name string) (string, bool) {
	for _, f := range d.Files {
		if f.Name == name {
			return f.Text, true
		}
	}
	return "", false
}

// slowOrphans are those of a right disk.
func slowOrphans(d impl.Disk, ids []int) []string {
	var names []string
	for _, f := range d.Files {
		id := 0
		for _, word := range []string{"seg", "hint"} {
			n, _ := strconv.Atoi(strings.TrimPrefix(f.Name, word))
			if within(n, 1, 100000) && f.Name == fmt.Sprint(word, n) {
				id = n
			}
		}
		if f.Name == "temp" || id > 0 && !slices.Contains(ids, id) {
			names = append(names, f.Name)
		}
	}
	return names
}

// slowOpen is Open by the chapter's words; it tells the steps as well.
func slowOpen(d impl.Disk) (impl.Store, *stepper) {
	s := stepperOf(d)
	if !impl.DiskOk(d) {
		s.code = impl.CdArgs
		return impl.Store{}, s
	}
	if d.Down {
		s.code = impl.CdDown
		return impl.Store{}, s
	}
	var store impl.Store
	if text, has := textOf(d, "live"); has {
		store = s.openListed(text)
	} else {
		s.removeAll(slowOrphans(d, nil))
		s.do(diskStep{kind: "create", name: "seg1"})
		s.putLive(live(2, 1))
		store = impl.Store{Live: live(2, 1), Batch: 1}
	}
	if s.code != impl.CdOk {
		return impl.Store{}, s
	}
	return store, s
}

func (s *stepper) openListed(text string) impl.Store {
	v, ok := slowReadLive(text)
	if !ok {
		s.code = impl.CdCorrupt
		return impl.Store{}
	}
	end := 0
	for i, id := range v.Ids {
		text, has := textOf(s.d, fmt.Sprint("seg", id))
		_, end = slowScan(text)
		if !has || i < len(v.Ids)-1 && end != len(text) {
			s.code = impl.CdCorrupt
			return impl.Store{}
		}
	}
	last := fmt.Sprint("seg", v.Ids[len(v.Ids)-1])
	if text, _ := textOf(s.d, last); end != len(text) {
		s.do(diskStep{kind: "truncate", name: last, n: end})
	}
	s.do(diskStep{kind: "sync", name: last})
	g, hinted := slowGroup(s.d, v.Ids)
	if s.code == impl.CdOk && g.Code != impl.GrOk {
		s.code = impl.CdCorrupt
	}
	s.removeAll(slowOrphans(s.d, v.Ids))
	return impl.Store{Live: v, Dir: g.Dir, Batch: g.Last + 1, Size: end, Hinted: hinted}
}

// slowGroup is what the segments say, and the first of them where its hint
// was asked in its place.
func slowGroup(d impl.Disk, ids []int) (impl.Group, int) {
	var g impl.Group
	hinted := 0
	text, _ := textOf(d, fmt.Sprint("hint", ids[0]))
	first, _ := textOf(d, fmt.Sprint("seg", ids[0]))
	own, merged := slowHintOf(ids[0], first)
	if h, ok := slowReadHint(text); ok && merged && sameHint(h, own) {
		g = impl.Group{Dir: h.List, Last: h.Mark}
		hinted = ids[0]
		ids = ids[1:]
	}
	var l []impl.Place
	for _, id := range ids {
		text, _ := textOf(d, fmt.Sprint("seg", id))
		spots, _ := slowScan(text)
		for _, spot := range spots {
			l = append(l, impl.Place{Seg: id, At: spot.At, Len: spot.Len, Rec: spot.Rec})
		}
	}
	return slowRegroup(g, l), hinted
}

// slowStoreOk is what the document asks of a store and its disk.
func slowStoreOk(s impl.Store, d impl.Disk) bool {
	if !impl.DiskOk(d) || !slowLiveOk(s.Live) || !slowDirOk(s.Dir) || !within(s.Batch, 1, impl.MaxBatch+1) {
		return false
	}
	for i, id := range s.Live.Ids {
		text, has := textOf(d, fmt.Sprint("seg", id))
		if _, end := slowScan(text); !has || end != len(text) {
			return false
		}
		if i == len(s.Live.Ids)-1 && s.Size != len(text) {
			return false
		}
	}
	for _, e := range s.Dir {
		text, _ := textOf(d, fmt.Sprint("seg", e.Seg))
		r, ok := slowRecAt(text, e.At, e.Len)
		if !ok || r.Kind != impl.RkPut && r.Kind != impl.RkKeep || r.Key != e.Key || r.Batch != e.Batch || e.Batch >= s.Batch {
			return false
		}
	}
	return true
}

// slowSound is what the document asks of a disk that is sound.
func slowSound(d impl.Disk) bool {
	text, _ := textOf(d, "live")
	v, ok := slowReadLive(text)
	if !ok || len(slowOrphans(d, v.Ids)) > 0 {
		return false
	}
	for _, id := range v.Ids {
		text, has := textOf(d, fmt.Sprint("seg", id))
		if _, end := slowScan(text); !has || end != len(text) {
			return false
		}
	}
	return true
}

func sameStore(a, b impl.Store) bool {
	return sameLive(a.Live, b.Live) && slices.Equal(a.Dir, b.Dir) && a.Batch == b.Batch && a.Size == b.Size && a.Hinted == b.Hinted
}

// checkOpen holds Open against the chapter's words, and, where it opens,
// promise 11; it tells what Open tells.
func checkOpen(t *testing.T, what string, d impl.Disk) (impl.Store, impl.Disk, int) {
	t.Helper()
	got, after, code := impl.Open(d)
	want, s := slowOpen(d)
	if !sameStore(got, want) || !impl.SameDisk(after, s.d) || code != s.code {
		t.Fatalf("%s: Open(%s) = %s, want %s", what, brief(d), brief(got, after, code), brief(want, s.d, s.code))
	}
	if code == impl.CdOk {
		checkOpened(t, what, got, after)
	}
	return got, after, code
}

// checkOpened is promise 11.
func checkOpened(t *testing.T, what string, s impl.Store, d impl.Disk) {
	t.Helper()
	if !slowStoreOk(s, d) || !slowSound(d) {
		t.Fatalf("%s: opened is %s: a store %v, sound %v", what, brief(s, d), slowStoreOk(s, d), slowSound(d))
	}
	for _, fuel := range []int{-1, 1, impl.MaxCap} {
		enough := impl.WithFuel(d, fuel)
		again, behind, code := impl.Open(enough)
		if code != impl.CdOk || !sameStore(again, s) || !slices.Equal(behind.Files, d.Files) || behind.Down {
			t.Fatalf("%s: opened is %s, and again, with fuel %d, %s", what, brief(s, d), fuel, brief(again, behind, code))
		}
	}
}

// someTears are of several kinds; there are some images with many files.
func someTears() [][]int {
	return [][]int{nil, {0}, {1}, {2}, {4}, {7}, {-1}, {3, 0, 9, 5}, {0, 8, 1}, {impl.MaxCap - 1}, {math.MaxInt}}
}

// checkEachFuel lets the power fail at each of the steps and between each two,
// and opens the disk as far as it came: with more power, and behind Power.
func checkEachFuel(t *testing.T, what string, d impl.Disk) {
	t.Helper()
	d = fueled(d, -1, false)
	whole, full, wholeCode := checkOpen(t, what, d)
	_, s := slowOpen(d)
	for fuel := range s.did + 2 {
		what := fmt.Sprint(what, ", fuel ", fuel)
		_, after, code := checkOpen(t, what, fueled(d, fuel, false))
		if down := code == impl.CdDown; down != (fuel < s.did) || down != after.Down {
			t.Fatalf("%s: of %d steps: code %d, down %v", what, s.did, code, after.Down)
		}
		same := func(how string, d impl.Disk) {
			t.Helper()
			again, behind, code := checkOpen(t, what+how, d)
			if !sameStore(again, whole) || code != wholeCode || !slices.Equal(behind.Files, full.Files) {
				t.Fatalf("%s%s: Open(%s) = %s, want %s", what, how, brief(d), brief(again, behind, code), brief(whole, full, wholeCode))
			}
		}
		same(" and more power", impl.WithFuel(after, -1))
		// What was made for nothing is to be removed again: seg1 and temp.
		same(" and just enough power", impl.WithFuel(after, s.did+2))
		for _, tears := range someTears() {
			left := impl.Power(after, tears)
			if impl.Settled(d) {
				same(fmt.Sprint(" behind Power with ", tears), left)
			}
			checkOpen(t, fmt.Sprint(what, " behind Power with ", tears), left)
		}
	}
}

// safeFile is a file all of whose text is kept.
func safeFile(name, text string) impl.File {
	return impl.File{Name: name, Text: text, Safe: len(text)}
}

func segFile(id int, recs ...impl.Rec) impl.File {
	return safeFile(fmt.Sprint("seg", id), logOf(recs...))
}

func hintFile(id int, text string) impl.File {
	return safeFile(fmt.Sprint("hint", id), text)
}

// ownHint is the file of the hint that a segment has.
func ownHint(id int, text string) impl.File {
	h, _ := slowHintOf(id, text)
	return hintFile(id, slowShowHint(h))
}

// disk is of files in any order, with some room behind them.
func disk(files ...impl.File) impl.Disk {
	d := diskWith(50000, files...)
	slices.SortFunc(d.Files, func(a, b impl.File) int { return strings.Compare(a.Name, b.Name) })
	return d
}

// listed is a disk with that list as its file live.
func listed(v impl.Live, files ...impl.File) impl.Disk {
	return disk(append(slices.Clone(files), safeFile("live", slowShowLive(v)))...)
}

// full is the disk without any room.
func full(d impl.Disk) impl.Disk {
	d.Cap = impl.Used(d)
	return d
}

// with is the disk with that file, in the place of the one of its name.
func with(d impl.Disk, more impl.File) impl.Disk {
	d.Files = slices.Clone(d.Files)
	d.Files = slices.DeleteFunc(d.Files, func(f impl.File) bool { return f.Name == more.Name })
	d.Files = append(d.Files, more)
	slices.SortFunc(d.Files, func(a, b impl.File) int { return strings.Compare(a.Name, b.Name) })
	return d
}

func without(d impl.Disk, name string) impl.Disk {
	d.Files = slices.DeleteFunc(slices.Clone(d.Files), func(f impl.File) bool { return f.Name == name })
	return d
}

// unsafeFrom is the file of that name with all behind n bytes not kept.
func unsafeFrom(d impl.Disk, name string, n int) impl.Disk {
	d.Files = slices.Clone(d.Files)
	for i := range d.Files {
		if d.Files[i].Name == name {
			d.Files[i].Safe = min(n, len(d.Files[i].Text))
		}
	}
	return d
}

// firstBatches, mergedPairs and laterBatches are what the images below are
// made of.
func firstBatches() []impl.Rec {
	return inRow(sealed(1, put(1, "a", "v"), put(1, "b", "w")), sealed(2, del(2, "a"), put(2, "c", "x")))
}

func mergedPairs() string {
	return mergedText(9, keep(2, "a", "v"), keep(9, "b", ""), keep(4, "d", "z"))
}

func laterBatches() []impl.Rec {
	return inRow(sealed(10, put(10, "c", "y"), del(10, "a")), sealed(11, put(11, "b", "w")))
}

// mergedDisk has a merged segment, its hint, and two behind.
func mergedDisk() impl.Disk {
	return listed(live(9, 3, 4, 7), safeFile("seg3", mergedPairs()), ownHint(3, mergedPairs()), segFile(4, laterBatches()...), segFile(7, sealed(12, put(12, "e", ""))...))
}

// newImages have no file live.
func newImages() map[string]impl.Disk {
	return map[string]impl.Disk{
		"no files":          disk(),
		"no files, no room": diskWith(0),
		"no one's files":    disk(safeFile("other", "abc"), safeFile("seg", "abc"), safeFile("hint", ""), safeFile("seg01", ""), safeFile("hint007", "x"), safeFile("temp1", "x"), safeFile("live1", "x"), safeFile("seg100001", "x")),
		"a segment":         disk(segFile(1, firstBatches()...)),
		"a later segment":   disk(segFile(2, firstBatches()...)),
		"segments":          disk(segFile(1), segFile(10, firstBatches()...), segFile(2), segFile(impl.MaxId)),
		"a hint":            disk(ownHint(1, mergedPairs())),
		"hints and seg1":    disk(hintFile(1, ""), hintFile(2, "x"), segFile(1)),
		"temp":              disk(safeFile("temp", slowShowLive(live(2, 1)))),
		"temp, torn":        disk(impl.File{Name: "temp", Text: slowShowLive(live(2, 1)), Safe: 3}),
		"seg1 and temp":     disk(segFile(1), safeFile("temp", slowShowLive(live(2, 1)))),
		"all kinds":         disk(segFile(1, firstBatches()...), segFile(2), ownHint(1, mergedPairs()), hintFile(100000, "x"), safeFile("temp", "x"), safeFile("other", "abc"), safeFile("zz", "")),
		"not kept":          disk(impl.File{Name: "other", Text: "abc"}, impl.File{Name: "seg1", Text: logOf(firstBatches()...), Safe: 5}, impl.File{Name: "temp", Text: "abc", Safe: 1}),
		"just room":         diskWith(8),
		"no room by one":    diskWith(7),
		"room in orphans":   full(disk(safeFile("temp", "12345"), safeFile("hint5", "123"))),
		"too few orphans":   full(disk(safeFile("temp", "1234"), safeFile("hint5", "123"))),
		"room beside":       diskWith(12, safeFile("other", "1234")),
		"no room beside":    diskWith(11, safeFile("other", "1234")),
		"MaxFiles":          diskWith(99, manyFiles(impl.MaxFiles)...),
		"MaxFiles less 1":   diskWith(99, manyFiles(impl.MaxFiles-1)...),
		"MaxFiles less 2":   diskWith(99, manyFiles(impl.MaxFiles-2)...),
		"MaxFiles, one seg": diskWith(99, append(manyFiles(impl.MaxFiles-1), segFile(9))...),
		"MaxFiles, two seg": diskWith(99, append(manyFiles(impl.MaxFiles-2), segFile(8), segFile(9))...),
	}
}

// listedImages have a file live that is a list, and nothing is missing.
func listedImages() map[string]impl.Disk {
	a3 := put(3, "a", "v")
	first := logOf(firstBatches()...)
	torn := logOf(sealed(3, a3)...)[:20]
	return map[string]impl.Disk{
		"one empty segment":          listed(live(2, 1), segFile(1)),
		"one segment":                listed(live(2, 1), segFile(1, firstBatches()...)),
		"one segment, a later one":   listed(live(300, 128), segFile(128, firstBatches()...)),
		"one that is not sealed":     listed(live(2, 1), segFile(1, append(firstBatches(), a3)...)),
		"none that is sealed":        listed(live(2, 1), segFile(1, put(1, "a", "v"), put(1, "b", "v"))),
		"a torn batch":               listed(live(2, 1), safeFile("seg1", first+torn)),
		"a cut seal":                 listed(live(2, 1), safeFile("seg1", first[:len(first)-1])),
		"nothing right":              listed(live(2, 1), safeFile("seg1", "nothing that is right")),
		"a frame of no record":       listed(live(2, 1), safeFile("seg1", first+slowFrame("no record")+logOf(sealed(3, a3)...))),
		"several":                    listed(live(9, 1, 2, 5), segFile(1, firstBatches()...), segFile(2, sealed(3, a3)...), segFile(5, sealed(4, del(4, "b"))...)),
		"several, the last empty":    listed(live(9, 1, 2, 5), segFile(1, firstBatches()...), segFile(2, sealed(3, a3)...), segFile(5)),
		"several, the first empty":   listed(live(9, 1, 2, 5), segFile(1), segFile(2, sealed(3, a3)...), segFile(5, sealed(4, del(4, "b"))...)),
		"several, all empty":         listed(live(9, 1, 2, 5), segFile(1), segFile(2), segFile(5)),
		"several, the last torn":     listed(live(9, 1, 2, 5), segFile(1, firstBatches()...), segFile(2, sealed(3, a3)...), safeFile("seg5", logOf(sealed(4, del(4, "b"))...)+torn)),
		"several, the last wrong":    listed(live(9, 1, 2, 5), segFile(1, firstBatches()...), segFile(2, sealed(3, a3)...), safeFile("seg5", "\x00")),
		"a batch over two segments":  listed(live(3, 1, 2), segFile(1, put(1, "a", "v")), segFile(2, put(1, "b", "w"), sealOf(1, put(1, "a", "v"), put(1, "b", "w")))),
		"merged, with its hint":      mergedDisk(),
		"merged, without":            without(mergedDisk(), "hint3"),
		"merged, the hint torn":      with(mergedDisk(), hintFile(3, ownHint(3, mergedPairs()).Text[:9])),
		"merged, the hint empty":     with(mergedDisk(), hintFile(3, "")),
		"merged, another's hint":     with(mergedDisk(), hintFile(3, ownHint(4, mergedPairs()).Text)),
		"merged, a second hint":      with(mergedDisk(), ownHint(4, mergedPairs())),
		"merged, not the first":      listed(live(9, 3, 4, 7), segFile(3), safeFile("seg4", mergedPairs()), ownHint(4, mergedPairs()), segFile(7, laterBatches()...)),
		"merged and alone":           listed(live(4, 3), safeFile("seg3", mergedPairs()), ownHint(3, mergedPairs())),
		"merged and alone, torn":     listed(live(4, 3), safeFile("seg3", mergedPairs()+torn), ownHint(3, mergedPairs())),
		"merged and alone, more":     listed(live(4, 3), safeFile("seg3", mergedPairs()+logOf(laterBatches()...)), ownHint(3, mergedPairs())),
		"merged of nothing":          listed(live(6, 3, 4), safeFile("seg3", mergedText(9)), ownHint(3, mergedText(9)), segFile(4)),
		"merged of batch 0":          listed(live(6, 3, 4), safeFile("seg3", mergedText(0)), ownHint(3, mergedText(0)), segFile(4)),
		"merged twice":               listed(live(6, 3, 4), safeFile("seg3", mergedPairs()), ownHint(3, mergedPairs()), safeFile("seg4", mergedText(20, keep(1, "f", "v")))),
		"merged, all dropped behind": listed(live(6, 3, 4), safeFile("seg3", mergedPairs()), ownHint(3, mergedPairs()), segFile(4, sealed(10, delsOf(10, "a", "b", "d")...)...)),
		"orphans":                    with(with(with(with(mergedDisk(), segFile(1)), hintFile(5, "x")), safeFile("temp", "x")), segFile(100000, laterBatches()...)),
		"orphans and others":         with(with(with(with(mergedDisk(), segFile(30)), hintFile(9, "")), safeFile("other", "x")), safeFile("seg03", "x")),
		"full":                       full(with(mergedDisk(), safeFile("temp", "x"))),
		"full and torn":              full(listed(live(2, 1), safeFile("seg1", first+torn))),
		"MaxFiles":                   disk(append(manyFiles(impl.MaxFiles-4), safeFile("live", slowShowLive(live(2, 1))), segFile(1, firstBatches()...), segFile(2), safeFile("temp", "x"))...),
		"not kept":                   unsafeFrom(unsafeFrom(unsafeFrom(mergedDisk(), "seg3", 3), "seg7", 0), "live", 2),
		"not kept and torn":          listed(live(2, 1), impl.File{Name: "seg1", Text: first + torn, Safe: len(first) - 3}),
		"not kept at the end":        listed(live(2, 1), impl.File{Name: "seg1", Text: first + torn, Safe: len(first) + 3}),
	}
}

// corruptImages do not open, however much power there is.
func corruptImages() map[string]impl.Disk {
	x := keep(3, "x", "v")
	right := slowShowLive(live(2, 1))
	over := inRow(dirRows(impl.MaxKeys), sealed(9, put(9, "z", "v")))
	one := func(recs ...impl.Rec) impl.Disk {
		return with(with(listed(live(2, 1), segFile(1, recs...)), safeFile("temp", "x")), segFile(7))
	}
	return map[string]impl.Disk{
		"live is empty":              disk(safeFile("live", ""), segFile(1)),
		"live is torn":               disk(safeFile("live", right[:len(right)-1]), segFile(1), safeFile("temp", right)),
		"live is longer":             disk(safeFile("live", right+"x"), segFile(1)),
		"live is no list":            disk(safeFile("live", slowFrame("\x02\x02\x01\x01")), segFile(1)),
		"live is a record":           disk(safeFile("live", logOf(put(1, "a", "v"))), segFile(1)),
		"no segment":                 listed(live(2, 1)),
		"another segment":            listed(live(2, 1), segFile(2), hintFile(1, "")),
		"the first is not there":     without(mergedDisk(), "seg3"),
		"one in between is not":      without(mergedDisk(), "seg4"),
		"the last is not there":      without(mergedDisk(), "seg7"),
		"the first is cut":           with(mergedDisk(), safeFile("seg3", mergedPairs()[:len(mergedPairs())-1])),
		"the first is longer":        with(mergedDisk(), safeFile("seg3", mergedPairs()+"\x00")),
		"one in between is cut":      with(mergedDisk(), safeFile("seg4", logOf(laterBatches()...)[:30])),
		"one in between is wrong":    with(mergedDisk(), safeFile("seg4", "x")),
		"kept without a mark":        one(x),
		"kept, and a torn mark":      with(one(), safeFile("seg1", logOf(marked(4, x)...)[:20])),
		"kept behind the mark":       one(append(marked(4, x), x)...),
		"a mark of another sum":      one(x, oddTotal(markOf(4, x), 0, 1)),
		"a mark of more":             one(oddTotal(markOf(4), 1, 0)),
		"too many keys by a seal":    one(over...),
		"too many keys by a mark":    one(inRow(dirRows(impl.MaxKeys), marked(9, keep(9, "z", "v")))...),
		"too many, then dropped":     one(append(over, sealed(10, del(10, "z"))...)...),
		"too many behind a hint":     listed(live(6, 3, 4), safeFile("seg3", mergedText(9, keepsOf(9, rowKeys(impl.MaxKeys)...)...)), ownHint(3, mergedText(9, keepsOf(9, rowKeys(impl.MaxKeys)...)...)), segFile(4, sealed(10, put(10, "z", "v"))...)),
		"kept behind a hint":         with(mergedDisk(), segFile(7, x)),
		"too many, and a torn end":   with(one(), safeFile("seg1", logOf(over...)+"torn")),
		"too many, and not kept all": unsafeFrom(one(over...), "seg1", 7),
	}
}

func allImages() map[string]impl.Disk {
	all := map[string]impl.Disk{}
	for kind, images := range map[string]map[string]impl.Disk{"new: ": newImages(), "listed: ": listedImages(), "corrupt: ": corruptImages()} {
		for name, d := range images {
			all[kind+name] = d
		}
	}
	return all
}

func TestCodeWord(t *testing.T) {
	words := []string{"ok", "down", "space", "corrupt", "args", "many", "closed", "conflict", "none"}
	codes := []int{impl.CdOk, impl.CdDown, impl.CdSpace, impl.CdCorrupt, impl.CdArgs, impl.CdMany, impl.CdClosed, impl.CdConflict, impl.CdNone}
	for i, word := range words {
		if codes[i] != i || impl.CodeWord(i) != word {
			t.Errorf("CodeWord(%d) = %q, want %q; the code is %d", i, impl.CodeWord(i), word, codes[i])
		}
	}
	for _, code := range []int{math.MinInt, -1 << 32, -9, -2, -1, 9, 10, 100, 256, 1 << 32, 1<<32 + 1, math.MaxInt} {
		if got := impl.CodeWord(code); got != "" {
			t.Errorf("CodeWord(%d) = %q", code, got)
		}
	}
}

// TestImages says of the images themselves that they are what they are meant
// to be.
func TestImages(t *testing.T) {
	for name, d := range allImages() {
		if !impl.DiskOk(d) || d.Fuel != -1 || d.Down {
			t.Errorf("%s: it is no right disk: %s", name, brief(d))
		}
	}
	for name, d := range newImages() {
		_, _, code := impl.Open(d)
		want := impl.CdOk
		switch name {
		case "no files, no room", "no room by one", "too few orphans", "no room beside", "MaxFiles", "MaxFiles less 1", "MaxFiles, one seg":
			want = impl.CdSpace
		}
		if code != want {
			t.Errorf("%s: code %d, want %d", name, code, want)
		}
	}
	for name, d := range listedImages() {
		if s, _, code := impl.Open(d); code != impl.CdOk {
			t.Errorf("%s: code %d, %v", name, code, s)
		}
	}
	for name, d := range corruptImages() {
		if s, _, code := impl.Open(d); code != impl.CdCorrupt || !sameStore(s, impl.Store{}) {
			t.Errorf("%s: code %d, %v", name, code, s)
		}
	}
}

// TestOpenOfANewDisk has the disk behind each of the steps.
func TestOpenOfANewDisk(t *testing.T) {
	list := summed("\x03\x02\x01\x01")
	seg := impl.File{Name: "seg1"}
	for fuel, files := range [][]impl.File{
		nil,
		{seg},
		{seg, {Name: "temp"}},
		{seg, {Name: "temp", Text: list}},
		{seg, {Name: "temp", Text: list, Safe: 8}},
		{{Name: "live", Text: list, Safe: 8}, seg},
		{{Name: "live", Text: list, Safe: 8}, seg},
	} {
		want, code := impl.Store{}, impl.CdDown
		if fuel >= 5 {
			want, code = impl.Store{Live: live(2, 1), Batch: 1}, impl.CdOk
		}
		s, d, got := impl.Open(fueled(impl.DiskNew(99), fuel, false))
		behind := fueled(diskWith(99, files...), max(0, fuel-5), fuel < 5)
		if got != code || !sameStore(s, want) || !impl.SameDisk(d, behind) {
			t.Errorf("fuel %d: Open of a new disk = %v, %v, %d, want %v, %v, %d", fuel, s, d, got, want, behind, code)
		}
	}
	s, d, code := impl.Open(impl.DiskNew(99))
	if code != impl.CdOk || !sameStore(s, impl.Store{Live: live(2, 1), Batch: 1}) || d.Fuel != -1 || d.Down {
		t.Errorf("Open of a new disk = %v, %v, %d", s, d, code)
	}
	for i := range 4 {
		again, behind, code := impl.Open(d)
		if code != impl.CdOk || !sameStore(again, s) || !impl.SameDisk(behind, d) {
			t.Errorf("Open of what Open answered, %d times: %v, %v, %d", i+1, again, behind, code)
		}
		d = behind
	}
}

func TestOpenOfLists(t *testing.T) {
	at := func(key string, seg, at, n, batch int) impl.Entry {
		return impl.Entry{Key: key, Seg: seg, At: at, Len: n, Batch: batch}
	}
	b1, c2 := at("b", 1, 11, 11, 1), at("c", 1, 43, 11, 2)
	hinted := impl.Store{Live: live(9, 3, 4, 7), Batch: 13, Size: 22, Hinted: 3, Dir: []impl.Entry{at("b", 4, 32, 11, 11), at("c", 4, 0, 11, 10), at("d", 3, 21, 11, 4), at("e", 7, 0, 10, 12)}}
	all := listedImages()
	stores := map[string]impl.Store{
		"one empty segment":         {Live: live(2, 1), Batch: 1},
		"one segment":               {Live: live(2, 1), Batch: 3, Size: 66, Dir: []impl.Entry{b1, c2}},
		"one that is not sealed":    {Live: live(2, 1), Batch: 4, Size: 77, Dir: []impl.Entry{b1, c2}},
		"none that is sealed":       {Live: live(2, 1), Batch: 2, Size: 22},
		"a torn batch":              {Live: live(2, 1), Batch: 4, Size: 77, Dir: []impl.Entry{b1, c2}},
		"a cut seal":                {Live: live(2, 1), Batch: 3, Size: 54, Dir: []impl.Entry{at("a", 1, 0, 11, 1), b1}},
		"nothing right":             {Live: live(2, 1), Batch: 1},
		"a frame of no record":      {Live: live(2, 1), Batch: 3, Size: 66, Dir: []impl.Entry{b1, c2}},
		"several":                   {Live: live(9, 1, 2, 5), Batch: 5, Size: 21, Dir: []impl.Entry{at("a", 2, 0, 11, 3), c2}},
		"several, the last empty":   {Live: live(9, 1, 2, 5), Batch: 4, Size: 0, Dir: []impl.Entry{at("a", 2, 0, 11, 3), b1, c2}},
		"several, the last torn":    {Live: live(9, 1, 2, 5), Batch: 5, Size: 32, Dir: []impl.Entry{at("a", 2, 0, 11, 3), c2}},
		"several, the last wrong":   {Live: live(9, 1, 2, 5), Batch: 4, Size: 0, Dir: []impl.Entry{at("a", 2, 0, 11, 3), b1, c2}},
		"a batch over two segments": {Live: live(3, 1, 2), Batch: 2, Size: 23, Dir: []impl.Entry{at("a", 1, 0, 11, 1), at("b", 2, 0, 11, 1)}},
		"merged, with its hint":     hinted,
		"orphans":                   hinted,
		"full":                      hinted,
		"not kept":                  hinted,
		"merged and alone":          {Live: live(4, 3), Batch: 10, Size: 44, Hinted: 3, Dir: []impl.Entry{at("a", 3, 0, 11, 2), at("b", 3, 11, 10, 9), at("d", 3, 21, 11, 4)}},
		"merged of nothing":         {Live: live(6, 3, 4), Batch: 10, Hinted: 3},
		"merged of batch 0":         {Live: live(6, 3, 4), Batch: 1, Hinted: 3},
	}
	unhinted := hinted
	unhinted.Hinted = 0
	for _, name := range []string{"merged, without", "merged, the hint torn", "merged, the hint empty", "merged, another's hint"} {
		stores[name] = unhinted
	}
	for name, want := range stores {
		if s, d, code := impl.Open(all[name]); code != impl.CdOk || !sameStore(s, want) || d.Fuel != -1 || d.Down {
			t.Errorf("%s: Open = %v, %d, want %v", name, s, code, want)
		}
	}
}

// TestOpenLeavesTheFiles tells each file behind some of the lists, and how
// much of it is kept.
func TestOpenLeavesTheFiles(t *testing.T) {
	first := logOf(firstBatches()...)
	list := safeFile("live", slowShowLive(live(2, 1)))
	torn := first + logOf(put(3, "a", "v"))
	for _, c := range []struct {
		name string
		d    impl.Disk
		want []impl.File
	}{
		{"nothing to do", disk(list, safeFile("seg1", first)), []impl.File{list, safeFile("seg1", first)}},
		{"a last one that is not kept", disk(list, impl.File{Name: "seg1", Text: first}), []impl.File{list, safeFile("seg1", first)}},
		{"a torn end", disk(list, safeFile("seg1", torn+"x")), []impl.File{list, safeFile("seg1", torn)}},
		{"a torn end that is not kept", disk(list, impl.File{Name: "seg1", Text: torn + "x", Safe: 70}), []impl.File{list, safeFile("seg1", torn)}},
		{"a list that is not kept", disk(impl.File{Name: "live", Text: list.Text, Safe: 2}, segFile(1)), []impl.File{{Name: "live", Text: list.Text, Safe: 2}, {Name: "seg1"}}},
		{"one ahead that is not kept", disk(safeFile("live", slowShowLive(live(3, 1, 2))), impl.File{Name: "seg1", Text: first, Safe: 9}, impl.File{Name: "seg2", Text: "x", Safe: 1}), []impl.File{safeFile("live", slowShowLive(live(3, 1, 2))), {Name: "seg1", Text: first, Safe: 9}, {Name: "seg2"}}},
		{"a hint that is not kept", disk(list, segFile(1), impl.File{Name: "hint1", Text: "abc", Safe: 2}), []impl.File{{Name: "hint1", Text: "abc", Safe: 2}, list, {Name: "seg1"}}},
		{"orphans", disk(list, segFile(1), segFile(2), hintFile(2, "x"), safeFile("temp", "y")), []impl.File{list, {Name: "seg1"}}},
		{"others", disk(list, segFile(1), impl.File{Name: "other", Text: "xyz", Safe: 1}, impl.File{Name: "seg", Text: "x"}, safeFile("temps", "y")), []impl.File{list, {Name: "other", Text: "xyz", Safe: 1}, {Name: "seg", Text: "x"}, {Name: "seg1"}, safeFile("temps", "y")}},
	} {
		if _, d, code := impl.Open(c.d); code != impl.CdOk || !slices.Equal(d.Files, c.want) {
			t.Errorf("%s: Open leaves %v, %d, want %v", c.name, d, code, c.want)
		}
	}
}

func TestOpenByTheWords(t *testing.T) {
	for name, d := range allImages() {
		for _, capacity := range []int{impl.Used(d), impl.Used(d) + 1, impl.Used(d) + 7, impl.Used(d) + 8, impl.MaxCap} {
			d.Cap = capacity
			checkOpen(t, name, d)
		}
	}
}

func TestOpenWithEachFuel(t *testing.T) {
	for name, d := range allImages() {
		checkEachFuel(t, name, d)
	}
}

// TestOpenOfWrongDisks has disks that are wrong in one thing each, some of
// them Down as well: what is told is that they are wrong.
func TestOpenOfWrongDisks(t *testing.T) {
	disks := wrongDisks()
	for name, d := range allImages() {
		for change, wrong := range map[string]func(d *impl.Disk){
			"Cap below 0":      func(d *impl.Disk) { d.Cap = -1 },
			"Cap above MaxCap": func(d *impl.Disk) { d.Cap = impl.MaxCap + 1 },
			"Fuel below -1":    func(d *impl.Disk) { d.Fuel = -2 },
			"Fuel above":       func(d *impl.Disk) { d.Fuel = impl.MaxCap + 1 },
			"more than Cap":    func(d *impl.Disk) { d.Cap = impl.Used(*d) - 1 },
			"Safe below 0":     func(d *impl.Disk) { *d = with(*d, impl.File{Name: "live", Safe: -1}) },
			"Safe above":       func(d *impl.Disk) { *d = with(*d, impl.File{Name: "seg1", Text: "x", Safe: 2}) },
			"no name":          func(d *impl.Disk) { *d = with(*d, impl.File{Name: "Live"}) },
			"twice":            func(d *impl.Disk) { d.Files = append(slices.Clone(d.Files), segFile(9), segFile(9)) },
			"not in order":     func(d *impl.Disk) { d.Files = append(slices.Clone(d.Files), segFile(9), segFile(10)) },
			"too many":         func(d *impl.Disk) { d.Files = append(manyFiles(impl.MaxFiles), d.Files...) },
		} {
			other := d
			wrong(&other)
			if change == "too many" && len(d.Files) == 0 {
				continue
			}
			if impl.DiskOk(other) {
				t.Fatalf("%s, %s: it is right", name, change)
			}
			disks = append(disks, other)
		}
	}
	for _, d := range disks {
		for _, down := range []bool{false, true} {
			d.Down = down
			s, after, code := impl.Open(d)
			if code != impl.CdArgs || !sameStore(s, impl.Store{}) || !impl.SameDisk(after, d) {
				t.Fatalf("Open(%s) = %s", brief(d), brief(s, after, code))
			}
		}
	}
}

// TestOpenOfDisksThatAreDown has disks of all kinds: what is told is that
// they are Down, also of those that would not open. Without power, but not
// Down yet, they are looked at up to the first step.
func TestOpenOfDisksThatAreDown(t *testing.T) {
	for name, d := range allImages() {
		for _, fuel := range []int{-1, 0, 1, 7, impl.MaxCap} {
			down := fueled(d, fuel, true)
			s, after, code := impl.Open(down)
			if code != impl.CdDown || !sameStore(s, impl.Store{}) || !impl.SameDisk(after, down) {
				t.Errorf("%s: Open of it Down = %v, %v, %d", name, s, after, code)
			}
		}
	}
	for name, d := range allImages() {
		_, s := slowOpen(d)
		want, code := fueled(d, 0, s.did > 0), impl.CdDown
		if s.did == 0 {
			code = impl.CdCorrupt
		}
		store, after, got := impl.Open(fueled(d, 0, false))
		if got != code || !sameStore(store, impl.Store{}) || !impl.SameDisk(after, want) {
			t.Errorf("%s: Open of it without power = %v, %v, %d, want %d", name, store, after, got, code)
		}
	}
}

// TestOpenAsksTheListFirst has lists and segments that are wrong where the
// power fails at the first step: no step is done for them.
func TestOpenAsksTheListFirst(t *testing.T) {
	for _, name := range []string{"live is empty", "live is torn", "live is longer", "live is no list", "live is a record", "no segment", "another segment", "the first is not there", "one in between is not", "the last is not there", "the first is cut", "the first is longer", "one in between is cut", "one in between is wrong"} {
		for _, fuel := range []int{-1, 0, 1, 2} {
			d := fueled(corruptImages()[name], fuel, false)
			s, after, code := impl.Open(d)
			if code != impl.CdCorrupt || !sameStore(s, impl.Store{}) || !impl.SameDisk(after, d) {
				t.Errorf("%s, fuel %d: Open = %v, %v, %d", name, fuel, s, after, code)
			}
		}
	}
	// What the records tell is asked behind the two steps, and ahead of the
	// orphans.
	for name, steps := range map[string]int{"kept without a mark": 1, "kept, and a torn mark": 2, "too many keys by a seal": 1, "too many, and a torn end": 2, "too many behind a hint": 1} {
		d := corruptImages()[name]
		for fuel := range steps + 2 {
			s, after, code := impl.Open(fueled(d, fuel, false))
			want := impl.CdDown
			if fuel >= steps {
				want = impl.CdCorrupt
			}
			if code != want || !sameStore(s, impl.Store{}) || len(after.Files) != len(d.Files) || after.Fuel != max(0, fuel-steps) {
				t.Errorf("%s, fuel %d: Open = %v, %v, %d", name, fuel, s, after, code)
			}
		}
	}
}

// TestOpenOfWrongLives has texts of live that are torn and turned at each
// byte, and frames of what is no list.
func TestOpenOfWrongLives(t *testing.T) {
	refused := func(what, text string) {
		t.Helper()
		for _, d := range []impl.Disk{disk(safeFile("live", text), segFile(1), segFile(2), safeFile("temp", "x")), with(mergedDisk(), safeFile("live", text))} {
			if s, after, code := impl.Open(d); code != impl.CdCorrupt || !sameStore(s, impl.Store{}) || !impl.SameDisk(after, d) {
				t.Errorf("%s: live %.60q: Open = %v, %v, %d", what, text, s, after, code)
			}
		}
	}
	for _, v := range []impl.Live{live(2, 1), live(3, 1, 2), live(300, 128, 299), live(61, run(1, 60)...)} {
		text := slowShowLive(v)
		for n := range len(text) {
			refused("torn", text[:n])
			for _, turn := range []string{"\x01", "\x80", "\xff"} {
				refused("turned", turned(text, n, turn))
			}
		}
		refused("longer", text+"\x00")
		refused("twice", text+text)
	}
	for _, v := range wrongLives() {
		refused("no list", slowFrame(listOf(v)))
	}
	for name, piece := range badPieces() {
		refused(name, piece)
	}
}

// TestOpenOfMissingSegments takes each segment of some away.
func TestOpenOfMissingSegments(t *testing.T) {
	for _, n := range []int{1, 2, 3, 4, 7, impl.MaxSegs} {
		d := rowOfSegments(n)
		if _, _, code := checkOpen(t, "none missing", d); code != impl.CdOk {
			t.Fatalf("of %d segments: code %d", n, code)
		}
		for at := range n {
			gone := without(d, fmt.Sprint("seg", 2*at+2))
			for _, d := range []impl.Disk{gone, with(gone, hintFile(2*at+2, "x")), with(gone, segFile(2*at+1)), with(gone, safeFile("temp", "x"))} {
				if s, after, code := impl.Open(d); code != impl.CdCorrupt || !sameStore(s, impl.Store{}) || !impl.SameDisk(after, d) {
					t.Errorf("of %d segments number %d gone: Open = %v, %d", n, at, s, code)
				}
			}
		}
	}
}

// rowOfSegments has n segments, seg2, seg4 and so on, each with a batch of its
// own.
func rowOfSegments(n int) impl.Disk {
	var ids []int
	var files []impl.File
	for i := range n {
		batch := i + 1
		ids = append(ids, 2*i+2)
		files = append(files, segFile(2*i+2, sealed(batch, put(batch, fmt.Sprintf("k%02d", i%impl.MaxKeys), "v"))...))
	}
	return listed(live(2*n+3, ids...), files...)
}

// TestOpenOfTornSegments puts what a scan does not get past behind the records
// of each segment, and cuts and turns each at its bytes.
func TestOpenOfTornSegments(t *testing.T) {
	for _, n := range []int{1, 2, 3} {
		d := rowOfSegments(n)
		whole, _, _ := impl.Open(d)
		for at := range n {
			name := fmt.Sprint("seg", 2*at+2)
			last := at == n-1
			text, _ := impl.FileText(d, name)
			for piece, bad := range badPieces() {
				for _, more := range []string{bad, bad + text} {
					s, after, code := checkOpen(t, piece, with(d, safeFile(name, text+more)))
					left, _ := impl.FileText(after, name)
					if last && (code != impl.CdOk || !sameStore(s, whole) || left != text) || !last && code != impl.CdCorrupt {
						t.Errorf("%s behind number %d of %d: Open = %v, %d", piece, at, n, s, code)
					}
				}
			}
			for cut := range len(text) {
				checkTorn(t, n, at, cut, with(d, safeFile(name, text[:cut])))
				for _, turn := range []string{"\x01", "\x80", "\xff"} {
					checkTorn(t, n, at, cut, with(d, safeFile(name, turned(text, cut, turn))))
				}
			}
		}
	}
}

// checkTorn is of segments of two records, of which number at is wrong from a
// byte on that stands in one of these.
func checkTorn(t *testing.T, n, at, cut int, d impl.Disk) {
	t.Helper()
	text, _ := impl.FileText(d, fmt.Sprint("seg", 2*at+2))
	s, after, code := checkOpen(t, fmt.Sprint("number ", at, " of ", n, " wrong at ", cut), d)
	end := len(logOf(put(1, "k00", "v")))
	if cut < end {
		end = 0
	}
	whole := end == len(text)
	if at < n-1 && !whole {
		if code != impl.CdCorrupt || !impl.SameDisk(after, d) {
			t.Errorf("number %d of %d wrong at %d: code %d", at, n, cut, code)
		}
		return
	}
	if at == n-1 && (code != impl.CdOk || s.Size != end || len(s.Dir) != n-1) {
		t.Errorf("number %d of %d wrong at %d: %v, %d", at, n, cut, s, code)
	}
}

// TestOpenIsAllOrNothing cuts a segment with three batches at each byte: each
// of them is there whole or not at all, and its number is not taken again.
func TestOpenIsAllOrNothing(t *testing.T) {
	batches := [][]impl.Rec{
		sealed(1, putsOf(1, "a", "b", "c")...),
		sealed(2, put(2, "a", "x"), del(2, "b"), put(2, "d", "")),
		sealed(3, del(3, "a"), del(3, "c"), del(3, "d")),
	}
	keys := [][]string{nil, {"a", "b", "c"}, {"a", "c", "d"}, nil}
	text, ends := "", []int{0}
	for _, l := range batches {
		text += logOf(l...)
		ends = append(ends, len(text))
	}
	for n := range len(text) + 1 {
		whole, begun := 0, 0
		for i := range batches {
			if n >= ends[i+1] {
				whole = i + 1
			}
			if n >= ends[i]+len(logOf(batches[i][0])) {
				begun = i + 1
			}
		}
		for _, d := range []impl.Disk{
			listed(live(2, 1), safeFile("seg1", text[:n])),
			listed(live(2, 1), safeFile("seg1", text[:n]+"\x00")),
			impl.Power(listed(live(2, 1), impl.File{Name: "seg1", Text: text, Safe: n}), nil),
			impl.Power(listed(live(2, 1), impl.File{Name: "seg1", Text: text}), []int{n}),
		} {
			s, _, code := checkOpen(t, "cut", d)
			if code != impl.CdOk || !slices.Equal(impl.DirKeys(s.Dir), keys[whole]) || s.Batch != begun+1 {
				t.Errorf("cut at %d: Open = %v, %d, want the keys %q and batch %d", n, s, code, keys[whole], begun+1)
			}
		}
	}
}

// TestOpenOfHints has, for the first segment, hints that differ from its own
// one in one thing.
func TestOpenOfHints(t *testing.T) {
	text := mergedPairs()
	own, _ := slowHintOf(3, text)
	right, _, _ := impl.Open(mergedDisk())
	unhinted := right
	unhinted.Hinted = 0
	expect := func(what string, d impl.Disk, want impl.Store) {
		t.Helper()
		if s, _, code := checkOpen(t, what, d); code != impl.CdOk || !sameStore(s, want) {
			t.Errorf("%s: Open = %v, %d, want %v", what, s, code, want)
		}
	}
	expect("right", mergedDisk(), right)
	cases := fitCases(3, own)
	for _, name := range slices.Sorted(maps.Keys(cases)) {
		h := zeroed(cases[name])
		want := unhinted
		if sameHint(h, own) {
			want = right
		}
		expect(name, with(mergedDisk(), hintFile(3, summed(insideOf(h)))), want)
	}
	shown := slowShowHint(own)
	for n := range len(shown) {
		expect("torn", with(mergedDisk(), hintFile(3, shown[:n])), unhinted)
		for _, turn := range []string{"\x01", "\x80", "\xff"} {
			expect("turned", with(mergedDisk(), hintFile(3, turned(shown, n, turn))), unhinted)
		}
	}
	expect("longer", with(mergedDisk(), hintFile(3, shown+"\x00")), unhinted)
	expect("not kept", with(mergedDisk(), impl.File{Name: "hint3", Text: shown}), right)
	for _, id := range []int{1, 4, 7, 8, impl.MaxId} {
		other := without(mergedDisk(), "hint3")
		expect("of another name", with(other, hintFile(id, shown)), unhinted)
		expect("beside", with(mergedDisk(), hintFile(id, shown)), right)
	}
	for name, text := range map[string]string{"hint03": shown, "hint": shown, "hint33": shown, "3": shown} {
		expect("named "+name, with(without(mergedDisk(), "hint3"), safeFile(name, text)), unhinted)
	}
}

// zeroed is the hint with noughts for numbers below 0, of which there is no
// text.
func zeroed(h impl.Hint) impl.Hint {
	h.Size, h.Mark = max(0, h.Size), max(0, h.Mark)
	h.List = slices.Clone(h.List)
	for i, e := range h.List {
		h.List[i].Seg, h.List[i].At, h.List[i].Len, h.List[i].Batch = max(0, e.Seg), max(0, e.At), max(0, e.Len), max(0, e.Batch)
	}
	return h
}

// TestOpenBelievesNoHint has segments of which a hint may not speak: HintOf
// has none of them, whatever the file says.
func TestOpenBelievesNoHint(t *testing.T) {
	x := keep(3, "x", "v")
	for name, recs := range map[string][]impl.Rec{
		"batches":               firstBatches(),
		"nothing":               nil,
		"merged, and a batch":   inRow(marked(4, x), sealed(5, put(5, "a", "v"))),
		"a batch, and merged":   inRow(sealed(1, put(1, "a", "v")), marked(4, x)),
		"kept of a later one":   marked(2, x),
		"keys that do not":      marked(4, keep(3, "y", "v"), x),
		"a key twice":           marked(4, x, x),
		"two marks":             inRow(marked(4, x), marked(4)),
		"a put beside the keep": inRow([]impl.Rec{put(1, "a", "v")}, marked(4, x)),
	} {
		g := slowRegroup(impl.Group{}, segPlaces(3, logOf(recs...)))
		told := hint(len(logOf(recs...)), g.Last, g.Dir...)
		for _, h := range []impl.Hint{told, hint(told.Size, told.Mark), hint(told.Size, 4, ofSeg(3, entries("q"))...)} {
			for _, ids := range [][]int{{3}, {3, 4}} {
				d := listed(live(9, ids...), segFile(3, recs...), segFile(4), hintFile(3, slowShowHint(h)))
				s, _, code := checkOpen(t, name, d)
				if code != impl.CdOk || s.Hinted != 0 || !slices.Equal(s.Dir, g.Dir) || s.Batch != g.Last+1 {
					t.Errorf("%s, with the hint %v: Open = %v, %d, want %v", name, h, s, code, g)
				}
			}
		}
	}
}

// TestOpenGoesOnBehindAHint has the same with the hint and without, for rows
// of batches behind a merge.
func TestOpenGoesOnBehindAHint(t *testing.T) {
	opened := 0
	for seed := 1; seed <= 40; seed++ {
		for _, keyCount := range []int{1, 5, 20, 25} {
			d := longImage(seed, keyCount)
			s, _, code := checkOpen(t, "with its hint", d)
			plain, _, plainCode := checkOpen(t, "without", without(d, "hint5"))
			if code == impl.CdOk && s.Hinted == 5 {
				opened++
				s.Hinted = 0
			}
			if code != plainCode || !sameStore(s, plain) {
				t.Errorf("seed %d: with its hint %v, %d, without %v, %d", seed, s, code, plain, plainCode)
			}
		}
	}
	if opened < 50 {
		t.Errorf("only %d were opened by a hint", opened)
	}
}

// longImage merges what one long row tells, and has another row in three
// segments behind.
func longImage(seed, keyCount int) impl.Disk {
	g := impl.Regroup(impl.Group{}, longRow(40, min(keyCount, impl.MaxKeys), seed))
	var kept []impl.Rec
	for i, e := range g.Dir {
		kept = append(kept, keep(e.Batch, e.Key, strings.Repeat("v", i)))
	}
	text := mergedText(g.Last, kept...)
	texts := make([]string, 3)
	for i, p := range longRow(45, keyCount, seed+100) {
		texts[i/16] += logOf(p.Rec)
	}
	return listed(live(20, 5, 6, 8, 19), safeFile("seg5", text), ownHint(5, text), safeFile("seg6", texts[0]), safeFile("seg8", texts[1]), safeFile("seg19", texts[2]))
}

// TestOpenTellsRegroup has records that bring about each of the codes that
// Regroup tells, in one segment and spread over three.
func TestOpenTellsRegroup(t *testing.T) {
	seen := map[int]int{}
	for _, recs := range append(someLists(), firstBatches(), dirRows(impl.MaxKeys), dirRows(impl.MaxKeys+1), inRow(dirRows(impl.MaxKeys), sealed(9, del(9, "k00"))), marked(3, keepsOf(2, rowKeys(impl.MaxKeys)...)...)) {
		recs = slices.DeleteFunc(slices.Clone(recs), func(r impl.Rec) bool { return !slowRecOk(r) })
		for a := range len(recs) + 1 {
			for _, b := range []int{a, (a + len(recs)) / 2, len(recs)} {
				d := listed(live(9, 1, 2, 3), segFile(1, recs[:a]...), segFile(2, recs[a:b]...), segFile(3, recs[b:]...))
				g, _ := slowGroup(d, []int{1, 2, 3})
				s, _, code := checkOpen(t, "some records", d)
				if (code == impl.CdOk) != (g.Code == impl.GrOk) || code == impl.CdOk && (!slices.Equal(s.Dir, g.Dir) || s.Batch != g.Last+1) {
					t.Errorf("Open of %v = %v, %d, and the group is %v", recs, s, code, g)
				}
				seen[g.Code]++
			}
		}
	}
	for code := impl.GrOk; code <= impl.GrMany; code++ {
		if seen[code] == 0 {
			t.Errorf("no records are of code %d", code)
		}
	}
}

// TestOpenRemovesOrphans tells which files are there behind each step.
func TestOpenRemovesOrphans(t *testing.T) {
	names := func(d impl.Disk) []string {
		var l []string
		for _, f := range d.Files {
			l = append(l, f.Name)
		}
		return l
	}
	orphans := []string{"hint1", "hint10", "hint100000", "hint2", "seg1", "seg10", "seg100000", "seg2", "temp"}
	stay := []string{"hint3", "live", "other", "seg", "seg01", "seg100001", "seg3", "seg4", "temps"}
	var files []impl.File
	for _, name := range append(slices.Clone(orphans), "hint3", "other", "seg", "seg01", "seg100001", "seg3", "seg4", "temps") {
		files = append(files, impl.File{Name: name})
	}
	for n := range len(orphans) + 2 {
		want := append(slices.Clone(orphans[min(n, len(orphans)):]), stay...)
		slices.Sort(want)
		_, d, code := impl.Open(fueled(listed(live(9, 3, 4), files...), n+1, false))
		if !slices.Equal(names(d), want) || (code == impl.CdOk) != (n >= len(orphans)) {
			t.Errorf("behind %d steps more: %q, %d, want %q", n, names(d), code, want)
		}
	}
	// Without a list those of all numbers go, and then there is seg1 anew.
	gone := append(slices.Clone(orphans[:4]), "hint3", "seg1", "seg10", "seg100000", "seg2", "seg3", "seg4", "temp")
	left := []string{"other", "seg", "seg01", "seg100001", "temps"}
	for n := range len(gone) + 1 {
		want := append(slices.Clone(gone[n:]), left...)
		slices.Sort(want)
		_, d, code := impl.Open(fueled(disk(files...), n, false))
		if !slices.Equal(names(d), want) || code != impl.CdDown {
			t.Errorf("without a list, behind %d steps: %q, %d, want %q", n, names(d), code, want)
		}
	}
	s, d, code := impl.Open(fueled(disk(files...), len(gone)+5, false))
	if want := []string{"live", "other", "seg", "seg01", "seg1", "seg100001", "temps"}; code != impl.CdOk || !slices.Equal(names(d), want) || !sameStore(s, impl.Store{Live: live(2, 1), Batch: 1}) {
		t.Errorf("without a list: %v, %q, %d", s, names(d), code)
	}
}

func TestOpenOfManySegments(t *testing.T) {
	for _, n := range []int{1, impl.MaxSegs - 1, impl.MaxSegs} {
		d := rowOfSegments(n)
		s, after, code := checkOpen(t, "many", d)
		if code != impl.CdOk || len(s.Live.Ids) != n || s.Batch != n+1 || len(s.Dir) != min(n, impl.MaxKeys) || !impl.SameDisk(after, d) {
			t.Errorf("of %d segments: %v, %d", n, s, code)
		}
	}
	// MaxSegs segments, a hint of each, and the most files that there can be.
	d := rowOfSegments(impl.MaxSegs)
	for i := range impl.MaxSegs {
		d = with(d, hintFile(2*i+2, "x"))
	}
	for _, f := range manyFiles(impl.MaxFiles - len(d.Files)) {
		d = with(d, f)
	}
	if s, after, code := checkOpen(t, "MaxFiles", d); code != impl.CdOk || s.Hinted != 0 || !impl.SameDisk(after, d) || len(d.Files) != impl.MaxFiles {
		t.Errorf("of %d files: %v, %d", len(d.Files), s, code)
	}
	over := rowOfSegments(impl.MaxSegs + 1)
	over = with(over, safeFile("live", slowFrame(listOf(live(200, run(1, impl.MaxSegs+1)...)))))
	if _, _, code := checkOpen(t, "a list that is too long", over); code != impl.CdCorrupt {
		t.Errorf("of %d segments: %d", impl.MaxSegs+1, code)
	}
	top := impl.MaxId - 1
	last := listed(live(impl.MaxId, top-1, top), segFile(top-1, firstBatches()...), segFile(top))
	if s, _, code := checkOpen(t, "the last numbers", with(last, segFile(impl.MaxId))); code != impl.CdOk || !sameLive(s.Live, live(impl.MaxId, top-1, top)) {
		t.Errorf("of the last numbers: %v, %d", s, code)
	}
}

func TestOpenAtMaxBatch(t *testing.T) {
	top := impl.MaxBatch
	for name, recs := range map[string][]impl.Rec{
		"sealed":     sealed(top, put(top, "a", "v")),
		"not sealed": {put(top, "a", "v")},
		"a seal":     {seal(top, 3, 7)},
		"dropped":    {del(top, "a")},
		"merged":     marked(top, keep(top, "a", "v")),
		"the first":  inRow(sealed(top, put(top, "a", "v")), sealed(1, put(1, "b", "v"))),
		"one less":   sealed(top-1, put(top-1, "a", "v")),
	} {
		want := top + 1
		if name == "one less" {
			want = top
		}
		d := listed(live(4, 1, 3), segFile(1, recs...), segFile(3))
		for _, d := range []impl.Disk{d, with(d, ownHint(1, logOf(recs...)))} {
			if s, _, code := checkOpen(t, name, d); code != impl.CdOk || s.Batch != want || (s.Hinted == 1) != (name == "merged" && len(d.Files) == 4) {
				t.Errorf("%s: Open = %v, %d", name, s, code)
			}
		}
	}
	if _, _, code := checkOpen(t, "above", listed(live(2, 1), safeFile("seg1", slowFrame("\x02"+numbersOf(top+1)+"\x01a")))); code != impl.CdOk {
		t.Errorf("a record of batch %d: %d", top+1, code)
	}
}

// TestOpenOfABigDisk is of as many bytes as there can be.
func TestOpenOfABigDisk(t *testing.T) {
	one := logOf(sealed(1, put(1, "a", "v"))...)
	list := slowShowLive(live(2, 1))
	room := impl.MaxCap - len(list)
	text := strings.Repeat(one, room/len(one))
	for name, c := range map[string]struct {
		text string
		size int
		keys int
	}{
		"batches":      {text, len(text), 1},
		"to the end":   {text + strings.Repeat("x", room-len(text)), len(text), 1},
		"puts":         {strings.Repeat(logOf(put(7, "a", "v")), room/11), room / 11 * 11, 0},
		"drops":        {strings.Repeat(logOf(del(7, "a")), room/9), room / 9 * 9, 0},
		"nothing":      {strings.Repeat("\x00", room), 0, 0},
		"seals":        {strings.Repeat(logOf(seal(3, 8, 5)), room/12), room / 12 * 12, 0},
		"one in front": {one + strings.Repeat("\xff", room-len(one)), len(one), 1},
	} {
		d := diskWith(impl.MaxCap, safeFile("live", list), safeFile("seg1", c.text))
		s, after, code := impl.Open(d)
		if left, _ := impl.FileText(after, "seg1"); code != impl.CdOk || s.Size != c.size || len(s.Dir) != c.keys || len(left) != c.size {
			t.Errorf("%s: Open = %v, %d, want %d bytes and %d keys", name, s, code, c.size, c.keys)
		}
		if again, _, code := impl.Open(after); code != impl.CdOk || !sameStore(again, s) {
			t.Errorf("%s: opened again = %v, %d, want %v", name, again, code, s)
		}
	}
}

// TestOpenOfAnyImage turns and cuts the files of images at each byte, takes
// them away, and gives them the texts of others.
func TestOpenOfAnyImage(t *testing.T) {
	base := with(with(mergedDisk(), safeFile("temp", slowShowLive(live(9, 3, 4)))), hintFile(9, "x"))
	for _, f := range base.Files {
		checkOpen(t, "without "+f.Name, without(base, f.Name))
		for n := range len(f.Text) + 1 {
			checkOpen(t, "cut "+f.Name, with(base, safeFile(f.Name, f.Text[:n])))
			checkOpen(t, "more in "+f.Name, with(base, safeFile(f.Name, f.Text[:n]+"\x00"+f.Text[n:])))
			checkOpen(t, "not kept "+f.Name, with(base, impl.File{Name: f.Name, Text: f.Text, Safe: n}))
			if n < len(f.Text) {
				checkOpen(t, "turned "+f.Name, with(base, safeFile(f.Name, turned(f.Text, n, "\x10"))))
			}
		}
		for _, other := range base.Files {
			checkOpen(t, "another's text", with(base, safeFile(f.Name, other.Text)))
			checkOpen(t, "another's text behind", with(base, safeFile(f.Name, f.Text+other.Text)))
		}
	}
}

// randomDisk has files of some names with texts put together of pieces that
// are right, or torn, or neither.
func randomDisk(below func(n int) int) impl.Disk {
	x := keep(3, "x", "v")
	pieces := []string{
		"", logOf(firstBatches()...), logOf(laterBatches()...), mergedPairs(), logOf(sealed(5, put(5, "a", "v"))...), logOf(put(6, "q", "v")), logOf(x), logOf(marked(4, x)...), mergedText(2),
		slowShowLive(live(2, 1)), slowShowLive(live(3, 1, 2)), slowShowLive(live(9, 2, 3)), slowShowLive(live(9, 1, 3)), "torn", logOf(x)[:5], ownHint(1, mergedPairs()).Text, ownHint(2, mergedPairs()).Text, ownHint(1, mergedText(2)).Text,
	}
	var d = impl.DiskNew(2000)
	for _, name := range []string{"hint1", "hint2", "hint3", "seg1", "seg2", "seg3", "seg9", "temp", "other"} {
		text := ""
		for range below(4) {
			text += pieces[below(9)]
		}
		if strings.HasPrefix(name, "hint") {
			text = pieces[15+below(3)]
		}
		if below(6) == 0 {
			text += pieces[below(len(pieces))]
		}
		if below(4) > 0 {
			d = with(d, impl.File{Name: name, Text: text, Safe: len(text) - min(len(text), max(0, below(60)-30))})
		}
	}
	if below(8) > 0 {
		d = with(d, safeFile("live", pieces[9+below(4)]))
	}
	return d
}

func TestOpenOfRandomDisks(t *testing.T) {
	seed := 7
	below := func(n int) int {
		seed = (seed*1103515245 + 12345) % 2147483648
		return seed / 65536 % n
	}
	seen := map[int]int{}
	hinted := 0
	for i := range 3000 {
		d := randomDisk(below)
		s, _, code := checkOpen(t, "random", d)
		seen[code]++
		if s.Hinted > 0 {
			hinted++
		}
		if i%10 == 0 {
			checkEachFuel(t, "random", d)
		}
	}
	if seen[impl.CdOk] < 300 || seen[impl.CdCorrupt] < 300 || hinted < 10 {
		t.Errorf("of the random disks there are by their codes %v, and %d with a hint", seen, hinted)
	}
}

// TestOpenKeepsWhatItTells lets the power fail behind Open: of a settled disk
// with bytes put behind the last segment all that was told is there again.
func TestOpenKeepsWhatItTells(t *testing.T) {
	batch := logOf(sealed(13, put(13, "new", "v"))...)
	for _, more := range []string{"", batch, batch[:len(batch)-1], batch + "x", "x"} {
		for safe := range len(more) + 1 {
			d := mergedDisk()
			text, _ := impl.FileText(d, "seg7")
			d = with(d, impl.File{Name: "seg7", Text: text + more, Safe: len(text) + safe})
			s, after, code := checkOpen(t, "with more behind", d)
			if code != impl.CdOk || impl.Volatile(after) != 0 {
				t.Fatalf("with %q behind: code %d, %d bytes are not kept", more, code, impl.Volatile(after))
			}
			for _, tears := range someTears() {
				again, _, code := checkOpen(t, "behind Power", impl.Power(after, tears))
				if code != impl.CdOk || !sameStore(again, s) {
					t.Errorf("with %q behind, Power with %v: %v, %d, want %v", more, tears, again, code, s)
				}
			}
		}
	}
}

// slowPutLive is PutLive by the chapter's words.
func slowPutLive(d impl.Disk, v impl.Live) *stepper {
	s := stepperOf(d)
	if !impl.DiskOk(d) || !slowLiveOk(v) {
		s.code = impl.CdArgs
		return s
	}
	s.putLive(v)
	return s
}

func checkPutLive(t *testing.T, what string, d impl.Disk, v impl.Live) (impl.Disk, int) {
	t.Helper()
	after, code := impl.PutLive(d, v)
	want := slowPutLive(d, v)
	if !impl.SameDisk(after, want.d) || code != want.code {
		t.Fatalf("%s: PutLive(%s) = %s, want %s", what, brief(d, v), brief(after, code), brief(want.d, want.code))
	}
	return after, code
}

func TestPutLive(t *testing.T) {
	v := live(9, 3, 7)
	list := summed("\x04\x09\x02\x03\x07")
	old := safeFile("live", slowShowLive(live(2, 1)))
	now := safeFile("live", list)
	temp := impl.File{Name: "temp", Text: "123456789", Safe: 4}
	for _, c := range []struct {
		name  string
		d     impl.Disk
		want  []impl.File
		code  int
		steps int
	}{
		{"no files", diskWith(99), []impl.File{now}, impl.CdOk, 4},
		{"a list", diskWith(99, old, segFile(1)), []impl.File{now, segFile(1)}, impl.CdOk, 4},
		{"temp", diskWith(99, temp), []impl.File{now}, impl.CdOk, 5},
		{"a list and temp", diskWith(99, old, temp), []impl.File{now}, impl.CdOk, 5},
		{"a list that is not right", diskWith(99, impl.File{Name: "live", Text: "x"}), []impl.File{now}, impl.CdOk, 4},
		{"just room", diskWith(17, old), []impl.File{now}, impl.CdOk, 4},
		{"no room by one", diskWith(16, old), []impl.File{old, {Name: "temp"}}, impl.CdSpace, 2},
		{"no room", diskWith(8, old), []impl.File{old, {Name: "temp"}}, impl.CdSpace, 2},
		{"just room in temp", diskWith(17, old, temp), []impl.File{now}, impl.CdOk, 5},
		{"no room in temp by one", diskWith(8, safeFile("temp", "12345678")), []impl.File{{Name: "temp"}}, impl.CdSpace, 3},
		{"just room in a full temp", diskWith(9, temp), []impl.File{now}, impl.CdOk, 5},
		{"MaxFiles", diskWith(99, manyFiles(impl.MaxFiles)...), manyFiles(impl.MaxFiles), impl.CdSpace, 1},
		{"MaxFiles less 1", diskWith(99, manyFiles(impl.MaxFiles-1)...), append(manyFiles(impl.MaxFiles-1), now), impl.CdOk, 4},
		{"MaxFiles with temp", diskWith(99, append(manyFiles(impl.MaxFiles-1), temp)...), append(manyFiles(impl.MaxFiles-1), now), impl.CdOk, 5},
	} {
		for fuel := range c.steps + 2 {
			d, code := checkPutLive(t, c.name, fueled(c.d, fuel, false), v)
			if fuel < c.steps && (code != impl.CdDown || !d.Down || d.Fuel != 0) || fuel >= c.steps && (code != c.code || d.Down || d.Fuel != fuel-c.steps || !slices.Equal(d.Files, c.want)) {
				t.Errorf("%s, fuel %d: PutLive = %v, %d, want %v, %d", c.name, fuel, d, code, c.want, c.code)
			}
		}
		if d, code := checkPutLive(t, c.name, c.d, v); code != c.code || !slices.Equal(d.Files, c.want) || d.Fuel != -1 {
			t.Errorf("%s: PutLive = %v, %d, want %v, %d", c.name, d, code, c.want, c.code)
		}
	}
}

// TestPutLiveStepByStep has the disk behind each step.
func TestPutLiveStepByStep(t *testing.T) {
	old := safeFile("live", slowShowLive(live(2, 1)))
	list := slowShowLive(live(9, 3, 7))
	for fuel, files := range [][]impl.File{
		{old, {Name: "temp", Text: "abc", Safe: 1}},
		{old},
		{old, {Name: "temp"}},
		{old, {Name: "temp", Text: list}},
		{old, safeFile("temp", list)},
		{safeFile("live", list)},
	} {
		d, code := impl.PutLive(fueled(diskWith(99, old, impl.File{Name: "temp", Text: "abc", Safe: 1}), fuel, false), live(9, 3, 7))
		want := fueled(diskWith(99, files...), 0, fuel < 5)
		if !impl.SameDisk(d, want) || (code == impl.CdOk) != (fuel == 5) {
			t.Errorf("fuel %d: PutLive = %v, %d, want %v", fuel, d, code, want)
		}
		// However the power fails, there is the old list or the new one.
		for _, tears := range someTears() {
			text, _ := impl.FileText(impl.Power(d, tears), "live")
			if want := map[bool]string{false: old.Text, true: list}[fuel == 5]; text != want {
				t.Errorf("fuel %d, Power with %v: live is %q", fuel, tears, text)
			}
		}
	}
}

// TestPutLiveOfWrongThings has right and wrong disks with right and wrong
// lists.
func TestPutLiveOfWrongThings(t *testing.T) {
	wrong := append(append(wrongLives(), belowLives()...), longLive())
	for _, d := range append(rightDisks(), mergedDisk(), disk(safeFile("temp", "x"))) {
		for _, v := range wrong {
			if after, code := checkPutLive(t, "a wrong list", d, v); code != impl.CdArgs || !impl.SameDisk(after, d) {
				t.Errorf("PutLive(%s) = %s", brief(d, v), brief(after, code))
			}
		}
		for _, v := range rightLives() {
			after, code := checkPutLive(t, "a right list", d, v)
			if text, _ := impl.FileText(after, "live"); code == impl.CdOk && text != slowShowLive(v) || code == impl.CdArgs || code == impl.CdCorrupt {
				t.Errorf("PutLive(%s) = %s", brief(d, v), brief(after, code))
			}
			for _, fuel := range []int{-1, 0, 3} {
				down := fueled(d, fuel, true)
				if after, code := checkPutLive(t, "Down", down, v); code != impl.CdDown || !impl.SameDisk(after, down) {
					t.Errorf("PutLive of a disk that is Down = %s", brief(after, code))
				}
			}
			if after, code := checkPutLive(t, "no power", fueled(d, 0, false), v); code != impl.CdDown || !impl.SameDisk(after, fueled(d, 0, true)) {
				t.Errorf("PutLive of a disk without power = %s", brief(after, code))
			}
		}
	}
	for _, d := range wrongDisks() {
		for _, v := range append(rightLives(), wrong...) {
			if after, code := checkPutLive(t, "a wrong disk", d, v); code != impl.CdArgs || !impl.SameDisk(after, d) {
				t.Errorf("PutLive(%s) = %s", brief(d, v), brief(after, code))
			}
		}
	}
}

// TestPutLiveIsOpened puts each right list on a disk with its segments.
func TestPutLiveIsOpened(t *testing.T) {
	for _, v := range rightLives() {
		var files []impl.File
		for _, id := range v.Ids {
			files = append(files, segFile(id))
		}
		d, code := checkPutLive(t, "a new list", disk(files...), v)
		s, _, opened := checkOpen(t, "a new list", d)
		if code != impl.CdOk || opened != impl.CdOk || !sameStore(s, impl.Store{Live: v, Batch: 1}) {
			t.Errorf("behind PutLive of %v: %d, %v, %d", v, code, s, opened)
		}
	}
}

// someStore has something in each of its fields.
func someStore() impl.Store {
	return impl.Store{Live: live(9, 3, 7), Dir: ofSeg(3, entries("a", "b", "c")), Batch: 12, Size: 40, Hinted: 3}
}

func storeChanges() map[string]func(s *impl.Store) {
	l := map[string]func(s *impl.Store){
		"no Ids":          func(s *impl.Store) { s.Live.Ids = nil },
		"an Id less":      func(s *impl.Store) { s.Live.Ids = s.Live.Ids[:1] },
		"an Id more":      func(s *impl.Store) { s.Live.Ids = append(s.Live.Ids, 8) },
		"an Id 0 more":    func(s *impl.Store) { s.Live.Ids = append(s.Live.Ids, 0) },
		"Ids exchanged":   func(s *impl.Store) { s.Live.Ids = []int{7, 3} },
		"no Dir":          func(s *impl.Store) { s.Dir = nil },
		"an entry less":   func(s *impl.Store) { s.Dir = s.Dir[:2] },
		"an entry more":   func(s *impl.Store) { s.Dir = append(s.Dir, entry("d", 1)) },
		"a zero one more": func(s *impl.Store) { s.Dir = append(s.Dir, impl.Entry{}) },
		"exchanged":       func(s *impl.Store) { s.Dir[0], s.Dir[1] = s.Dir[1], s.Dir[0] },
	}
	for _, off := range []int{-1, 1, 1 << 32, math.MinInt} {
		l[fmt.Sprint("Next by ", off)] = func(s *impl.Store) { s.Live.Next += off }
		l[fmt.Sprint("Batch by ", off)] = func(s *impl.Store) { s.Batch += off }
		l[fmt.Sprint("Size by ", off)] = func(s *impl.Store) { s.Size += off }
		l[fmt.Sprint("Hinted by ", off)] = func(s *impl.Store) { s.Hinted += off }
		for at := range 2 {
			l[fmt.Sprint("Id ", at, " by ", off)] = func(s *impl.Store) { s.Live.Ids[at] += off }
		}
		for at := range 3 {
			l[fmt.Sprint("Seg ", at, " by ", off)] = func(s *impl.Store) { s.Dir[at].Seg += off }
			l[fmt.Sprint("At ", at, " by ", off)] = func(s *impl.Store) { s.Dir[at].At += off }
			l[fmt.Sprint("Len ", at, " by ", off)] = func(s *impl.Store) { s.Dir[at].Len += off }
			l[fmt.Sprint("Batch ", at, " by ", off)] = func(s *impl.Store) { s.Dir[at].Batch += off }
			l[fmt.Sprint("Key ", at)] = func(s *impl.Store) { s.Dir[at].Key += "x" }
			l[fmt.Sprint("no Key ", at)] = func(s *impl.Store) { s.Dir[at].Key = "" }
		}
	}
	return l
}

func TestSameStore(t *testing.T) {
	alike := func(what string, a, b impl.Store, want bool) {
		t.Helper()
		if impl.SameStore(a, b) != want || impl.SameStore(b, a) != want {
			t.Errorf("%s: SameStore(%v, %v) is not %v", what, a, b, want)
		}
	}
	alike("itself", someStore(), someStore(), true)
	alike("the zero one", impl.Store{}, someStore(), false)
	others := []impl.Store{{}, someStore(), {Batch: -1}, {Size: -1}, {Hinted: -1}, {Live: live(-5)}, {Live: live(0, 7, 3, 3)}, {Dir: entries("b", "a", "b")}, {Dir: entries(rowKeys(50)...)}, {Live: longLive()}}
	for name, change := range storeChanges() {
		s := someStore()
		change(&s)
		alike(name, s, someStore(), false)
		others = append(others, s)
	}
	for _, a := range others {
		for _, b := range others {
			alike("any two", a, b, sameStore(a, b))
		}
		twin := a
		twin.Live.Ids, twin.Dir = slices.Clone(a.Live.Ids), slices.Clone(a.Dir)
		alike("its copy", a, twin, true)
	}
	for _, s := range []impl.Store{{}, {Batch: 5, Hinted: 2}, {Live: impl.Live{Next: 4}, Size: 7}} {
		empty := s
		empty.Live.Ids, empty.Dir = []int{}, []impl.Entry{}
		alike("empty lists and nil", s, empty, true)
		empty.Dir = nil
		alike("an empty list and nil", s, empty, true)
		empty.Live.Ids = []int{0}
		alike("a 0 and nil", s, empty, false)
		empty.Live.Ids, empty.Dir = nil, []impl.Entry{{}}
		alike("a zero entry and nil", s, empty, false)
	}
}

// overwriteStore writes into all the memory that an answer has.
func overwriteStore(s impl.Store) {
	ids, dir := s.Live.Ids[:cap(s.Live.Ids)], s.Dir[:cap(s.Dir)]
	for i := range ids {
		ids[i] = -7
	}
	for i := range dir {
		dir[i] = entry("written", 9)
	}
}

// TestOpenLeavesAlone writes into the answers and asks what was handed in.
func TestOpenLeavesAlone(t *testing.T) {
	images := allImages()
	for i, d := range append(rightDisks(), wrongDisks()...) {
		images[fmt.Sprint("disk ", i)] = d
	}
	for name, d := range images {
		for _, fuel := range []int{d.Fuel, 0, 1, 2, 3, 4, 5, 9} {
			handed, whole := roomy(fueled(d, fuel, d.Down))
			kept := slices.Clone(whole)
			wantStore, want := slowOpen(handed)
			first, left, _ := impl.Open(handed)
			second, right, code := impl.Open(handed)
			overwrite(left)
			overwriteStore(first)
			if !slices.Equal(whole, kept) || handed.Fuel != fuel {
				t.Fatalf("%s, fuel %d: what was handed in is another: %s", name, fuel, brief(whole))
			}
			for i := range whole {
				whole[i] = impl.File{Name: "written", Text: "over", Safe: 99}
			}
			if !sameStore(second, wantStore) || !impl.SameDisk(right, want.d) || code != want.code {
				t.Fatalf("%s, fuel %d: an answer shares memory: %s", name, fuel, brief(second, right, code))
			}
		}
	}
}

func TestPutLiveLeavesAlone(t *testing.T) {
	disks := append(append(rightDisks(), wrongDisks()...), mergedDisk(), disk(safeFile("temp", "x"), safeFile("live", "")), diskWith(3))
	lists := append(append(rightLives(), wrongLives()...), belowLives()...)
	for i, d := range disks {
		for _, v := range lists {
			for _, fuel := range []int{d.Fuel, 0, 2, 9} {
				handed, whole := roomy(fueled(d, fuel, d.Down))
				ids := append(slices.Clone(v.Ids), 5, 3)
				list := impl.Live{Next: v.Next, Ids: ids[:len(v.Ids)]}
				kept, keptIds := slices.Clone(whole), slices.Clone(ids)
				want := slowPutLive(handed, v)
				left, _ := impl.PutLive(handed, list)
				right, code := impl.PutLive(handed, list)
				overwrite(left)
				if !slices.Equal(whole, kept) || !slices.Equal(ids, keptIds) {
					t.Fatalf("disk %d: PutLive of %v: what was handed in is another: %s", i, v, brief(whole, ids))
				}
				for i := range whole {
					whole[i] = impl.File{Name: "written", Text: "over", Safe: 99}
				}
				if !impl.SameDisk(right, want.d) || code != want.code {
					t.Fatalf("disk %d: an answer of PutLive of %v shares memory: %s", i, v, brief(right, code))
				}
			}
		}
	}
}

func TestSameStoreLeavesAlone(t *testing.T) {
	for name, change := range storeChanges() {
		s := someStore()
		change(&s)
		ids := append(slices.Clone(s.Live.Ids), 5, 3)
		dir, whole := roomyDir(s.Dir)
		kept, keptIds := slices.Clone(whole), slices.Clone(ids)
		handed := s
		handed.Live.Ids, handed.Dir = ids[:len(s.Live.Ids)], dir
		if !impl.SameStore(handed, s) || impl.SameStore(handed, someStore()) || !slices.Equal(whole, kept) || !slices.Equal(ids, keptIds) {
			t.Errorf("%s: it is not like itself, or another behind SameStore: %v, %v", name, whole, ids)
		}
	}
}
