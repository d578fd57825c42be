package tests

import (
	"math"
	"slices"
	"strings"
	"testing"

	"loop.example/g01397/impl"
)

// tornFiles have four bytes behind Safe, none, three of three, and none at
// all.
func tornFiles() []impl.File {
	return []impl.File{
		{Name: "a", Text: "abcdef", Safe: 2},
		{Name: "b", Text: "xyz", Safe: 3},
		{Name: "c", Text: "123"},
		{Name: "d"},
	}
}

// settledOf is a disk of that capacity whose files have those texts, all
// kept, named a, b, c and so on.
func settledOf(capacity int, texts ...string) impl.Disk {
	d := diskWith(capacity)
	for i, s := range texts {
		d.Files = append(d.Files, impl.File{Name: string(rune('a' + i)), Text: s, Safe: len(s)})
	}
	return d
}

func tearLists() [][]int {
	many := make([]int, 2*impl.MaxFiles)
	for i := range many {
		many[i] = 5*i%7 - 1
	}
	return [][]int{
		nil,
		{},
		{0}, {1}, {2}, {3}, {4}, {5}, {6}, {7},
		{-1}, {-2}, {-5}, {math.MinInt}, {math.MaxInt}, {math.MaxInt - 1},
		{impl.MaxCap - 2}, {impl.MaxCap - 1}, {impl.MaxCap}, {impl.MaxCap + 1},
		{7, 1}, {1, 7}, {-1, 2}, {2, -1}, {0, math.MaxInt},
		{1, 2, 3}, {-1, -1, 1}, {3, 0, 3, 0}, {4, 3, 2, 1, 0}, {9, 8, 7, 6, 5, 4, 3},
		many,
		many[:impl.MaxFiles],
		many[:impl.MaxFiles-1],
	}
}

// slowPower is Power by the chapter's words, byte by byte.
func slowPower(d impl.Disk, tears []int) impl.Disk {
	d.Files = slices.Clone(d.Files)
	if !impl.DiskOk(d) {
		return d
	}
	for i, f := range d.Files {
		others := len(f.Text) - f.Safe
		more := 0
		if len(tears) > 0 && tears[i%len(tears)] > 0 {
			t := tears[i%len(tears)]
			more = t - t/(others+1)*(others+1)
		}
		var left strings.Builder
		for k := range len(f.Text) {
			if k < f.Safe || k-f.Safe < more {
				left.WriteByte(f.Text[k])
			}
		}
		d.Files[i] = impl.File{Name: f.Name, Text: left.String(), Safe: left.Len()}
	}
	d.Fuel, d.Down = -1, false
	return d
}

func TestPower(t *testing.T) {
	torn := diskWith(20, tornFiles()...)
	for _, c := range []struct {
		tears []int
		want  impl.Disk
	}{
		{nil, settledOf(20, "ab", "xyz", "", "")},
		{[]int{}, settledOf(20, "ab", "xyz", "", "")},
		{[]int{0}, settledOf(20, "ab", "xyz", "", "")},
		{[]int{-1}, settledOf(20, "ab", "xyz", "", "")},
		{[]int{math.MinInt}, settledOf(20, "ab", "xyz", "", "")},
		{[]int{1}, settledOf(20, "abc", "xyz", "1", "")},
		{[]int{2}, settledOf(20, "abcd", "xyz", "12", "")},
		{[]int{3}, settledOf(20, "abcde", "xyz", "123", "")},
		{[]int{4}, settledOf(20, "abcdef", "xyz", "", "")},
		{[]int{5}, settledOf(20, "ab", "xyz", "1", "")},
		{[]int{6}, settledOf(20, "abc", "xyz", "12", "")},
		{[]int{19}, settledOf(20, "abcdef", "xyz", "123", "")},
		{[]int{20}, settledOf(20, "ab", "xyz", "", "")},
		{[]int{math.MaxInt}, settledOf(20, "abcd", "xyz", "123", "")},
		{[]int{math.MaxInt - 3}, settledOf(20, "abcdef", "xyz", "", "")},
		{[]int{7, 1}, settledOf(20, "abcd", "xyz", "123", "")},
		{[]int{1, 7}, settledOf(20, "abc", "xyz", "1", "")},
		{[]int{-1, 2}, settledOf(20, "ab", "xyz", "", "")},
		{[]int{4, 9, 2}, settledOf(20, "abcdef", "xyz", "12", "")},
		{[]int{0, 0, 3, 1}, settledOf(20, "ab", "xyz", "123", "")},
		{[]int{3, 0, -3, 1}, settledOf(20, "abcde", "xyz", "", "")},
		{[]int{1, 2, 3, 4, 5, 6}, settledOf(20, "abc", "xyz", "123", "")},
	} {
		for _, d := range []impl.Disk{torn, fueled(torn, 0, false), fueled(torn, 0, true), fueled(torn, 7, false), fueled(torn, -1, true)} {
			if got := impl.Power(d, c.tears); !impl.SameDisk(got, c.want) {
				t.Errorf("Power(%v, %v) = %v, want %v", d, c.tears, got, c.want)
			}
		}
	}
}

func TestPowerByTheEnd(t *testing.T) {
	for size := range 9 {
		for safe := range size + 1 {
			text := "12345678"[:size]
			d := diskWith(8, impl.File{Name: "a", Text: text, Safe: safe})
			others := size - safe
			for tear, more := range map[int]int{
				-1:                  0,
				-others - 1:         0,
				0:                   0,
				max(0, others-1):    max(0, others-1),
				others:              others,
				others + 1:          0,
				2*others + 1:        others,
				2 * (others + 1):    0,
				1000*(others+1) - 1: others,
			} {
				want := settledOf(8, text[:safe+more])
				if got := impl.Power(d, []int{tear}); !impl.SameDisk(got, want) {
					t.Errorf("Power(%v, %d) = %v, want %v", d, tear, got, want)
				}
			}
		}
	}
}

func TestPowerOfNoFiles(t *testing.T) {
	for _, tears := range tearLists() {
		for _, fuel := range []int{-1, 0, 1, impl.MaxCap} {
			for _, down := range []bool{false, true} {
				if got := impl.Power(fueled(diskWith(9), fuel, down), tears); !impl.SameDisk(got, impl.DiskNew(9)) {
					t.Errorf("Power of no files, fuel %d, down %v: %v", fuel, down, got)
				}
			}
		}
	}
}

func TestPowerByTheWords(t *testing.T) {
	for i, before := range append(rightDisks(), wrongDisks()...) {
		for _, tears := range tearLists() {
			handed, whole := roomy(before)
			kept := slices.Clone(whole)
			wholeTears := append(slices.Clone(tears), 7, 8)
			keptTears := slices.Clone(wholeTears)
			got := impl.Power(handed, wholeTears[:len(tears)])
			if want := slowPower(before, tears); !impl.SameDisk(got, want) {
				t.Fatalf("disk %d: Power(%.200v, %.80v) = %.200v, want %.200v", i, before, tears, got, want)
			}
			overwrite(got)
			if !slices.Equal(whole, kept) || !slices.Equal(wholeTears, keptTears) {
				t.Fatalf("disk %d: Power(%.200v, %.80v): what was handed in is another", i, before, tears)
			}
		}
	}
}

// overwrite writes into all the memory that an answer has.
func overwrite(d impl.Disk) {
	all := d.Files[:cap(d.Files)]
	for i := range all {
		all[i] = impl.File{Name: "written", Text: "over", Safe: 99}
	}
}

func TestPowerKeepsAndSettles(t *testing.T) {
	disks := append(rightDisks(), diskWith(20, tornFiles()...))
	for i, before := range disks {
		for _, tears := range tearLists() {
			after := impl.Power(before, tears)
			if !impl.DiskOk(after) || len(after.Files) != len(before.Files) {
				t.Fatalf("disk %d: Power(%.200v, %.80v) = %.200v", i, before, tears, after)
			}
			for k, f := range before.Files {
				g := after.Files[k]
				if g.Name != f.Name || !strings.HasPrefix(f.Text, g.Text) || len(g.Text) < f.Safe || g.Safe != len(g.Text) {
					t.Fatalf("disk %d: Power(.., %.80v) makes %.80v of %.80v", i, tears, g, f)
				}
			}
			if impl.Volatile(after) != 0 || !impl.Settled(after) {
				t.Fatalf("disk %d: %d bytes are loose behind Power(.., %.80v)", i, impl.Volatile(after), tears)
			}
			if after.Fuel != -1 || after.Down || after.Cap != before.Cap {
				t.Fatalf("disk %d: behind Power(.., %.80v): fuel %d, down %v, cap %d", i, tears, after.Fuel, after.Down, after.Cap)
			}
			for _, again := range tearLists() {
				if got := impl.Power(after, again); !impl.SameDisk(got, after) {
					t.Fatalf("disk %d: Power again, with %.80v, changes it", i, again)
				}
			}
		}
	}
}

func TestPowerBehindSteps(t *testing.T) {
	d := fueled(impl.DiskNew(20), 5, false)
	for _, s := range []diskStep{
		{kind: "create", name: "log"},
		{kind: "append", name: "log", text: "kept"},
		{kind: "sync", name: "log"},
		{kind: "append", name: "log", text: "loose"},
		{kind: "create", name: "new"},
		{kind: "append", name: "new", text: "never"},
	} {
		d, _ = s.do(d)
	}
	if !d.Down || impl.Volatile(d) != 5 || impl.Settled(d) {
		t.Fatalf("ahead: %v", d)
	}
	for tear := range 6 {
		after := impl.Power(d, []int{tear})
		text, _ := impl.FileText(after, "log")
		if text != "keptloose"[:4+tear] || impl.Used(after) != len(text) || !impl.Settled(after) {
			t.Errorf("tear %d leaves %v", tear, after)
		}
		if _, code := impl.Append(after, "new", "now"); code != impl.DkOk {
			t.Errorf("there is no power behind tear %d: %d", tear, code)
		}
	}
}

func TestSettledAndVolatile(t *testing.T) {
	for _, c := range []struct {
		d        impl.Disk
		settled  bool
		volatile int
	}{
		{impl.Disk{}, true, 0},
		{diskWith(0), true, 0},
		{diskWith(9, manyFiles(3)...), true, 0},
		{settledOf(9, "abc", "", "xyz"), true, 0},
		{fueled(settledOf(9, "abc"), 0, true), true, 0},
		{diskWith(20, tornFiles()...), false, 7},
		{fueled(diskWith(20, tornFiles()...), 0, true), false, 7},
		{diskWith(3, impl.File{Name: "a", Text: "abc", Safe: 2}), false, 1},
		{diskWith(3, impl.File{Name: "a", Text: "abc"}), false, 3},
		{diskWith(6, impl.File{Name: "a", Text: "abc", Safe: 3}, impl.File{Name: "b", Text: "xyz", Safe: 2}), false, 1},
		{diskWith(impl.MaxCap, impl.File{Name: "a", Text: strings.Repeat("z", impl.MaxCap)}), false, impl.MaxCap},
	} {
		handed, whole := roomy(c.d)
		kept := slices.Clone(whole)
		if got := impl.Settled(handed); got != c.settled {
			t.Errorf("Settled(%.200v) = %v", c.d, got)
		}
		if got := impl.Volatile(handed); got != c.volatile {
			t.Errorf("Volatile(%.200v) = %d, want %d", c.d, got, c.volatile)
		}
		if !slices.Equal(whole, kept) {
			t.Errorf("%.200v: what was handed in is another", c.d)
		}
	}
	for i, d := range wrongDisks() {
		if impl.Settled(d) || impl.Volatile(d) != 0 {
			t.Errorf("wrong disk %d: Settled %v, Volatile %d", i, impl.Settled(d), impl.Volatile(d))
		}
	}
}

func TestWithFuel(t *testing.T) {
	counts := map[int]bool{
		math.MinInt: false, -2: false, -1: true, 0: true, 1: true, 5: true,
		impl.MaxCap - 1: true, impl.MaxCap: true, impl.MaxCap + 1: false, math.MaxInt: false,
	}
	for i, before := range append(rightDisks(), wrongDisks()...) {
		for n, taken := range counts {
			want := before
			if taken && impl.DiskOk(before) {
				want = fueled(before, n, false)
			}
			handed, whole := roomy(before)
			kept := slices.Clone(whole)
			got := impl.WithFuel(handed, n)
			if !impl.SameDisk(got, want) {
				t.Errorf("disk %d: WithFuel(%.200v, %d) = %.200v", i, before, n, got)
			}
			overwrite(got)
			if !slices.Equal(whole, kept) {
				t.Fatalf("disk %d: WithFuel(%.200v, %d): what was handed in is another", i, before, n)
			}
		}
	}
}

func TestWithFuelIsForSoManySteps(t *testing.T) {
	for _, n := range []int{0, 1, 2, 7} {
		d := impl.WithFuel(fueled(diskWith(9, twoFiles()...), 0, true), n)
		for k := range n + 2 {
			var code int
			d, code = impl.Sync(d, "d")
			if (code == impl.DkOk) != (k < n) || d.Down != (k >= n) {
				t.Errorf("fuel %d: step %d is answered %d, %v", n, k, code, d)
			}
		}
	}
}
