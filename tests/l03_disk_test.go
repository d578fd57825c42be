package tests

import (
	"fmt"
	"math"
	"slices"
	"strings"
	"testing"

	"loop.example/g01397/impl"
)

// diskStep is one call of one of the six steps.
type diskStep struct {
	kind string
	name string
	text string
	n    int
}

func (s diskStep) do(d impl.Disk) (impl.Disk, int) {
	switch s.kind {
	case "create":
		return impl.Create(d, s.name)
	case "append":
		return impl.Append(d, s.name, s.text)
	case "sync":
		return impl.Sync(d, s.name)
	case "rename":
		return impl.Rename(d, s.name, s.text)
	case "remove":
		return impl.Remove(d, s.name)
	}
	return impl.Truncate(d, s.name, s.n)
}

// slow is the step by the chapter's words, over a plain list.
func (s diskStep) slow(d impl.Disk) (impl.Disk, int) {
	d.Files = slices.Clone(d.Files)
	if !impl.DiskOk(d) {
		return d, impl.DkArgs
	}
	if d.Down || d.Fuel == 0 {
		d.Down = true
		return d, impl.DkDown
	}
	if d.Fuel > 0 {
		d.Fuel--
	}
	at := slices.IndexFunc(d.Files, func(f impl.File) bool { return f.Name == s.name })
	if code := s.refused(d, at); code != impl.DkOk {
		return d, code
	}
	switch s.kind {
	case "create":
		d.Files = append(d.Files, impl.File{Name: s.name})
	case "append":
		d.Files[at].Text += s.text
	case "sync":
		d.Files[at].Safe = len(d.Files[at].Text)
	case "rename":
		moved := d.Files[at]
		moved.Name = s.text
		d.Files = slices.DeleteFunc(d.Files, func(f impl.File) bool { return f.Name == s.name || f.Name == s.text })
		d.Files = append(d.Files, moved)
	case "remove":
		d.Files = slices.Delete(d.Files, at, at+1)
	case "truncate":
		d.Files[at].Text = d.Files[at].Text[:s.n]
		if d.Files[at].Safe > s.n {
			d.Files[at].Safe = s.n
		}
	}
	slices.SortFunc(d.Files, func(a, b impl.File) int { return strings.Compare(a.Name, b.Name) })
	return d, impl.DkOk
}

// refused has the reasons of the six steps, each in its own order.
func (s diskStep) refused(d impl.Disk, at int) int {
	switch {
	case s.kind == "create" && !impl.NameOk(s.name):
		return impl.DkArgs
	case s.kind == "create" && at >= 0:
		return impl.DkHas
	case s.kind == "create" && len(d.Files) >= 130:
		return impl.DkFull
	case s.kind == "create":
		return impl.DkOk
	case s.kind == "rename" && !impl.NameOk(s.text):
		return impl.DkArgs
	case at < 0:
		return impl.DkNone
	case s.kind == "append" && impl.Used(d)+len(s.text) > d.Cap:
		return impl.DkFull
	case s.kind == "truncate" && (s.n < 0 || s.n > len(d.Files[at].Text)):
		return impl.DkArgs
	}
	return impl.DkOk
}

func diskWith(capacity int, files ...impl.File) impl.Disk {
	return impl.Disk{Files: files, Cap: capacity, Fuel: -1}
}

func fueled(d impl.Disk, fuel int, down bool) impl.Disk {
	d.Fuel, d.Down = fuel, down
	return d
}

// manyFiles are n empty files in the order of their names.
func manyFiles(n int) []impl.File {
	var l []impl.File
	for i := range n {
		l = append(l, impl.File{Name: fmt.Sprintf("f%03d", i)})
	}
	return l
}

// twoFiles have three bytes and four; not all of the second one is kept.
func twoFiles() []impl.File {
	return []impl.File{{Name: "b", Text: "xyz", Safe: 3}, {Name: "d", Text: "1234", Safe: 2}}
}

func rightDisks() []impl.Disk {
	list := []impl.Disk{
		{},
		diskWith(0),
		diskWith(1),
		diskWith(impl.MaxCap),
		diskWith(0, manyFiles(1)...),
		diskWith(0, manyFiles(impl.MaxFiles-1)...),
		diskWith(5, manyFiles(impl.MaxFiles)...),
		diskWith(0, impl.File{Name: "b"}, impl.File{Name: "d"}),
		diskWith(3, impl.File{Name: "d", Text: "abc"}),
		diskWith(3, impl.File{Name: "d", Text: "abc", Safe: 3}),
		diskWith(7, twoFiles()...),
		diskWith(8, twoFiles()...),
		diskWith(9, twoFiles()...),
		diskWith(impl.MaxCap, twoFiles()...),
		diskWith(impl.MaxCap, impl.File{Name: "a", Text: strings.Repeat("z", impl.MaxCap-1), Safe: 1}, impl.File{Name: "d"}),
		diskWith(impl.MaxCap, impl.File{Name: "a"}, impl.File{Name: "d", Text: strings.Repeat("z", impl.MaxCap), Safe: impl.MaxCap}),
		diskWith(20, impl.File{Name: "0"}, impl.File{Name: "10"}, impl.File{Name: "9"}, impl.File{Name: "d"}, impl.File{Name: "dd"}, impl.File{Name: "zzzzzzzzzzzz", Text: "\x00\xff", Safe: 1}),
	}
	for _, fuel := range []int{0, 1, 2, impl.MaxCap} {
		list = append(list, fueled(diskWith(9, twoFiles()...), fuel, false), fueled(diskWith(9, twoFiles()...), fuel, true))
	}
	return append(list, fueled(diskWith(9, twoFiles()...), -1, true), fueled(diskWith(0), 0, true))
}

func wrongDisks() []impl.Disk {
	safe := func(n int) impl.Disk {
		return diskWith(9, impl.File{Name: "b", Text: "xyz", Safe: n}, impl.File{Name: "d"})
	}
	named := func(names ...string) impl.Disk {
		d := diskWith(9)
		for _, s := range names {
			d.Files = append(d.Files, impl.File{Name: s})
		}
		return d
	}
	list := []impl.Disk{
		diskWith(-1),
		diskWith(math.MinInt),
		diskWith(impl.MaxCap + 1),
		diskWith(math.MaxInt),
		diskWith(6, twoFiles()...),
		diskWith(0, twoFiles()...),
		diskWith(2, impl.File{Name: "d", Text: "abc"}),
		diskWith(impl.MaxCap, impl.File{Name: "d", Text: strings.Repeat("z", impl.MaxCap+1)}),
		diskWith(9, manyFiles(impl.MaxFiles+1)...),
		diskWith(9, manyFiles(3*impl.MaxFiles)...),
		safe(-1), safe(4), safe(math.MinInt), safe(math.MaxInt),
		diskWith(9, impl.File{Name: "b", Safe: 1}, impl.File{Name: "d", Text: "xyz"}),
		named("d", "b"), named("b", "b"), named("b", "d", "d"), named("b", "d", "c"), named("9", "10"), named("dd", "d"),
		named("", "d"), named("abcdefghijklm", "d"), named("D", "d"), named("a.", "d"), named("d", "é"), named("d", "dx\x00"),
	}
	for _, fuel := range []int{-2, math.MinInt, impl.MaxCap + 1, math.MaxInt} {
		list = append(list, fueled(diskWith(9, twoFiles()...), fuel, false), fueled(diskWith(9), fuel, true))
	}
	return append(list, fueled(diskWith(6, twoFiles()...), 0, false), fueled(diskWith(6, twoFiles()...), 3, true))
}

// diskSteps are calls of all kinds at names that some of the disks have.
func diskSteps() []diskStep {
	names := []string{"a", "b", "c", "d", "f000", "f127", "f130", "zzzzzzzzzzzz", "", "B", "abcdefghijklm"}
	var list []diskStep
	for _, name := range names {
		list = append(list, diskStep{kind: "create", name: name}, diskStep{kind: "sync", name: name}, diskStep{kind: "remove", name: name})
		for _, text := range []string{"", "1", "12", "123", "\xff\x00\x80", strings.Repeat("q", impl.MaxCap), strings.Repeat("q", impl.MaxCap-7), strings.Repeat("q", impl.MaxCap-6)} {
			list = append(list, diskStep{kind: "append", name: name, text: text})
		}
		for _, to := range names {
			list = append(list, diskStep{kind: "rename", name: name, text: to})
		}
		for _, n := range []int{math.MinInt, -1, 0, 1, 2, 3, 4, 5, impl.MaxCap, math.MaxInt} {
			list = append(list, diskStep{kind: "truncate", name: name, n: n})
		}
	}
	return list
}

// roomy is d with files behind the end of its list, which no call may touch.
func roomy(d impl.Disk) (impl.Disk, []impl.File) {
	whole := append(slices.Clone(d.Files), impl.File{Name: "behind1", Safe: 77}, impl.File{Name: "behind2", Safe: 78})
	d.Files = whole[:len(d.Files)]
	return d, whole
}

func TestNameOk(t *testing.T) {
	for s, want := range map[string]bool{
		"": false, "a": true, "z": true, "0": true, "9": true, "seg1": true, "seg-1": false,
		"abcdefghijkl": true, "abcdefghijklm": false, "012345678901": true, "0123456789012": false,
		"é": false, "a b": false, "live ": false, "\x00": false,
		strings.Repeat("a", 1000): false,
	} {
		if got := impl.NameOk(s); got != want {
			t.Errorf("NameOk(%q) = %v", s, got)
		}
	}
	for _, size := range []int{1, 2, 11, 12, 13} {
		for at := range size {
			for b := range 256 {
				s := []byte(strings.Repeat("m", size))
				s[at] = byte(b)
				want := size <= 12 && strings.IndexByte("abcdefghijklmnopqrstuvwxyz0123456789", byte(b)) >= 0
				if got := impl.NameOk(string(s)); got != want {
					t.Errorf("NameOk(%q) = %v", s, got)
				}
			}
		}
	}
}

func TestDiskOk(t *testing.T) {
	for i, d := range rightDisks() {
		if !impl.DiskOk(d) {
			t.Errorf("right disk %d is not taken: %.200v", i, d)
		}
	}
	for i, d := range wrongDisks() {
		if impl.DiskOk(d) {
			t.Errorf("wrong disk %d is taken: %.200v", i, d)
		}
	}
}

func TestDiskNew(t *testing.T) {
	for _, n := range []int{0, 1, 10, impl.MaxCap - 1, impl.MaxCap} {
		d := impl.DiskNew(n)
		if !impl.DiskOk(d) || len(d.Files) != 0 || d.Cap != n || d.Fuel != -1 || d.Down {
			t.Errorf("DiskNew(%d) = %v", n, d)
		}
	}
	for _, n := range []int{-1, impl.MaxCap + 1, math.MinInt, math.MaxInt} {
		if d := impl.DiskNew(n); !impl.SameDisk(d, impl.Disk{}) {
			t.Errorf("DiskNew(%d) = %v", n, d)
		}
	}
}

func TestUsedAndFileText(t *testing.T) {
	for i, d := range rightDisks() {
		sum := 0
		for _, f := range d.Files {
			sum += len(f.Text)
			if got, ok := impl.FileText(d, f.Name); got != f.Text || !ok {
				t.Errorf("disk %d: FileText of %s = %.40q, %v", i, f.Name, got, ok)
			}
		}
		if got := impl.Used(d); got != sum {
			t.Errorf("disk %d: Used = %d, want %d", i, got, sum)
		}
		for _, name := range []string{"", "bb", "e", "zzz", "B", "f130", "abcdefghijklm"} {
			if got, ok := impl.FileText(d, name); got != "" || ok {
				t.Errorf("disk %d: FileText of %q = %.40q, %v", i, name, got, ok)
			}
		}
	}
	for i, d := range wrongDisks() {
		if got := impl.Used(d); got != 0 {
			t.Errorf("wrong disk %d: Used = %d", i, got)
		}
		for _, name := range []string{"b", "d", "D", "f000", ""} {
			if got, ok := impl.FileText(d, name); got != "" || ok {
				t.Errorf("wrong disk %d: FileText of %q = %.40q, %v", i, name, got, ok)
			}
		}
	}
}

func TestSteps(t *testing.T) {
	b := impl.File{Name: "b", Text: "xyz", Safe: 3}
	d := impl.File{Name: "d", Text: "1234", Safe: 2}
	two := diskWith(9, b, d)
	full := diskWith(5, manyFiles(impl.MaxFiles)...)
	for _, c := range []struct {
		disk impl.Disk
		step diskStep
		want impl.Disk
		code int
	}{
		{diskWith(9), diskStep{kind: "create", name: "a"}, diskWith(9, impl.File{Name: "a"}), impl.DkOk},
		{two, diskStep{kind: "create", name: "a"}, diskWith(9, impl.File{Name: "a"}, b, d), impl.DkOk},
		{two, diskStep{kind: "create", name: "c"}, diskWith(9, b, impl.File{Name: "c"}, d), impl.DkOk},
		{two, diskStep{kind: "create", name: "e"}, diskWith(9, b, d, impl.File{Name: "e"}), impl.DkOk},
		{two, diskStep{kind: "create", name: ""}, two, impl.DkArgs},
		{two, diskStep{kind: "create", name: "b"}, two, impl.DkHas},
		{full, diskStep{kind: "create", name: "F"}, full, impl.DkArgs},
		{full, diskStep{kind: "create", name: "f000"}, full, impl.DkHas},
		{full, diskStep{kind: "create", name: "new"}, full, impl.DkFull},
		{diskWith(5, manyFiles(impl.MaxFiles-1)...), diskStep{kind: "create", name: "f129"}, full, impl.DkOk},
		{two, diskStep{kind: "append", name: "b", text: "!?"}, diskWith(9, impl.File{Name: "b", Text: "xyz!?", Safe: 3}, d), impl.DkOk},
		{two, diskStep{kind: "append", name: "b", text: "!?#"}, two, impl.DkFull},
		{two, diskStep{kind: "append", name: "c", text: "!?#"}, two, impl.DkNone},
		{two, diskStep{kind: "append", name: "", text: ""}, two, impl.DkNone},
		{diskWith(7, b, d), diskStep{kind: "append", name: "d"}, diskWith(7, b, d), impl.DkOk},
		{two, diskStep{kind: "sync", name: "d"}, diskWith(9, b, impl.File{Name: "d", Text: "1234", Safe: 4}), impl.DkOk},
		{two, diskStep{kind: "sync", name: "b"}, two, impl.DkOk},
		{two, diskStep{kind: "sync", name: "c"}, two, impl.DkNone},
		{two, diskStep{kind: "rename", name: "b", text: "e"}, diskWith(9, d, impl.File{Name: "e", Text: "xyz", Safe: 3}), impl.DkOk},
		{two, diskStep{kind: "rename", name: "b", text: "d"}, diskWith(9, impl.File{Name: "d", Text: "xyz", Safe: 3}), impl.DkOk},
		{two, diskStep{kind: "rename", name: "d", text: "b"}, diskWith(9, impl.File{Name: "b", Text: "1234", Safe: 2}), impl.DkOk},
		{two, diskStep{kind: "rename", name: "d", text: "d"}, two, impl.DkOk},
		{full, diskStep{kind: "rename", name: "f000", text: "f000"}, full, impl.DkOk},
		{two, diskStep{kind: "rename", name: "c", text: "d"}, two, impl.DkNone},
		{two, diskStep{kind: "rename", name: "c", text: "c"}, two, impl.DkNone},
		{two, diskStep{kind: "rename", name: "c", text: "C"}, two, impl.DkArgs},
		{two, diskStep{kind: "rename", name: "b", text: "abcdefghijklm"}, two, impl.DkArgs},
		{two, diskStep{kind: "remove", name: "b"}, diskWith(9, d), impl.DkOk},
		{diskWith(9, d), diskStep{kind: "remove", name: "d"}, diskWith(9), impl.DkOk},
		{two, diskStep{kind: "remove", name: "c"}, two, impl.DkNone},
		{two, diskStep{kind: "truncate", name: "d", n: 0}, diskWith(9, b, impl.File{Name: "d"}), impl.DkOk},
		{two, diskStep{kind: "truncate", name: "d", n: 1}, diskWith(9, b, impl.File{Name: "d", Text: "1", Safe: 1}), impl.DkOk},
		{two, diskStep{kind: "truncate", name: "d", n: 2}, diskWith(9, b, impl.File{Name: "d", Text: "12", Safe: 2}), impl.DkOk},
		{two, diskStep{kind: "truncate", name: "d", n: 3}, diskWith(9, b, impl.File{Name: "d", Text: "123", Safe: 2}), impl.DkOk},
		{two, diskStep{kind: "truncate", name: "d", n: 4}, two, impl.DkOk},
		{two, diskStep{kind: "truncate", name: "d", n: 5}, two, impl.DkArgs},
		{two, diskStep{kind: "truncate", name: "d", n: -1}, two, impl.DkArgs},
		{two, diskStep{kind: "truncate", name: "c", n: -1}, two, impl.DkNone},
	} {
		got, code := c.step.do(c.disk)
		if code != c.code || !impl.SameDisk(got, c.want) {
			t.Errorf("%+v of %.200v = %.200v, %d, want %.200v, %d", c.step, c.disk, got, code, c.want, c.code)
		}
	}
}

func TestStepsAskTheDiskFirst(t *testing.T) {
	for _, d := range wrongDisks() {
		for _, s := range diskSteps() {
			if got, code := s.do(d); code != impl.DkArgs || !slices.Equal(got.Files, d.Files) || got.Cap != d.Cap || got.Fuel != d.Fuel || got.Down != d.Down {
				t.Fatalf("%.80v of %.200v = %.200v, %d", s, d, got, code)
			}
		}
	}
	for _, fuel := range []int{-1, 0, 1, impl.MaxCap} {
		d := fueled(diskWith(9, twoFiles()...), fuel, fuel != 0)
		for _, s := range diskSteps() {
			if got, code := s.do(d); code != impl.DkDown || !slices.Equal(got.Files, d.Files) || got.Cap != 9 || got.Fuel != fuel || !got.Down {
				t.Fatalf("%.80v of %v = %v, %d", s, d, got, code)
			}
		}
	}
}

func TestStepsUseFuel(t *testing.T) {
	for _, s := range diskSteps() {
		for fuel, want := range map[int]int{-1: -1, 1: 0, 2: 1, impl.MaxCap: impl.MaxCap - 1} {
			got, code := s.do(fueled(diskWith(9, twoFiles()...), fuel, false))
			if got.Fuel != want || got.Down || code == impl.DkDown {
				t.Errorf("%.80v with fuel %d: %v, %d", s, fuel, got, code)
			}
		}
	}
}

func TestStepsByTheWords(t *testing.T) {
	seen := map[int]int{}
	for _, before := range append(rightDisks(), wrongDisks()...) {
		for _, s := range diskSteps() {
			handed, whole := roomy(before)
			kept := slices.Clone(whole)
			want, code := s.slow(before)
			got, gotCode := s.do(handed)
			if gotCode != code || !impl.SameDisk(got, want) {
				t.Fatalf("%.80v of %.200v = %.200v, %d, want %.200v, %d", s, before, got, gotCode, want, code)
			}
			if impl.DiskOk(before) && !impl.DiskOk(got) {
				t.Fatalf("%.80v of %.200v makes a wrong disk: %.200v", s, before, got)
			}
			if code != impl.DkOk && !slices.Equal(got.Files, before.Files) {
				t.Fatalf("%.80v of %.200v is refused and changes files", s, before)
			}
			answer := got.Files[:cap(got.Files)]
			for i := range answer {
				answer[i] = impl.File{Name: "written", Safe: 99}
			}
			if !slices.Equal(whole, kept) {
				t.Fatalf("%.80v of %.200v: what was handed in is another", s, before)
			}
			seen[code]++
		}
	}
	for code := impl.DkOk; code <= impl.DkArgs; code++ {
		if seen[code] == 0 {
			t.Errorf("no step was answered %d", code)
		}
	}
}

// keeps tells whether all that was kept ahead of the step is kept behind it,
// but for what the step itself takes away.
func keeps(before, after impl.Disk, s diskStep) error {
	for _, f := range before.Files {
		name, safe := f.Name, f.Safe
		switch {
		case s.kind == "remove" && s.name == name, s.kind == "rename" && s.text == name && s.name != name:
			continue
		case s.kind == "rename" && s.name == name:
			name = s.text
		case s.kind == "truncate" && s.name == name:
			safe = min(safe, s.n)
		}
		at := slices.IndexFunc(after.Files, func(g impl.File) bool { return g.Name == name })
		if at < 0 {
			return fmt.Errorf("%s is gone", name)
		}
		g := after.Files[at]
		if g.Safe < safe || g.Text[:safe] != f.Text[:safe] {
			return fmt.Errorf("%s keeps %q of %q", name, g.Text[:g.Safe], f.Text[:safe])
		}
	}
	return nil
}

func TestStepsInARow(t *testing.T) {
	seed := 1
	below := func(n int) int {
		seed = (seed*1103515245 + 12345) % 2147483648
		return seed / 65536 % n
	}
	names := []string{"a", "b", "c", "seg1", "seg10", "seg2", "live", "temp", "No"}
	kinds := []string{"create", "create", "append", "append", "append", "append", "sync", "rename", "remove", "truncate"}
	for capacity := range 60 {
		d := impl.DiskNew(capacity)
		for range 300 {
			s := diskStep{kind: kinds[below(len(kinds))], name: names[below(len(names))], n: below(12) - 1}
			s.text = strings.Repeat("x", below(9))
			if s.kind == "rename" {
				s.text = names[below(len(names))]
			}
			want, wantCode := s.slow(d)
			next, code := s.do(d)
			if code != wantCode || !impl.SameDisk(next, want) {
				t.Fatalf("%+v of %v = %v, %d, want %v, %d", s, d, next, code, want, wantCode)
			}
			if !impl.DiskOk(next) || impl.Used(next) > capacity {
				t.Fatalf("%+v of %v makes a wrong disk: %v", s, d, next)
			}
			if code != impl.DkOk {
				if !impl.SameDisk(next, d) {
					t.Fatalf("%+v of %v is refused and makes %v", s, d, next)
				}
				continue
			}
			if err := keeps(d, next, s); err != nil {
				t.Fatalf("%+v of %v: %v", s, d, err)
			}
			d = next
		}
	}
}

func TestSameDisk(t *testing.T) {
	base := func() impl.Disk { return fueled(diskWith(9, twoFiles()...), 4, false) }
	others := []func(d *impl.Disk){
		func(d *impl.Disk) { d.Files = nil },
		func(d *impl.Disk) { d.Files = d.Files[:1] },
		func(d *impl.Disk) { d.Files = append(d.Files, impl.File{}) },
		func(d *impl.Disk) { d.Files[0], d.Files[1] = d.Files[1], d.Files[0] },
		func(d *impl.Disk) { d.Files[1].Name = "e" },
		func(d *impl.Disk) { d.Files[0].Text = "xyZ" },
		func(d *impl.Disk) { d.Files[1].Safe = 3 },
		func(d *impl.Disk) { d.Cap = 10 },
		func(d *impl.Disk) { d.Fuel = 5 },
		func(d *impl.Disk) { d.Down = true },
	}
	if !impl.SameDisk(base(), base()) {
		t.Error("a disk is not like itself")
	}
	for i, change := range others {
		d := base()
		change(&d)
		if impl.SameDisk(d, base()) || impl.SameDisk(base(), d) {
			t.Errorf("change %d does not count", i)
		}
	}
	if !impl.SameDisk(impl.Disk{Files: []impl.File{}}, impl.Disk{}) {
		t.Error("an empty list and nil are not alike")
	}
	all := append(rightDisks(), wrongDisks()...)
	for i, d := range all {
		other := d
		other.Files = slices.Clone(d.Files)
		if !impl.SameDisk(d, other) {
			t.Errorf("disk %d is not like its copy", i)
		}
	}
}
