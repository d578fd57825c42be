package tests

import (
	"fmt"
	"math"
	"slices"
	"strings"
	"testing"

	"loop.example/g01397/impl"
)

// placed has each record at a place of its own; what stands there is not
// asked of Regroup, so that Seg, At and Len are told from one another.
func placed(recs ...impl.Rec) []impl.Place {
	var l []impl.Place
	for i, r := range recs {
		l = append(l, impl.Place{Seg: 1 + i/3, At: 1000 * i, Len: 10 + i, Rec: r})
	}
	return l
}

// totalOf are Count and Sum by the document's words.
func totalOf(l []impl.Rec) (count, sum int) {
	shown := ""
	for _, r := range l {
		shown += slowShowRec(r)
	}
	return len(l), slowSum(shown)
}

func sealOf(batch int, l ...impl.Rec) impl.Rec {
	count, sum := totalOf(l)
	return seal(batch, count, sum)
}

func markOf(batch int, l ...impl.Rec) impl.Rec {
	count, sum := totalOf(l)
	return mark(batch, count, sum)
}

// sealed are records with a seal behind them that fits.
func sealed(batch int, l ...impl.Rec) []impl.Rec {
	return append(slices.Clone(l), sealOf(batch, l...))
}

// marked are records with a mark behind them that fits.
func marked(batch int, l ...impl.Rec) []impl.Rec {
	return append(slices.Clone(l), markOf(batch, l...))
}

func inRow(lists ...[]impl.Rec) []impl.Rec {
	return slices.Concat(lists...)
}

// oddTotal is the seal or mark with its Count or Sum off by some.
func oddTotal(r impl.Rec, count, sum int) impl.Rec {
	r.Count += count
	r.Sum += sum
	return r
}

func forKeys(keys []string, rec func(key string) impl.Rec) []impl.Rec {
	var l []impl.Rec
	for _, key := range keys {
		l = append(l, rec(key))
	}
	return l
}

func putsOf(batch int, keys ...string) []impl.Rec {
	return forKeys(keys, func(key string) impl.Rec { return put(batch, key, "v") })
}

func delsOf(batch int, keys ...string) []impl.Rec {
	return forKeys(keys, func(key string) impl.Rec { return del(batch, key) })
}

func keepsOf(batch int, keys ...string) []impl.Rec {
	return forKeys(keys, func(key string) impl.Rec { return keep(batch, key, "v") })
}

func placeEntry(p impl.Place) impl.Entry {
	return impl.Entry{Key: p.Rec.Key, Seg: p.Seg, At: p.At, Len: p.Len, Batch: p.Rec.Batch}
}

// slowOwn looks back from a seal or a mark for its own, record by record.
func slowOwn(l []impl.Place, at int) []impl.Place {
	end := l[at].Rec
	var own []impl.Place
	for i := at - 1; i >= 0; i-- {
		r := l[i].Rec
		sameEnd := r.Kind == end.Kind && (end.Kind == impl.RkMark || r.Batch == end.Batch)
		if sameEnd {
			break
		}
		write := (r.Kind == impl.RkPut || r.Kind == impl.RkDel) && r.Batch == end.Batch
		if end.Kind == impl.RkSeal && write || end.Kind == impl.RkMark && r.Kind == impl.RkKeep {
			own = append([]impl.Place{l[i]}, own...)
		}
	}
	return own
}

func slowFits(l []impl.Place, at int) bool {
	var recs []impl.Rec
	for _, p := range slowOwn(l, at) {
		recs = append(recs, p.Rec)
	}
	count, sum := totalOf(recs)
	return l[at].Rec.Count == count && l[at].Rec.Sum == sum
}

func slowRegroup(g impl.Group, l []impl.Place) impl.Group {
	kept := 0
	for at, p := range l {
		if g.Code != impl.GrOk {
			return g
		}
		if p.Rec.Batch > g.Last {
			g.Last = p.Rec.Batch
		}
		switch p.Rec.Kind {
		case impl.RkKeep:
			kept++
		case impl.RkMark:
			kept = 0
		}
		if p.Rec.Kind != impl.RkSeal && p.Rec.Kind != impl.RkMark {
			continue
		}
		if !slowFits(l, at) {
			if p.Rec.Kind == impl.RkMark {
				g.Code = impl.GrMark
			}
			continue
		}
		for _, own := range slowOwn(l, at) {
			if own.Rec.Kind == impl.RkDel {
				g.Dir = slowDirDrop(g.Dir, own.Rec.Key)
			} else {
				g.Dir = slowDirPut(g.Dir, placeEntry(own))
			}
		}
		if len(g.Dir) > 20 {
			g.Code = impl.GrMany
		}
	}
	if g.Code == impl.GrOk && kept > 0 {
		g.Code = impl.GrMark
	}
	return g
}

func slowSealed(l []impl.Place) []int {
	var batches []int
	for at, p := range l {
		if p.Rec.Kind == impl.RkSeal && slowFits(l, at) {
			batches = append(batches, p.Rec.Batch)
		}
	}
	return batches
}

func sameGroup(a, b impl.Group) bool {
	return slices.Equal(a.Dir, b.Dir) && a.Last == b.Last && a.Code == b.Code
}

func checkRegroup(t *testing.T, what string, g impl.Group, l []impl.Place, want impl.Group) {
	t.Helper()
	if got := impl.Regroup(g, l); !sameGroup(got, want) {
		t.Fatalf("%s: Regroup(%.300v, %.900v) = %.600v, want %.600v", what, g, l, got, want)
	}
}

func checkSealed(t *testing.T, what string, l []impl.Place, want []int) {
	t.Helper()
	if got := impl.Sealed(l); !slices.Equal(got, want) {
		t.Fatalf("%s: Sealed(%.900v) = %v, want %v", what, l, got, want)
	}
}

// groupCase tells by number which records make the directory, in its order.
type groupCase struct {
	name   string
	recs   []impl.Rec
	dir    []int
	last   int
	code   int
	sealed []int
}

func checkGroupCases(t *testing.T, cases []groupCase) {
	t.Helper()
	for _, c := range cases {
		l := placed(c.recs...)
		want := impl.Group{Last: c.last, Code: c.code}
		for _, at := range c.dir {
			want.Dir = append(want.Dir, placeEntry(l[at]))
		}
		checkRegroup(t, c.name, impl.Group{}, l, want)
		checkSealed(t, c.name, l, c.sealed)
		if slow := slowRegroup(impl.Group{}, l); !sameGroup(slow, want) || !slices.Equal(slowSealed(l), c.sealed) {
			t.Fatalf("%s: by the words it is %v, and sealed are %v", c.name, slow, slowSealed(l))
		}
	}
}

func TestGroupCodes(t *testing.T) {
	if impl.GrOk != 0 || impl.GrMark != 1 || impl.GrMany != 2 {
		t.Error("the codes are", impl.GrOk, impl.GrMark, impl.GrMany)
	}
}

func TestRegroupOfBatches(t *testing.T) {
	a1, b1, a2, b2, c2 := put(1, "a", "v"), put(1, "b", "w"), put(2, "a", ""), put(2, "b", "x"), put(2, "c", "y")
	checkGroupCases(t, []groupCase{
		{"one put", sealed(1, a1), []int{0}, 1, impl.GrOk, []int{1}},
		{"two puts", sealed(1, a1, b1), []int{0, 1}, 1, impl.GrOk, []int{1}},
		{"two puts, not in the order of keys", sealed(1, b1, a1), []int{1, 0}, 1, impl.GrOk, []int{1}},
		{"puts and a drop", sealed(1, a1, b1, del(1, "a")), []int{1}, 1, impl.GrOk, []int{1}},
		{"one behind the other", inRow(sealed(1, a1, b1), sealed(2, c2)), []int{0, 1, 3}, 2, impl.GrOk, []int{1, 2}},
		{"the later one first", inRow(sealed(2, c2), sealed(1, a1, b1)), []int{2, 3, 0}, 2, impl.GrOk, []int{2, 1}},
		{"the same key in both", inRow(sealed(1, a1, b1), sealed(2, a2)), []int{3, 1}, 2, impl.GrOk, []int{1, 2}},
		{"what was put is dropped", inRow(sealed(1, a1, b1), sealed(2, del(2, "b"))), []int{0}, 2, impl.GrOk, []int{1, 2}},
		{"all is dropped", inRow(sealed(1, a1, b1), sealed(2, del(2, "b"), del(2, "a"))), nil, 2, impl.GrOk, []int{1, 2}},
		{"mixed, in the order of their seals", []impl.Rec{a1, a2, b1, c2, sealOf(1, a1, b1), sealOf(2, a2, c2)}, []int{1, 2, 3}, 2, impl.GrOk, []int{1, 2}},
		{"mixed, the second seal first", []impl.Rec{a1, a2, b1, c2, sealOf(2, a2, c2), sealOf(1, a1, b1)}, []int{0, 2, 3}, 2, impl.GrOk, []int{2, 1}},
		{"mixed, a drop that is sealed last", []impl.Rec{del(1, "a"), a2, sealOf(2, a2), sealOf(1, del(1, "a"))}, nil, 2, impl.GrOk, []int{2, 1}},
		{"a seal of another batch in between", []impl.Rec{a1, b2, sealOf(2, b2), b1, sealOf(1, a1, b1)}, []int{0, 3}, 2, impl.GrOk, []int{2, 1}},
		{"a seal of none of another batch in between", []impl.Rec{a1, sealOf(2), b1, sealOf(1, a1, b1)}, []int{0, 2}, 2, impl.GrOk, []int{2, 1}},
		{"a seal of another batch in between that does not fit", []impl.Rec{a1, b2, seal(2, 0, 0), b1, sealOf(1, a1, b1)}, []int{0, 3}, 2, impl.GrOk, []int{1}},
		{"one without its seal", []impl.Rec{a1, b1}, nil, 1, impl.GrOk, nil},
		{"one sealed and one not", inRow(sealed(1, a1), []impl.Rec{b2, c2}), []int{0}, 2, impl.GrOk, []int{1}},
		{"a drop that is not sealed", inRow(sealed(1, a1), []impl.Rec{del(2, "a")}), []int{0}, 2, impl.GrOk, []int{1}},
		{"the seal ahead of its records", []impl.Rec{sealOf(1, a1, b1), a1, b1}, nil, 1, impl.GrOk, nil},
		{"the seal amid its records", []impl.Rec{a1, sealOf(1, a1, b1), b1}, nil, 1, impl.GrOk, nil},
		{"another's seal alone", []impl.Rec{a1, b1, sealOf(2, a1, b1)}, nil, 2, impl.GrOk, nil},
	})
}

func TestRegroupOfSeals(t *testing.T) {
	a1, b1, c1 := put(1, "a", "v"), put(1, "b", "w"), put(1, "c", "x")
	both := sealOf(1, a1, b1)
	checkGroupCases(t, []groupCase{
		{"nothing", nil, nil, 0, impl.GrOk, nil},
		{"a seal of nothing", []impl.Rec{seal(1, 0, 0)}, nil, 1, impl.GrOk, []int{1}},
		{"two seals of nothing", []impl.Rec{seal(1, 0, 0), seal(1, 0, 0)}, nil, 1, impl.GrOk, []int{1, 1}},
		{"a seal of nothing with Count 1", []impl.Rec{seal(1, 1, 0)}, nil, 1, impl.GrOk, nil},
		{"a seal of nothing with Count -1", []impl.Rec{seal(1, -1, 0)}, nil, 1, impl.GrOk, nil},
		{"a seal of nothing with Sum 1", []impl.Rec{seal(1, 0, 1)}, nil, 1, impl.GrOk, nil},
		{"a seal of nothing with the total of a put", []impl.Rec{sealOf(1, a1)}, nil, 1, impl.GrOk, nil},
		{"a seal of nothing behind a put", []impl.Rec{a1, seal(1, 0, 0)}, nil, 1, impl.GrOk, nil},
		{"Count one less", []impl.Rec{a1, b1, oddTotal(both, -1, 0)}, nil, 1, impl.GrOk, nil},
		{"Count one more", []impl.Rec{a1, b1, oddTotal(both, 1, 0)}, nil, 1, impl.GrOk, nil},
		{"Sum one less", []impl.Rec{a1, b1, oddTotal(both, 0, -1)}, nil, 1, impl.GrOk, nil},
		{"Sum one more", []impl.Rec{a1, b1, oddTotal(both, 0, 1)}, nil, 1, impl.GrOk, nil},
		{"Sum and all ones", []impl.Rec{a1, b1, oddTotal(both, 0, 1<<32)}, nil, 1, impl.GrOk, nil},
		{"Count and all ones", []impl.Rec{a1, b1, oddTotal(both, 1<<32, 0)}, nil, 1, impl.GrOk, nil},
		{"the total of the other order", []impl.Rec{a1, b1, sealOf(1, b1, a1)}, nil, 1, impl.GrOk, nil},
		{"the total of another value", []impl.Rec{a1, sealOf(1, put(1, "a", "w"))}, nil, 1, impl.GrOk, nil},
		{"the total of another batch", []impl.Rec{a1, sealOf(1, put(2, "a", "v"))}, nil, 1, impl.GrOk, nil},
		{"the total of a keep", []impl.Rec{a1, sealOf(1, keep(1, "a", "v"))}, nil, 1, impl.GrOk, nil},
		{"the total of the first one", []impl.Rec{a1, b1, sealOf(1, a1)}, nil, 1, impl.GrOk, nil},
		{"the total of the last one", []impl.Rec{a1, b1, sealOf(1, b1)}, nil, 1, impl.GrOk, nil},
		{"a second seal with its own", inRow(sealed(1, a1), sealed(1, b1)), []int{0, 2}, 1, impl.GrOk, []int{1, 1}},
		{"a second seal of all", []impl.Rec{a1, sealOf(1, a1), b1, both}, []int{0}, 1, impl.GrOk, []int{1}},
		{"a second seal as the first", inRow(sealed(1, a1), []impl.Rec{sealOf(1, a1)}), []int{0}, 1, impl.GrOk, []int{1}},
		{"a second seal of nothing", inRow(sealed(1, a1), []impl.Rec{seal(1, 0, 0)}), []int{0}, 1, impl.GrOk, []int{1, 1}},
		{"a second seal behind one that does not fit", []impl.Rec{a1, seal(1, 0, 0), b1, both}, nil, 1, impl.GrOk, nil},
		{"its own behind a seal that does not fit", []impl.Rec{a1, seal(1, 0, 0), b1, sealOf(1, b1)}, []int{2}, 1, impl.GrOk, []int{1}},
		{"a right seal right behind a wrong one", []impl.Rec{a1, b1, oddTotal(both, 1, 0), both}, nil, 1, impl.GrOk, nil},
		{"a seal of nothing behind a wrong one", []impl.Rec{a1, b1, oddTotal(both, 1, 0), seal(1, 0, 0)}, nil, 1, impl.GrOk, []int{1}},
		{"records behind the last seal", inRow(sealed(1, a1), []impl.Rec{b1, del(1, "a"), c1}), []int{0}, 1, impl.GrOk, []int{1}},
		{"the same records behind the last seal", inRow(sealed(1, a1), []impl.Rec{a1}), []int{0}, 1, impl.GrOk, []int{1}},
		{"the same records sealed twice", inRow(sealed(1, a1), sealed(1, a1)), []int{2}, 1, impl.GrOk, []int{1, 1}},
	})
}

func TestRegroupOfKeys(t *testing.T) {
	a, again, b := put(1, "a", "v"), put(1, "a", "w"), put(1, "b", "v")
	drop := del(1, "a")
	checkGroupCases(t, []groupCase{
		{"put twice", sealed(1, a, again), []int{1}, 1, impl.GrOk, []int{1}},
		{"put twice the same", sealed(1, a, a), []int{1}, 1, impl.GrOk, []int{1}},
		{"put and dropped", sealed(1, a, drop), nil, 1, impl.GrOk, []int{1}},
		{"dropped and put", sealed(1, drop, a), []int{1}, 1, impl.GrOk, []int{1}},
		{"put, dropped and put", sealed(1, a, drop, again), []int{2}, 1, impl.GrOk, []int{1}},
		{"dropped, put and dropped", sealed(1, drop, a, drop), nil, 1, impl.GrOk, []int{1}},
		{"dropped where it never was", sealed(1, drop), nil, 1, impl.GrOk, []int{1}},
		{"dropped where another is", sealed(1, b, drop), []int{0}, 1, impl.GrOk, []int{1}},
		{"dropped twice", inRow(sealed(1, a), sealed(2, del(2, "a"), del(2, "a"))), nil, 2, impl.GrOk, []int{1, 2}},
		{"dropped in one batch and put in the next", inRow(sealed(1, a), sealed(2, del(2, "a")), sealed(3, put(3, "a", "x"))), []int{4}, 3, impl.GrOk, []int{1, 2, 3}},
		{"the keys of a row, turned", sealed(1, putsOf(1, "c", "b", "a")...), []int{2, 1, 0}, 1, impl.GrOk, []int{1}},
		{"keys of bytes", sealed(1, putsOf(1, "\xff", "\x00", "a\x00", "a")...), []int{1, 3, 2, 0}, 1, impl.GrOk, []int{1}},
	})
}

func TestRegroupOfMarks(t *testing.T) {
	x, y, z := keep(2, "x", "v"), keep(3, "y", "w"), keep(1, "z", "")
	a := put(5, "a", "v")
	both := markOf(7, x, y)
	checkGroupCases(t, []groupCase{
		{"one kept", marked(7, x), []int{0}, 7, impl.GrOk, nil},
		{"three kept, of batches of their own", marked(7, x, y, z), []int{0, 1, 2}, 7, impl.GrOk, nil},
		{"not in the order of keys", marked(7, z, x, y), []int{1, 2, 0}, 7, impl.GrOk, nil},
		{"a mark of batch 0", marked(0, z), []int{0}, 1, impl.GrOk, nil},
		{"a mark of nothing", []impl.Rec{mark(4, 0, 0)}, nil, 4, impl.GrOk, nil},
		{"two marks of nothing", []impl.Rec{mark(4, 0, 0), mark(3, 0, 0)}, nil, 4, impl.GrOk, nil},
		{"a mark of nothing with Count 1", []impl.Rec{mark(4, 1, 0)}, nil, 4, impl.GrMark, nil},
		{"a mark of nothing with Count -1", []impl.Rec{mark(4, -1, 0)}, nil, 4, impl.GrMark, nil},
		{"a mark of nothing with Sum 1", []impl.Rec{mark(4, 0, 1)}, nil, 4, impl.GrMark, nil},
		{"kept without a mark", []impl.Rec{x}, nil, 2, impl.GrMark, nil},
		{"kept behind the last mark", inRow(marked(7, x), []impl.Rec{y}), []int{0}, 7, impl.GrMark, nil},
		{"kept behind a mark of nothing", []impl.Rec{mark(0, 0, 0), y}, nil, 3, impl.GrMark, nil},
		{"Count one less", []impl.Rec{x, y, oddTotal(both, -1, 0)}, nil, 7, impl.GrMark, nil},
		{"Count one more", []impl.Rec{x, y, oddTotal(both, 1, 0)}, nil, 7, impl.GrMark, nil},
		{"Sum one less", []impl.Rec{x, y, oddTotal(both, 0, -1)}, nil, 7, impl.GrMark, nil},
		{"Sum one more", []impl.Rec{x, y, oddTotal(both, 0, 1)}, nil, 7, impl.GrMark, nil},
		{"Sum and all ones", []impl.Rec{x, y, oddTotal(both, 0, 1<<32)}, nil, 7, impl.GrMark, nil},
		{"the total of the other order", []impl.Rec{x, y, markOf(7, y, x)}, nil, 7, impl.GrMark, nil},
		{"the total of the last one", []impl.Rec{x, y, markOf(7, y)}, nil, 7, impl.GrMark, nil},
		{"the total of a put", []impl.Rec{x, markOf(7, put(2, "x", "v"))}, nil, 7, impl.GrMark, nil},
		{"two marks, each with its own", inRow(marked(7, x), marked(6, y)), []int{0, 2}, 7, impl.GrOk, nil},
		{"two marks, the second of all", inRow(marked(7, x), []impl.Rec{y, both}), []int{0}, 7, impl.GrMark, nil},
		{"two marks, the second as the first", inRow(marked(7, x), []impl.Rec{markOf(7, x)}), []int{0}, 7, impl.GrMark, nil},
		{"two marks, the second of nothing", inRow(marked(7, x), []impl.Rec{mark(8, 0, 0)}), []int{0}, 8, impl.GrOk, nil},
		{"a key kept twice", marked(7, x, keep(4, "x", "w")), []int{1}, 7, impl.GrOk, nil},
		{"a mark beside a seal", inRow(marked(3, x), sealed(5, a)), []int{2, 0}, 5, impl.GrOk, []int{5}},
		{"a seal beside a mark", inRow(sealed(5, a), marked(3, x)), []int{0, 2}, 5, impl.GrOk, []int{5}},
		{"what was kept is put again", inRow(marked(3, x), sealed(5, put(5, "x", "w"))), []int{2}, 5, impl.GrOk, []int{5}},
		{"what was kept is dropped", inRow(marked(3, x), sealed(5, del(5, "x"))), nil, 5, impl.GrOk, []int{5}},
		{"what was put is kept", inRow(sealed(5, put(5, "x", "w")), marked(5, x)), []int{2}, 5, impl.GrOk, []int{5}},
		{"a mark drops nothing", inRow(sealed(5, a), []impl.Rec{mark(5, 0, 0)}), []int{0}, 5, impl.GrOk, []int{5}},
		{"a seal between a keep and its mark", []impl.Rec{x, a, sealOf(5, a), y, both}, []int{1, 0, 3}, 7, impl.GrOk, []int{5}},
		{"a seal of nothing between a keep and its mark", []impl.Rec{x, sealOf(2), markOf(7, x)}, []int{0}, 7, impl.GrOk, []int{2}},
		{"a seal of the keep's batch", []impl.Rec{x, sealOf(2, x)}, nil, 2, impl.GrMark, nil},
		{"a mark between a put and its seal", []impl.Rec{a, mark(5, 0, 0), sealOf(5, a)}, []int{0}, 5, impl.GrOk, []int{5}},
		{"a mark with its own between a put and its seal", []impl.Rec{a, x, markOf(5, x), sealOf(5, a)}, []int{0, 1}, 5, impl.GrOk, []int{5}},
		{"a mark of the total of puts", []impl.Rec{a, markOf(5, a)}, nil, 5, impl.GrMark, nil},
	})
}

// TestRegroupEndsAtItsCode has behind a record at which the code was set what
// would change all else. Sealed knows no code: it goes through to the end.
func TestRegroupEndsAtItsCode(t *testing.T) {
	x, a, b := keep(2, "x", "v"), put(5, "a", "v"), put(9, "b", "v")
	wrong := mark(3, 1, 0)
	full := inRow(sealed(1, putsOf(1, rowKeys(10)...)...), sealed(2, putsOf(2, rowKeys(21)[10:]...)...))
	all := make([]int, 0, 21)
	for at := range full[:22] {
		if at != 10 {
			all = append(all, at)
		}
	}
	checkGroupCases(t, []groupCase{
		{"a seal behind a wrong mark", inRow([]impl.Rec{wrong}, sealed(9, b)), nil, 3, impl.GrMark, []int{9}},
		{"a right mark behind a wrong one", inRow([]impl.Rec{wrong}, marked(9, x)), nil, 3, impl.GrMark, nil},
		{"the seal alone behind a wrong mark", []impl.Rec{a, wrong, sealOf(5, a)}, nil, 5, impl.GrMark, []int{5}},
		{"a seal ahead of a wrong mark, one behind", inRow(sealed(5, a), []impl.Rec{wrong}, sealed(9, b)), []int{0}, 5, impl.GrMark, []int{5, 9}},
		{"a greater batch behind a wrong mark", []impl.Rec{wrong, put(4, "k", ""), {Kind: 77, Batch: 100}}, nil, 3, impl.GrMark, nil},
		{"kept behind a wrong mark", []impl.Rec{wrong, x}, nil, 3, impl.GrMark, nil},
		{"too many, and a drop behind", inRow(full, sealed(9, delsOf(9, rowKeys(2)...)...)), all, 2, impl.GrMany, []int{1, 2, 9}},
		{"too many, and a seal of nothing behind", inRow(full, []impl.Rec{sealOf(9)}), all, 2, impl.GrMany, []int{1, 2, 9}},
		{"too many, and a wrong mark behind", inRow(full, []impl.Rec{mark(9, 1, 0)}), all, 2, impl.GrMany, []int{1, 2}},
		{"too many, and kept behind", inRow(full, []impl.Rec{x}), all, 2, impl.GrMany, []int{1, 2}},
		{"too many, and kept ahead", inRow([]impl.Rec{x}, full), nextOf(all), 2, impl.GrMany, []int{1, 2}},
	})
}

// nextOf are the numbers, each one more.
func nextOf(l []int) []int {
	var more []int
	for _, n := range l {
		more = append(more, n+1)
	}
	return more
}

func TestRegroupOfOtherKinds(t *testing.T) {
	a, x := put(1, "a", "v"), keep(1, "x", "v")
	for _, kind := range recKinds {
		if within(kind, impl.RkPut, impl.RkMark) {
			continue
		}
		odd := impl.Rec{Kind: kind, Batch: 3, Key: "a", Value: "w", Count: 1, Sum: 2}
		name := fmt.Sprint("kind ", kind)
		checkGroupCases(t, []groupCase{
			{name, []impl.Rec{odd}, nil, 3, impl.GrOk, nil},
			{name + " ahead of a put", inRow([]impl.Rec{odd}, sealed(1, a)), []int{1}, 3, impl.GrOk, []int{1}},
			{name + " ahead of a seal", []impl.Rec{a, odd, sealOf(1, a)}, []int{0}, 3, impl.GrOk, []int{1}},
			{name + " of the batch", []impl.Rec{a, {Kind: kind, Batch: 1, Key: "a"}, sealOf(1, a)}, []int{0}, 1, impl.GrOk, []int{1}},
			{name + " behind a seal", inRow(sealed(1, a), []impl.Rec{odd}), []int{0}, 3, impl.GrOk, []int{1}},
			{name + " ahead of a mark", []impl.Rec{x, odd, markOf(2, x)}, []int{0}, 3, impl.GrOk, nil},
			{name + " behind a mark", inRow(marked(2, x), []impl.Rec{odd}), []int{0}, 3, impl.GrOk, nil},
			{name + " with the total of a seal", []impl.Rec{a, {Kind: kind, Batch: 1, Count: 1, Sum: sealOf(1, a).Sum}, sealOf(1, a)}, []int{0}, 1, impl.GrOk, []int{1}},
		})
	}
}

// TestRegroupOfWrongRecords has records that are not right: they count for
// their seal, and have no text in its sum.
func TestRegroupOfWrongRecords(t *testing.T) {
	a, noKey, longKey := put(1, "a", "v"), put(1, "", "v"), put(1, "123456789", "v")
	longValue := put(1, "b", strings.Repeat("v", impl.MaxValue+1))
	odd := impl.Rec{Kind: impl.RkPut, Batch: 1, Key: "o", Count: 1}
	below := put(-4, "a", "v")
	nine := putsOf(1, rowKeys(impl.MaxPuts+1)...)
	checkGroupCases(t, []groupCase{
		{"a put without a key", sealed(1, noKey), []int{0}, 1, impl.GrOk, []int{1}},
		{"a put without a key, and nothing in its sum", []impl.Rec{noKey, seal(1, 1, 0)}, []int{0}, 1, impl.GrOk, []int{1}},
		{"a put without a key that is not counted", []impl.Rec{noKey, seal(1, 0, 0)}, nil, 1, impl.GrOk, nil},
		{"right and wrong ones", sealed(1, a, longKey, longValue, odd, noKey), []int{4, 1, 0, 2, 3}, 1, impl.GrOk, []int{1}},
		{"right and wrong ones, with the sum of the right one", []impl.Rec{noKey, a, longKey, oddTotal(sealOf(1, a), 2, 0)}, []int{0, 2, 1}, 1, impl.GrOk, []int{1}},
		{"a drop without a key", inRow(sealed(1, noKey, a), sealed(2, del(2, ""))), []int{1}, 2, impl.GrOk, []int{1, 2}},
		{"a drop with a value", inRow(sealed(1, a), sealed(2, impl.Rec{Kind: impl.RkDel, Batch: 2, Key: "a", Value: "v"})), nil, 2, impl.GrOk, []int{1, 2}},
		{"a keep without a key", marked(2, keep(1, "", "")), []int{0}, 2, impl.GrOk, nil},
		{"batch 0", sealed(0, put(0, "a", "v")), []int{0}, 0, impl.GrOk, []int{0}},
		{"batch 0 and no seal of it", inRow([]impl.Rec{put(0, "a", "v")}, sealed(1, put(1, "b", "v"))), []int{1}, 1, impl.GrOk, []int{1}},
		{"a batch below 0", sealed(-4, below), []int{0}, 0, impl.GrOk, []int{-4}},
		{"a batch below 0, and 4", []impl.Rec{below, sealOf(4, below), seal(-4, 1, 0)}, []int{0}, 4, impl.GrOk, []int{-4}},
		{"the least batch", sealed(math.MinInt, del(math.MinInt, "k")), nil, 0, impl.GrOk, []int{math.MinInt}},
		{"the greatest batch", sealed(math.MaxInt, put(math.MaxInt, "k", "")), []int{0}, math.MaxInt, impl.GrOk, []int{math.MaxInt}},
		{"above MaxBatch", sealed(impl.MaxBatch+1, put(impl.MaxBatch+1, "k", "")), []int{0}, impl.MaxBatch + 1, impl.GrOk, []int{impl.MaxBatch + 1}},
		{"batches that are alike in 32 bits", []impl.Rec{a, sealOf(1+1<<32, a)}, nil, 1 + 1<<32, impl.GrOk, nil},
		{"a mark below 0", marked(-1, keep(1, "k", "")), []int{0}, 1, impl.GrOk, nil},
		{"more than MaxPuts", sealed(1, nine...), []int{0, 1, 2, 3, 4, 5, 6, 7, 8}, 1, impl.GrOk, []int{1}},
		{"a seal with a key", []impl.Rec{a, {Kind: impl.RkSeal, Batch: 1, Key: "k", Value: "v", Count: 1, Sum: sealOf(1, a).Sum}}, []int{0}, 1, impl.GrOk, []int{1}},
		{"Count of the greatest", []impl.Rec{a, seal(1, math.MaxInt, sealOf(1, a).Sum)}, nil, 1, impl.GrOk, nil},
		{"Count of the least", []impl.Rec{a, seal(1, math.MinInt, sealOf(1, a).Sum)}, nil, 1, impl.GrOk, nil},
		{"Sum of the least", []impl.Rec{a, seal(1, 1, math.MinInt)}, nil, 1, impl.GrOk, nil},
	})
}

// TestRegroupTellsWhereItStands has places of any kind: they are told as they
// are.
func TestRegroupTellsWhereItStands(t *testing.T) {
	a := put(3, "a", "v")
	for _, n := range []int{math.MinInt, -1, 0, 1, 210, 211, impl.MaxId, impl.MaxId + 1, math.MaxInt} {
		for _, p := range []impl.Place{{Seg: n, At: 4, Len: 5}, {Seg: 6, At: n, Len: 5}, {Seg: 6, At: 4, Len: n}, {Seg: n, At: n, Len: n}} {
			p.Rec = a
			end := impl.Place{Seg: 8, At: 9, Len: 10, Rec: sealOf(3, a)}
			want := []impl.Entry{{Key: "a", Seg: p.Seg, At: p.At, Len: p.Len, Batch: 3}}
			checkRegroup(t, "put", impl.Group{}, []impl.Place{p, end}, impl.Group{Dir: want, Last: 3})
			checkSealed(t, "put", []impl.Place{p, end}, []int{3})
			p.Rec = keep(2, "k", "v")
			end.Rec = markOf(3, p.Rec)
			want = []impl.Entry{{Key: "k", Seg: p.Seg, At: p.At, Len: p.Len, Batch: 2}}
			checkRegroup(t, "kept", impl.Group{}, []impl.Place{p, end}, impl.Group{Dir: want, Last: 3})
		}
	}
}

// TestRegroupOfEqualPlaces has records that stand at one place, and in an
// order that is not that of their places.
func TestRegroupOfEqualPlaces(t *testing.T) {
	recs := sealed(1, put(1, "a", "v"), put(1, "b", "v"), del(1, "a"), put(1, "a", "w"))
	var same, turnedRound []impl.Place
	for i, r := range recs {
		same = append(same, impl.Place{Seg: 1, At: 0, Len: 10, Rec: r})
		turnedRound = append(turnedRound, impl.Place{Seg: 9 - i, At: 100 - i, Len: 10, Rec: r})
	}
	checkRegroup(t, "at one place", impl.Group{}, same, impl.Group{Dir: []impl.Entry{placeEntry(same[3]), placeEntry(same[1])}, Last: 1})
	checkRegroup(t, "turned round", impl.Group{}, turnedRound, impl.Group{Dir: []impl.Entry{placeEntry(turnedRound[3]), placeEntry(turnedRound[1])}, Last: 1})
}

// dirRows are n keys that are put in batches of at most MaxPuts, and sealed.
func dirRows(n int) []impl.Rec {
	var l []impl.Rec
	keys := rowKeys(n)
	for batch, some := range slices.Collect(slices.Chunk(keys, impl.MaxPuts)) {
		l = append(l, sealed(batch+1, putsOf(batch+1, some...)...)...)
	}
	return l
}

// TestRegroupOfManyKeys has a directory of up to MaxKeys + 2 entries behind
// seals, behind a mark, and within a batch alone.
func TestRegroupOfManyKeys(t *testing.T) {
	for n := range impl.MaxKeys + 3 {
		keys := rowKeys(n)
		code := impl.GrOk
		if n > impl.MaxKeys {
			code = impl.GrMany
		}
		for name, recs := range map[string][]impl.Rec{
			"behind seals":             dirRows(n),
			"behind one seal":          sealed(1, putsOf(1, keys...)...),
			"behind a mark":            marked(1, keepsOf(1, keys...)...),
			"behind a mark and a seal": inRow(marked(1, keepsOf(1, keys[:n/2]...)...), sealed(2, putsOf(2, keys[n/2:]...)...)),
			"behind a seal and a mark": inRow(sealed(2, putsOf(2, keys[n/2:]...)...), marked(1, keepsOf(1, keys[:n/2]...)...)),
		} {
			got := impl.Regroup(impl.Group{}, placed(recs...))
			if got.Code != code || !slices.Equal(impl.DirKeys(got.Dir), keys) {
				t.Errorf("%d keys %s: Code %d, keys %q", n, name, got.Code, impl.DirKeys(got.Dir))
			}
			checkRegroup(t, name, impl.Group{}, placed(recs...), slowRegroup(impl.Group{}, placed(recs...)))
		}
		checkWithin(t, keys)
	}
}

// checkWithin puts all keys in one batch, which drops the last ones, so that
// at its seal there are MaxKeys - 1.
func checkWithin(t *testing.T, keys []string) {
	t.Helper()
	left := keys[:min(len(keys), impl.MaxKeys-1)]
	recs := sealed(1, append(putsOf(1, keys...), delsOf(1, keys[len(left):]...)...)...)
	got := impl.Regroup(impl.Group{}, placed(recs...))
	if got.Code != impl.GrOk || !slices.Equal(impl.DirKeys(got.Dir), left) {
		t.Errorf("%d keys within a batch: Code %d, keys %q", len(keys), got.Code, impl.DirKeys(got.Dir))
	}
	unsealed := append(putsOf(2, keys...), sealed(1, put(1, "a", "v"))...)
	got = impl.Regroup(impl.Group{}, placed(unsealed...))
	if got.Code != impl.GrOk || !slices.Equal(impl.DirKeys(got.Dir), []string{"a"}) {
		t.Errorf("%d keys that are not sealed: Code %d, keys %q", len(keys), got.Code, impl.DirKeys(got.Dir))
	}
}

// TestRegroupAsksAtEachSeal has a full directory, and one put more, of a key
// that is there or not, with a drop ahead of it or behind it.
func TestRegroupAsksAtEachSeal(t *testing.T) {
	keys := rowKeys(impl.MaxKeys)
	full := dirRows(impl.MaxKeys)
	for _, c := range []struct {
		name string
		more []impl.Rec
		keys []string
		code int
	}{
		{"nothing", nil, keys, impl.GrOk},
		{"a key that is there", sealed(9, put(9, keys[4], "w")), keys, impl.GrOk},
		{"one that is not", sealed(9, put(9, "z", "w")), append(slices.Clone(keys), "z"), impl.GrMany},
		{"one that is not, in a batch that is not sealed", []impl.Rec{put(9, "z", "w")}, keys, impl.GrOk},
		{"one that is not, by a seal that does not fit", []impl.Rec{put(9, "z", "w"), seal(9, 2, 0)}, keys, impl.GrOk},
		{"a drop ahead", sealed(9, del(9, keys[0]), put(9, "z", "w")), append(slices.Clone(keys[1:]), "z"), impl.GrOk},
		{"a drop behind", sealed(9, put(9, "z", "w"), del(9, keys[0])), append(slices.Clone(keys[1:]), "z"), impl.GrOk},
		{"a drop in the next batch", inRow(sealed(9, put(9, "z", "w")), sealed(10, del(10, keys[0]))), append(slices.Clone(keys), "z"), impl.GrMany},
		{"a drop in a batch ahead", inRow(sealed(9, del(9, keys[0])), sealed(10, put(10, "z", "w"))), append(slices.Clone(keys[1:]), "z"), impl.GrOk},
		{"one kept", marked(9, keep(9, "z", "w")), append(slices.Clone(keys), "z"), impl.GrMany},
		{"one kept that is there", marked(9, keep(9, keys[19], "w")), keys, impl.GrOk},
		{"one kept without a mark", []impl.Rec{keep(9, "z", "w")}, keys, impl.GrMark},
		{"one kept by a mark that does not fit", []impl.Rec{keep(9, "z", "w"), mark(9, 0, 0)}, keys, impl.GrMark},
	} {
		l := placed(inRow(full, c.more)...)
		got := impl.Regroup(impl.Group{}, l)
		if got.Code != c.code || !slices.Equal(impl.DirKeys(got.Dir), c.keys) {
			t.Errorf("%s: Code %d, keys %q", c.name, got.Code, impl.DirKeys(got.Dir))
		}
		checkRegroup(t, c.name, impl.Group{}, l, slowRegroup(impl.Group{}, l))
	}
}

// someLists are lists of records of all that is told above, in short.
func someLists() [][]impl.Rec {
	a1, b1, a2, x := put(1, "a", "v"), put(1, "b", "v"), put(2, "a", "w"), keep(1, "x", "v")
	return [][]impl.Rec{
		nil, {}, {a1}, {x}, {seal(1, 0, 0)}, {seal(3, 1, 0)}, {mark(3, 0, 0)}, {mark(3, 1, 0)}, {{}}, {{Kind: 9, Batch: 9}},
		sealed(1, a1), sealed(1, a1, b1), inRow(sealed(1, a1, b1), sealed(2, a2)), sealed(1, del(1, "b")), inRow(sealed(1, a1, b1), sealed(2, del(2, "a"), put(2, "c", ""))),
		marked(5, x), marked(0, x, keep(3, "b", "")), inRow(marked(5, x), []impl.Rec{x}), {x, a1, sealOf(1, a1), markOf(5, x)}, {a1, x, markOf(5, x), sealOf(1, a1)},
		{a1, a2, b1, sealOf(2, a2), sealOf(1, a1, b1)}, {a1, mark(1, 1, 1), sealOf(1, a1)}, sealed(-1, put(-1, "a", "v")), sealed(0, put(0, "", "")),
		dirRows(impl.MaxKeys - 1), dirRows(impl.MaxKeys), dirRows(impl.MaxKeys + 1), append(dirRows(impl.MaxKeys+1), a1),
	}
}

func TestRegroupFromACode(t *testing.T) {
	for _, recs := range someLists() {
		l := placed(recs...)
		for _, code := range []int{impl.GrMark, impl.GrMany, 3, 4, -1, 256, 1 << 32, math.MinInt, math.MaxInt} {
			for _, last := range []int{0, 1, 2, -7, impl.MaxBatch, math.MinInt, math.MaxInt} {
				for _, dir := range [][]impl.Entry{nil, entries("a"), entries("c", "a", "c"), entries(rowKeys(impl.MaxKeys + 1)...), make([]impl.Entry, 3)} {
					g := impl.Group{Dir: dir, Last: last, Code: code}
					checkRegroup(t, "as it is", g, l, g)
				}
			}
		}
	}
}

func TestRegroupFromALast(t *testing.T) {
	two := placed(inRow(sealed(5, put(5, "a", "v")), sealed(3, put(3, "b", "v")))...)
	for _, c := range []struct {
		l          []impl.Place
		last, want int
	}{
		{nil, 0, 0}, {nil, 7, 7}, {nil, -7, -7}, {nil, math.MinInt, math.MinInt}, {nil, math.MaxInt, math.MaxInt},
		{two, 0, 5}, {two, 3, 5}, {two, 4, 5}, {two, 5, 5}, {two, 6, 6}, {two, impl.MaxBatch + 1, impl.MaxBatch + 1}, {two, -1, 5}, {two, math.MinInt, 5}, {two, math.MaxInt, math.MaxInt},
		{placed(put(-2, "a", "")), -3, -2}, {placed(put(-2, "a", "")), -2, -2}, {placed(put(-2, "a", "")), -1, -1}, {placed(put(-2, "a", "")), 0, 0}, {placed(put(0, "a", "")), -9, 0},
		{placed(del(8, "a")), 7, 8}, {placed(seal(8, 3, 0)), 7, 8}, {placed(mark(8, 0, 0)), 7, 8}, {placed(impl.Rec{Kind: 6, Batch: 8}), 7, 8}, {placed(impl.Rec{Batch: 8}), 7, 8},
	} {
		if got := impl.Regroup(impl.Group{Last: c.last}, c.l); got.Last != c.want || got.Code != impl.GrOk {
			t.Errorf("Last %d, and %v: Last %d, Code %d", c.last, c.l, got.Last, got.Code)
		}
	}
	if got := impl.Regroup(impl.Group{Last: 7}, placed(keep(8, "a", ""))); got.Last != 8 || got.Code != impl.GrMark {
		t.Errorf("a keep behind Last 7: %v", got)
	}
}

// TestRegroupFromADir begins with directories, right ones and others; those
// that are no right ones are taken as they are.
func TestRegroupFromADir(t *testing.T) {
	for _, recs := range someLists() {
		l := placed(recs...)
		for _, dir := range append(someDirs(), noDirs()...) {
			g := impl.Group{Dir: dir, Last: 4}
			checkRegroup(t, "begun", g, l, slowRegroup(g, l))
		}
	}
	many := entries(rowKeys(impl.MaxKeys + 1)...)
	a := put(1, "k00001", "v")
	for _, c := range []struct {
		name string
		recs []impl.Rec
		keys int
		code int
	}{
		{"no records", nil, 21, impl.GrOk},
		{"a put that is not sealed", []impl.Rec{a}, 21, impl.GrOk},
		{"a seal that does not fit", []impl.Rec{a, seal(1, 0, 0)}, 21, impl.GrOk},
		{"a seal of nothing", []impl.Rec{seal(1, 0, 0)}, 21, impl.GrMany},
		{"a mark of nothing", []impl.Rec{mark(1, 0, 0)}, 21, impl.GrMany},
		{"a key that is there", sealed(1, a), 21, impl.GrMany},
		{"a drop", sealed(1, del(1, "k00001")), 20, impl.GrOk},
		{"a drop of what is not there", sealed(1, del(1, "a")), 21, impl.GrMany},
	} {
		got := impl.Regroup(impl.Group{Dir: many}, placed(c.recs...))
		if got.Code != c.code || len(got.Dir) != c.keys {
			t.Errorf("more than MaxKeys, and %s: %d keys, Code %d", c.name, len(got.Dir), got.Code)
		}
	}
}

// TestRegroupLooksAtWhatIsHandedIn goes through a list in two calls: what
// stood in the first one is no record of the second.
func TestRegroupLooksAtWhatIsHandedIn(t *testing.T) {
	a, b, x := put(1, "a", "v"), put(1, "b", "v"), keep(1, "x", "v")
	l := placed(a, b, sealOf(1, a, b))
	for cut := range 4 {
		got := impl.Regroup(impl.Regroup(impl.Group{}, l[:cut]), l[cut:])
		want := 0
		if cut == 0 || cut == 3 {
			want = 2
		}
		if len(got.Dir) != want || got.Last != 1 || got.Code != impl.GrOk {
			t.Errorf("cut at %d: %v", cut, got)
		}
	}
	checkSealed(t, "the seal alone", l[2:], nil)
	checkSealed(t, "one put and the seal", l[1:], nil)
	m := placed(x, markOf(2, x))
	checkRegroup(t, "a mark alone", impl.Group{}, m[1:], impl.Group{Last: 2, Code: impl.GrMark})
	checkRegroup(t, "a keep alone", impl.Group{}, m[:1], impl.Group{Last: 1, Code: impl.GrMark})
}

// nextRec makes a record out of what it is to be and of what stands ahead: a
// seal or a mark that fits can be made in no other way.
type nextRec func(ahead []impl.Place) impl.Rec

func fixedRec(r impl.Rec) nextRec { return func([]impl.Place) impl.Rec { return r } }

// endRec is a seal or a mark of its own, its Count and Sum off by some.
func endRec(kind, batch, count, sum int) nextRec {
	return func(ahead []impl.Place) impl.Rec {
		end := impl.Rec{Kind: kind, Batch: batch}
		var own []impl.Rec
		for _, p := range slowOwn(append(slices.Clone(ahead), impl.Place{Rec: end}), len(ahead)) {
			own = append(own, p.Rec)
		}
		end.Count, end.Sum = totalOf(own)
		return oddTotal(end, count, sum)
	}
}

// recSteps are what the rows of records below are made of.
func recSteps() []nextRec {
	return []nextRec{
		endRec(impl.RkSeal, 1, 0, 0), endRec(impl.RkSeal, 2, 0, 0), endRec(impl.RkMark, 3, 0, 0), endRec(impl.RkSeal, 1, 1, 0), endRec(impl.RkMark, 1, 0, 1),
		fixedRec(put(1, "b", "v")), fixedRec(del(1, "b")), fixedRec(put(2, "b", "w")), fixedRec(put(2, "a", "")), fixedRec(keep(2, "b", "x")), fixedRec(impl.Rec{Kind: 6, Batch: 4, Key: "b"}),
	}
}

// forAllRows calls with each row of up to n of the steps.
func forAllRows(steps []nextRec, n int, each func(l []impl.Place)) {
	var follow func(ahead []impl.Place)
	follow = func(ahead []impl.Place) {
		each(ahead)
		if len(ahead) == n {
			return
		}
		for _, step := range steps {
			p := impl.Place{Seg: 1, At: 100 * len(ahead), Len: 20, Rec: step(ahead)}
			follow(append(slices.Clip(ahead), p))
		}
	}
	follow(nil)
}

func TestGroupsByTheWords(t *testing.T) {
	starts := []impl.Group{{}, {Dir: entries("b"), Last: 3}}
	forAllRows(recSteps(), 5, func(l []impl.Place) {
		for _, g := range starts {
			checkRegroup(t, "row", g, l, slowRegroup(g, l))
		}
		checkSealed(t, "row", l, slowSealed(l))
	})
}

// ofBatch says whether a record is one of a batch: a keep is one of its mark.
func ofBatch(r impl.Rec) bool {
	return r.Kind == impl.RkPut || r.Kind == impl.RkDel || r.Kind == impl.RkSeal
}

// withoutUnsealed takes the records of a list apart: without those of batches
// that are not sealed, and these.
func withoutUnsealed(l []impl.Place) (left, taken []impl.Place) {
	batches := impl.Sealed(l)
	for _, p := range l {
		if ofBatch(p.Rec) && !slices.Contains(batches, p.Rec.Batch) {
			taken = append(taken, p)
		} else {
			left = append(left, p)
		}
	}
	return left, taken
}

// checkUnsealed holds promise 9: records of batches that are not sealed may
// be gone, and may stand elsewhere.
func checkUnsealed(t *testing.T, l []impl.Place) {
	t.Helper()
	want := impl.Regroup(impl.Group{}, l)
	batches := impl.Sealed(l)
	left, taken := withoutUnsealed(l)
	moved := append(slices.Clone(left), taken...)
	ahead := append(slices.Clone(taken), left...)
	for _, other := range [][]impl.Place{left, moved, ahead} {
		if got := impl.Regroup(impl.Group{}, other); !slices.Equal(got.Dir, want.Dir) || got.Code != want.Code {
			t.Fatalf("Regroup of %v is %v, and of %v it is %v, sealed are %v", l, want, other, got, batches)
		}
		checkSealed(t, "moved", other, batches)
	}
}

func TestGroupPromiseOfRows(t *testing.T) {
	forAllRows(recSteps(), 4, func(l []impl.Place) { checkUnsealed(t, l) })
}

// longRow is a row of records of many batches that are mixed with each other,
// some without a seal, some with one that does not fit.
func longRow(n, keyCount, seed int) []impl.Place {
	below := func(n int) int {
		seed = (seed*1103515245 + 12345) % 2147483648
		return seed / 65536 % n
	}
	keys := rowKeys(keyCount)
	var l []impl.Place
	for len(l) < n {
		batch := 1 + len(l)/20 + below(5)
		var step nextRec
		switch below(12) {
		case 0, 1, 2:
			step = endRec(impl.RkSeal, batch, 0, 0)
		case 3:
			step = endRec(impl.RkSeal, batch, below(3)-1, below(3)-1)
		case 4, 5, 6:
			step = fixedRec(del(batch, keys[below(keyCount)]))
		case 7:
			l = append(l, impl.Place{Seg: 1 + len(l)/50, At: 10 * len(l), Len: 13, Rec: keep(batch, keys[below(keyCount)], "k")})
			step = endRec(impl.RkMark, batch, 0, 0)
		default:
			step = fixedRec(put(batch, keys[below(keyCount)], impl.Dec(len(l))))
		}
		l = append(l, impl.Place{Seg: 1 + len(l)/50, At: 10 * len(l), Len: 13, Rec: step(l)})
	}
	return l
}

func TestGroupsOfLongRows(t *testing.T) {
	for seed := 1; seed <= 60; seed++ {
		for _, keyCount := range []int{1, 3, 10, 20, 25, 60} {
			l := longRow(150, keyCount, seed)
			for _, end := range []int{len(l), len(l) / 2, len(l) / 3} {
				checkRegroup(t, "long row", impl.Group{}, l[:end], slowRegroup(impl.Group{}, l[:end]))
				checkSealed(t, "long row", l[:end], slowSealed(l[:end]))
				checkUnsealed(t, l[:end])
			}
		}
	}
}

// TestGroupPromise takes the records of an unsealed batch out, and puts them
// in at each place.
func TestGroupPromise(t *testing.T) {
	a, b, x := put(1, "a", "v"), put(1, "b", "v"), keep(2, "x", "v")
	base := placed(inRow(sealed(1, a, b), sealed(2, del(2, "a"), put(2, "c", "v")), marked(2, x), sealed(3, put(3, "b", "w")))...)
	want := impl.Regroup(impl.Group{}, base)
	if want.Code != impl.GrOk || !slices.Equal(impl.DirKeys(want.Dir), []string{"b", "c", "x"}) {
		t.Fatalf("Regroup(%v) = %v", base, want)
	}
	for _, gone := range [][]impl.Rec{
		{put(4, "a", "u")}, {del(4, "b")}, {del(4, "x"), put(4, "c", "u")}, {put(4, "a", "u"), seal(4, 2, 0)}, {put(4, "a", "u"), seal(4, 0, 0)}, {seal(4, 1, 0)},
		{del(4, "b"), oddTotal(sealOf(4, del(4, "b")), 0, 1)}, putsOf(4, rowKeys(30)...), {put(-4, "a", "u")}, {put(0, "a", "u")},
	} {
		var others []impl.Place
		for i, r := range gone {
			others = append(others, impl.Place{Seg: 9, At: i, Len: 9, Rec: r})
		}
		first, last := others[:len(others)-1], others[len(others)-1:]
		for at := range len(base) + 1 {
			for behind := at; behind <= len(base); behind++ {
				l := slices.Concat(base[:at], first, base[at:behind], last, base[behind:])
				if got := impl.Regroup(impl.Group{}, l); !impl.SameDir(got.Dir, want.Dir) || got.Code != impl.GrOk {
					t.Fatalf("with %v between: %v, want %v", gone, got, want)
				}
				checkSealed(t, "with others between", l, []int{1, 2, 3})
			}
		}
	}
}

// TestGroupsOfManyRecords is of lists that are longer than any log; they are
// gone through once.
func TestGroupsOfManyRecords(t *testing.T) {
	var l []impl.Place
	var want []int
	const n = 20000
	for batch := 1; batch <= n; batch++ {
		l = append(l, impl.Place{Seg: 1, At: batch, Len: 9, Rec: put(batch, impl.Dec(batch%19), "v")})
	}
	checkRegroup(t, "none sealed", impl.Group{}, l, impl.Group{Last: n})
	checkSealed(t, "none sealed", l, nil)
	for batch := n; batch >= 1; batch-- {
		r := put(batch, impl.Dec(batch%19), "v")
		l = append(l, impl.Place{Seg: 2, At: batch, Len: 9, Rec: seal(batch, 1, impl.SumOf([]impl.Rec{r}))})
		want = append(want, batch)
	}
	checkSealed(t, "each sealed, from the last on", l, want)
	got := impl.Regroup(impl.Group{}, l)
	for key := range 19 {
		first := key
		if key == 0 {
			first = 19
		}
		e, ok := impl.DirGet(got.Dir, impl.Dec(key))
		if !ok || e.Batch != first || e.At != first {
			t.Errorf("of key %d the entry is %v", key, e)
		}
	}
	if got.Code != impl.GrOk || got.Last != n || len(got.Dir) != 19 {
		t.Errorf("many batches: Code %d, Last %d, %d keys", got.Code, got.Last, len(got.Dir))
	}
	one := slices.Repeat([]impl.Rec{put(7, "k", "v")}, n)
	checkSealed(t, "one great batch", placed(append(one, seal(7, n, impl.SumOf(one)))...), []int{7})
}

// roomyPlaces is the list with spare room behind it, and all of that memory.
func roomyPlaces(recs []impl.Rec) (handed, whole []impl.Place) {
	whole = placed(append(slices.Clone(recs), put(1, "a", "spare"), seal(1, 0, 0), mark(1, 0, 0), keep(1, "a", ""))...)
	return whole[:len(recs)], whole
}

func TestGroupsAreLeftAlone(t *testing.T) {
	for _, recs := range someLists() {
		for _, dir := range [][]impl.Entry{nil, entries("a"), entries("a", "b", "x"), entries("c", "a", "c"), entries(rowKeys(impl.MaxKeys)...)} {
			for code := range 4 {
				handed, whole := roomyPlaces(recs)
				begun, wholeDir := roomyDir(dir)
				kept, keptDir := slices.Clone(whole), slices.Clone(wholeDir)
				g := impl.Group{Dir: begun, Last: 3, Code: code}
				got := impl.Regroup(g, handed)
				batches := impl.Sealed(handed)
				want := impl.Group{Dir: slices.Clone(got.Dir), Last: got.Last, Code: got.Code}
				for i := range got.Dir[:cap(got.Dir)] {
					got.Dir[:cap(got.Dir)][i] = entry("written", 9)
				}
				for i := range batches[:cap(batches)] {
					batches[:cap(batches)][i] = -9
				}
				if !slices.Equal(whole, kept) || !slices.Equal(wholeDir, keptDir) || g.Last != 3 || g.Code != code || len(g.Dir) != len(dir) {
					t.Fatalf("of %v and %v there is now %v and %v", keptDir, kept, wholeDir, whole)
				}
				checkRegroup(t, "again", g, handed, want)
				checkSealed(t, "again", handed, slowSealed(handed))
			}
		}
	}
}

func TestGroupsAreNewMemory(t *testing.T) {
	for _, recs := range someLists() {
		for code := range 4 {
			handed, whole := roomyPlaces(recs)
			begun, wholeDir := roomyDir(entries("a", "b"))
			g := impl.Group{Dir: begun, Last: 3, Code: code}
			want := slowRegroup(impl.Group{Dir: entries("a", "b"), Last: 3, Code: code}, placed(recs...))
			got, batches := impl.Regroup(g, handed), impl.Sealed(handed)
			for i := range whole {
				whole[i] = impl.Place{Seg: -1, Rec: put(-1, "written", "")}
			}
			for i := range wholeDir {
				wholeDir[i] = entry("written", 9)
			}
			if !sameGroup(got, want) || !slices.Equal(batches, slowSealed(placed(recs...))) {
				t.Fatalf("an answer of %v is another when what was handed in is written into: %v, %v", recs, got, batches)
			}
		}
	}
}
