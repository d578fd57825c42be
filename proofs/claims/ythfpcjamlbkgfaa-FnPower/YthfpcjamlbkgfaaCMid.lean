/-
  A world in the midst of a function that copies the disk that came in and answers the copy: the disk (boxed), the answer's block, the copy in a variable, its files.
-/
import Derived.Test.YthfpcjamlbkgfaaCopyImpl
import Derived.Test.YthfpcjamlbkgfaaStepBase
namespace Go.Proofs.Ythfpcjamlbkgfaa
open Go.RowKit
open Plain

structure CMid (w X : World) (x : Nat) (a : Option Addr) (n cap : Nat) (c u : Int) (d : Bool) (fs : List FileV) (a' : Option Addr) (cap' : Nat) (U : Int) (D : Bool) (gs : List FileV) : Prop where
  box : X.heap[w.heap.size]? = some (.cells #[.slice a n cap, .int .i64 c, .int .i64 u, .bool d] 26 (0, 0))
  res : X.heap[w.heap.size + 1]? = some (.cells #[.slice none 0 0, .int .i64 0, .int .i64 0, .bool false] 26 (0, 0))
  aft : X.heap[x]? = some (.cells #[.slice a' n cap', .int .i64 c, .int .i64 U, .bool D] 26 (0, 0))
  row0 : FRow w 0 a n fs
  own : FOwn X (w.heap.size + 2) (.slice a' n cap') gs
  blk : ∀ g, (Value.slice a' n cap').ownBlock = some g → g < x
  bel : Below w.heap.size w X
  lo : w.heap.size + 2 ≤ x
  hi : x < X.heap.size
section
variable {w X X' : World} {x : Nat} {a : Option Addr} {n cap : Nat} {c u : Int} {d : Bool} {fs : List FileV} {a' : Option Addr} {cap' : Nat} {U : Int} {D : Bool} {gs : List FileV}
theorem CMid.later (h : CMid w X x a n cap c u d fs a' cap' U D gs) (hb : Below X.heap.size X X') : CMid w X' x a n cap c u d fs a' cap' U D gs where
  box := (hb.block _ (blk_lt h.box)).trans h.box
  res := (hb.block _ (blk_lt h.res)).trans h.res
  aft := (hb.block _ h.hi).trans h.aft
  row0 := h.row0
  own := h.own.later hb (Nat.le_refl _)
  blk := h.blk
  bel := h.bel.trans (hb.mono h.bel.size)
  lo := h.lo
  hi := Nat.lt_of_lt_of_le h.hi hb.size
theorem CMid.row (h : CMid w X x a n cap c u d fs a' cap' U D gs) : FRow X 0 a n fs := h.row0.later h.bel (Nat.le_refl _)
theorem CMid.setDown (h : CMid w X x a n cap c u d fs a' cap' U D gs) (D' : Bool) : CMid w (X.setCell ⟨x, 3, none⟩ (.bool D')) x a n cap c u d fs a' cap' U D' gs where
  box := by have := h.lo; rw [Below.heap_setCell _ _ _ _ (by dsimp only; omega)]; exact h.box
  res := by have := h.lo; rw [Below.heap_setCell _ _ _ _ (by dsimp only; omega)]; exact h.res
  aft := heap_setCell_cells h.aft _
  row0 := h.row0
  own := h.own.setNe _ _ (fun e => Nat.lt_irrefl _ (h.blk _ e))
  blk := h.blk
  bel := h.bel.setCell (by have := h.lo; dsimp only; omega) _
  lo := h.lo
  hi := by simpa using h.hi
theorem CMid.setFuel (h : CMid w X x a n cap c u d fs a' cap' U D gs) (U' : Int) : CMid w (X.setCell ⟨x, 2, none⟩ (.int .i64 U')) x a n cap c u d fs a' cap' U' D gs where
  box := by have := h.lo; rw [Below.heap_setCell _ _ _ _ (by dsimp only; omega)]; exact h.box
  res := by have := h.lo; rw [Below.heap_setCell _ _ _ _ (by dsimp only; omega)]; exact h.res
  aft := heap_setCell_cells h.aft _
  row0 := h.row0
  own := h.own.setNe _ _ (fun e => Nat.lt_irrefl _ (h.blk _ e))
  blk := h.blk
  bel := h.bel.setCell (by have := h.lo; dsimp only; omega) _
  lo := h.lo
  hi := by simpa using h.hi
/-- A variable behind the copy is written. -/
theorem CMid.setFar (h : CMid w X x a n cap c u d fs a' cap' U D gs) (p : Addr) (v : Value) (hp : x < p.block) : CMid w (X.setCell p v) x a n cap c u d fs a' cap' U D gs where
  box := by have := h.lo; rw [Below.heap_setCell _ _ _ _ (by omega)]; exact h.box
  res := by have := h.lo; rw [Below.heap_setCell _ _ _ _ (by omega)]; exact h.res
  aft := by rw [Below.heap_setCell _ _ _ _ (by omega)]; exact h.aft
  row0 := h.row0
  own := h.own.setNe _ _ (fun e => by have := h.blk _ e; omega)
  blk := h.blk
  bel := h.bel.setCell (by have := h.lo; omega) _
  lo := h.lo
  hi := by simpa using h.hi
/-- A file is written into the copy. -/
theorem CMid.put (h : CMid w X x a n cap c u d fs a' cap' U D gs) {g : Nat} (hg : a' = some ⟨g, 0, none⟩) (i : Nat) (f : FileV) (hi : i < n) : CMid w (put3 X g i f) x a n cap c u d fs a' cap' U D (gs.set i f) := by
  subst hg
  have hp := h.own.put i f hi
  have hgb := h.blk g rfl
  have hge := (h.own.blk g rfl).1
  exact {
    box := by rw [hp.2.block _ (blk_lt h.box) (fun e => by injection e with e; omega)]; exact h.box
    res := by rw [hp.2.block _ (blk_lt h.res) (fun e => by injection e with e; omega)]; exact h.res
    aft := by rw [hp.2.block _ h.hi (fun e => by injection e with e; omega)]; exact h.aft
    row0 := h.row0
    own := hp.1
    blk := h.blk
    bel := h.bel.grown hp.2 h.bel.size (fun k hk => by injection hk with hk; omega)
    lo := h.lo
    hi := Nat.lt_of_lt_of_le h.hi hp.2.size }
/-- The copy is answered. -/
theorem CMid.fin (h : CMid w X x a n cap c u d fs a' cap' U D gs) (v0 v1 v2 v3 : Value) :
    FOwn ((((X.setCell ⟨w.heap.size + 1, 0, none⟩ v0).setCell ⟨w.heap.size + 1, 1, none⟩ v1).setCell ⟨w.heap.size + 1, 2, none⟩ v2).setCell ⟨w.heap.size + 1, 3, none⟩ v3) w.heap.size (.slice a' n cap') gs ∧ Below w.heap.size w ((((X.setCell ⟨w.heap.size + 1, 0, none⟩ v0).setCell ⟨w.heap.size + 1, 1, none⟩ v1).setCell ⟨w.heap.size + 1, 2, none⟩ v2).setCell ⟨w.heap.size + 1, 3, none⟩ v3) := by
  constructor
  · refine FOwn.mono ?_ (Nat.le_add_right _ 2)
    iterate 4 (refine FOwn.setCell ?_ _ _ (by dsimp only; omega))
    exact h.own
  · iterate 4 (refine Below.setCell ?_ (by dsimp only; omega) _)
    exact h.bel
/-- Behind the copying. -/
theorem CMid.start {w2 : World} (hr : FRow w 0 a n fs) (hb2 : Below ((w.alloc (.cells #[.slice a n cap, .int .i64 c, .int .i64 u, .bool d] 26)).alloc (.cells #[.slice none 0 0, .int .i64 0, .int .i64 0, .bool false] 26)).heap.size ((w.alloc (.cells #[.slice a n cap, .int .i64 c, .int .i64 u, .bool d] 26)).alloc (.cells #[.slice none 0 0, .int .i64 0, .int .i64 0, .bool false] 26)) w2)
    (ho : FOwn w2 ((w.alloc (.cells #[.slice a n cap, .int .i64 c, .int .i64 u, .bool d] 26)).alloc (.cells #[.slice none 0 0, .int .i64 0, .int .i64 0, .bool false] 26)).heap.size (.slice a' n cap') fs) :
    CMid w (w2.alloc (.cells #[.slice a' n cap', .int .i64 c, .int .i64 u, .bool d] 26)) w2.heap.size a n cap c u d fs a' cap' u d fs := by
  obtain ⟨h1, h2, h3, h4⟩ := alloc2 w (.cells #[.slice a n cap, .int .i64 c, .int .i64 u, .bool d] 26) (.cells #[.slice none 0 0, .int .i64 0, .int .i64 0, .bool false] 26)
  generalize ((w.alloc (.cells #[.slice a n cap, .int .i64 c, .int .i64 u, .bool d] 26)).alloc (.cells #[.slice none 0 0, .int .i64 0, .int .i64 0, .bool false] 26)) = W at *
  have hba : Below w2.heap.size w2 (w2.alloc (.cells #[.slice a' n cap', .int .i64 c, .int .i64 u, .bool d] 26)) := (Below.refl _ _).alloc (Nat.le_refl _) _
  have hs := hb2.size
  exact {
    box := (hba.block _ (by omega)).trans ((hb2.block _ (by omega)).trans h3)
    res := (hba.block _ (by omega)).trans ((hb2.block _ (by omega)).trans h4)
    aft := heap_alloc_new w2 _
    row0 := hr
    own := (ho.later hba (Nat.le_refl _)).mono (by omega)
    blk := fun g hg => (ho.blk g hg).2
    bel := (h2.trans (hb2.mono h2.size)).trans (hba.mono (Nat.le_trans h2.size hs))
    lo := by omega
    hi := by simp }
end

end Go.Proofs.Ythfpcjamlbkgfaa
