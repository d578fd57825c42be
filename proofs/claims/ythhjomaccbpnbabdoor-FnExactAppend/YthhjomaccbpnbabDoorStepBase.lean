/-
  What impl.step asks of a change, and what it answers.
-/
import Derived.Test.YthhjomaccbpnbabDoorCodeImpl
import Derived.Test.YthhjomaccbpnbabDoorInOrder
import Derived.Test.YthhjomaccbpnbabDoorCopyImpl
namespace Go.Proofs.YthhjomaccbpnbabDoor
open Go.RowKit Go.Maps
open Plain

/-- The function g (with what it has captured) turns a map of the files S into one of the files R, or refuses that by a code. -/
def Change (g : FuncId) (cb : Array Value) (A : SentA) (S : List FileV) (code : Int) (R : List FileV) (P : World → Prop) : Prop :=
  ∀ (W : World) (B n : Nat), MOwn W B n S → n ≤ 500 → SentIn W A → P W → Calls Tryd.prog g (#[.map (some B)] ++ cb) W fun e w' => e = .returned (errV A code) ∧ (code = 0 → ∃ S', R.Perm S' ∧ MOwn w' B (n + 2) S') ∧ W.grownBy w' (some B)

/-- A world in the midst of a step: the disk that came in (boxed), the answer's box, the copy (in block x), its files. -/
structure Mid (w X : World) (A : SentA) (x : Nat) (a : Option Addr) (n cap : Nat) (c u : Int) (d : Bool) (fs : List FileV) (a' : Option Addr) (cap' : Nat) (U : Int) (D : Bool) : Prop where
  box : X.heap[w.heap.size]? = some (.cells #[.slice a n cap, .int .i64 c, .int .i64 u, .bool d] 28 (0, 0))
  res : X.heap[w.heap.size + 1]? = some (.cells #[.slice none 0 0, .int .i64 0, .int .i64 0, .bool false] 28 (0, 0))
  aft : X.heap[x]? = some (.cells #[.slice a' n cap', .int .i64 c, .int .i64 U, .bool D] 28 (0, 0))
  row0 : FRow w 0 a n fs
  own : FOwn X (w.heap.size + 2) (.slice a' n cap') fs
  blk : ∀ g, (Value.slice a' n cap').ownBlock = some g → g < x
  sent0 : SentIn w A
  bel : Below w.heap.size w X
  lo : w.heap.size + 2 ≤ x
  hi : x < X.heap.size
theorem Mid.later {w X X' : World} {A : SentA} {x : Nat} {a : Option Addr} {n cap : Nat} {c u : Int} {d : Bool} {fs : List FileV} {a' : Option Addr} {cap' : Nat} {U : Int} {D : Bool} (h : Mid w X A x a n cap c u d fs a' cap' U D) (hb : Below X.heap.size X X') : Mid w X' A x a n cap c u d fs a' cap' U D where
  box := (hb.block _ (blk_lt h.box)).trans h.box
  res := (hb.block _ (blk_lt h.res)).trans h.res
  aft := (hb.block _ h.hi).trans h.aft
  row0 := h.row0
  own := h.own.later hb (Nat.le_refl _)
  blk := h.blk
  sent0 := h.sent0
  bel := h.bel.trans (hb.mono h.bel.size)
  lo := h.lo
  hi := Nat.lt_of_lt_of_le h.hi hb.size
theorem heap_setCell_cells {X : World} {x j : Nat} {cs : Array Value} {t : TypeId} (h : X.heap[x]? = some (.cells cs t (0, 0))) (v : Value) : (X.setCell ⟨x, j, none⟩ v).heap[x]? = some (.cells (cs.setIfInBounds j v) t (0, 0)) := by
  simp [World.setCell, Array.getElem?_modify, h]

section
variable {w X : World} {A : SentA} {x : Nat} {a : Option Addr} {n cap : Nat} {c u : Int} {d : Bool} {fs : List FileV} {a' : Option Addr} {cap' : Nat} {U : Int} {D : Bool}
theorem Mid.row (h : Mid w X A x a n cap c u d fs a' cap' U D) : FRow X 0 a n fs := h.row0.later h.bel (Nat.le_refl _)
theorem Mid.sent (h : Mid w X A x a n cap c u d fs a' cap' U D) : SentIn X A := h.sent0.later h.bel (Nat.le_refl _)
theorem Mid.setDown (h : Mid w X A x a n cap c u d fs a' cap' U D) (D' : Bool) : Mid w (X.setCell ⟨x, 3, none⟩ (.bool D')) A x a n cap c u d fs a' cap' U D' where
  box := by have := h.lo; rw [Below.heap_setCell _ _ _ _ (by dsimp only; omega)]; exact h.box
  res := by have := h.lo; rw [Below.heap_setCell _ _ _ _ (by dsimp only; omega)]; exact h.res
  aft := heap_setCell_cells h.aft _
  row0 := h.row0
  own := h.own.setNe _ _ (fun e => Nat.lt_irrefl _ (h.blk _ e))
  blk := h.blk
  sent0 := h.sent0
  bel := h.bel.setCell (by have := h.lo; dsimp only; omega) _
  lo := h.lo
  hi := by simpa using h.hi
theorem Mid.setFuel (h : Mid w X A x a n cap c u d fs a' cap' U D) (U' : Int) : Mid w (X.setCell ⟨x, 2, none⟩ (.int .i64 U')) A x a n cap c u d fs a' cap' U' D where
  box := by have := h.lo; rw [Below.heap_setCell _ _ _ _ (by dsimp only; omega)]; exact h.box
  res := by have := h.lo; rw [Below.heap_setCell _ _ _ _ (by dsimp only; omega)]; exact h.res
  aft := heap_setCell_cells h.aft _
  row0 := h.row0
  own := h.own.setNe _ _ (fun e => Nat.lt_irrefl _ (h.blk _ e))
  blk := h.blk
  sent0 := h.sent0
  bel := h.bel.setCell (by have := h.lo; dsimp only; omega) _
  lo := h.lo
  hi := by simpa using h.hi
/-- Another list of files is put into the copy. -/
theorem Mid.setFiles (h : Mid w X A x a n cap c u d fs a' cap' U D) {a2 : Option Addr} {m cap2 : Nat} {gs : List FileV} (ho : FOwn X (w.heap.size + 2) (.slice a2 m cap2) gs) (hb : ∀ g, (Value.slice a2 m cap2).ownBlock = some g → g ≠ x) :
    (X.setCell ⟨x, 0, none⟩ (.slice a2 m cap2)).heap[x]? = some (.cells #[.slice a2 m cap2, .int .i64 c, .int .i64 U, .bool D] 28 (0, 0)) ∧ FOwn (X.setCell ⟨x, 0, none⟩ (.slice a2 m cap2)) (w.heap.size + 2) (.slice a2 m cap2) gs ∧ Below w.heap.size w (X.setCell ⟨x, 0, none⟩ (.slice a2 m cap2)) ∧
      (X.setCell ⟨x, 0, none⟩ (.slice a2 m cap2)).heap[w.heap.size + 1]? = some (.cells #[.slice none 0 0, .int .i64 0, .int .i64 0, .bool false] 28 (0, 0)) :=
  ⟨heap_setCell_cells h.aft _, ho.setNe _ _ (fun e => hb _ e rfl), h.bel.setCell (by have := h.lo; dsimp only; omega) _, by have := h.lo; rw [Below.heap_setCell _ _ _ _ (by dsimp only; omega)]; exact h.res⟩
theorem Mid.grown {X' : World} {B : Nat} (h : Mid w X A x a n cap c u d fs a' cap' U D) (hg : X.grownBy X' (some B)) (hB : x < B) : Mid w X' A x a n cap c u d fs a' cap' U D where
  box := by have := h.lo; rw [hg.block _ (blk_lt h.box) (fun e => by injection e with e; omega)]; exact h.box
  res := by have := h.lo; rw [hg.block _ (blk_lt h.res) (fun e => by injection e with e; omega)]; exact h.res
  aft := by rw [hg.block _ h.hi (fun e => by injection e with e; omega)]; exact h.aft
  row0 := h.row0
  own := World.ownsRow.kept h.own hg (by
    cases e : (Value.slice a' n cap').ownBlock with
    | none => exact .inl rfl
    | some g => exact .inr (fun q => by injection q with q; have := h.blk g e; omega))
  blk := h.blk
  sent0 := h.sent0
  bel := h.bel.grown hg h.bel.size (fun k hk => by injection hk with hk; have := h.lo; omega)
  lo := h.lo
  hi := Nat.lt_of_lt_of_le h.hi hg.size
end

theorem FOwn.drewO {w : World} {base : Nat} {v : Value} {fs : List FileV} (h : FOwn w base v fs) : FOwn w.drew base v fs := h

/-- What a step answers: its files and its code. -/
def stepF (fs : List FileV) (c u : Int) (d : Bool) (code : Int) (R : List FileV) : List FileV × Int := if begC fs c u d = 0 then (if code = 0 then R else fs, code) else (fs, begC fs c u d)

end Go.Proofs.YthhjomaccbpnbabDoor
