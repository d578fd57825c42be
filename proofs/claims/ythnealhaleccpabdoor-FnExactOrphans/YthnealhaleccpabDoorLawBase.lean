/-
  What the walk of an exact law of the disk carries from step to step: the argument, and disks in variables of the law's own.
-/
import Derived.Test.YthnealhaleccpabDoorMarkDisk
import Derived.Test.YthnealhaleccpabDoorSzDisk
import Derived.Test.YthnealhaleccpabDoorFilesApp
import Derived.Test.YthnealhaleccpabDoorEqDisk
namespace Go.Proofs.YthnealhaleccpabDoor
open Go.RowKit
open Plain

/-- The law's argument, boxed in block w.heap.size; all that was there stands. -/
structure LArg (w : World) (a : Option Addr) (n cap : Nat) (c u : Int) (d : Bool) (fs : List FileV) (v : World) : Prop where
  box : v.heap[w.heap.size]? = some (.cells #[.slice a n cap, .int .i64 c, .int .i64 u, .bool d] 27 (0, 0))
  row : FRow v 0 a n fs
  bel : Below w.heap.size w v
  lt : w.heap.size < v.heap.size
theorem LArg.later {w v v' : World} {a : Option Addr} {n cap : Nat} {c u : Int} {d : Bool} {fs : List FileV} (h : LArg w a n cap c u d fs v) (hb : Below v.heap.size v v') : LArg w a n cap c u d fs v' :=
  ⟨(hb.block _ h.lt).trans h.box, h.row.later hb (Nat.le_refl _), h.bel.trans (hb.mono h.bel.size), Nat.lt_of_lt_of_le h.lt hb.size⟩
/-- A row of the law's own is written: its block lies behind the argument. -/
theorem LArg.grown {w v v' : World} {a : Option Addr} {n cap : Nat} {c u : Int} {d : Bool} {fs : List FileV} (h : LArg w a n cap c u d fs v) (h0 : FRow w 0 a n fs) {r : Option Nat} (hg : v.grownBy v' r) (hr : ∀ g, r = some g → w.heap.size < g) : LArg w a n cap c u d fs v' := by
  have hb : Below w.heap.size w v' := h.bel.grown hg h.bel.size (fun k hk => Nat.le_of_lt (hr k hk))
  exact ⟨(hg.block _ h.lt (fun e => by have := hr _ e.symm; omega)).trans h.box, h0.later hb (Nat.le_refl _), hb, Nat.lt_of_lt_of_le h.lt hg.size⟩
/-- A disk in a variable (block b) of the law's own, its files in a row of its own (a block from lo on, ahead of b). -/
structure DVar (v : World) (b lo : Nat) (a' : Option Addr) (m cap' : Nat) (c U : Int) (D : Bool) (gs : List FileV) : Prop where
  cell : v.heap[b]? = some (.cells #[.slice a' m cap', .int .i64 c, .int .i64 U, .bool D] 37 (0, 0))
  own : FOwn v lo (.slice a' m cap') gs
  blk : ∀ g, (Value.slice a' m cap').ownBlock = some g → lo ≤ g ∧ g < b
  lt : b < v.heap.size
theorem DVar.later {v v' : World} {b lo : Nat} {a' : Option Addr} {m cap' : Nat} {c U : Int} {D : Bool} {gs : List FileV} (h : DVar v b lo a' m cap' c U D gs) (hb : Below v.heap.size v v') : DVar v' b lo a' m cap' c U D gs :=
  ⟨(hb.block _ h.lt).trans h.cell, h.own.later hb (Nat.le_refl _), h.blk, Nat.lt_of_lt_of_le h.lt hb.size⟩
theorem DVar.cells {v : World} {b lo : Nat} {a' : Option Addr} {m cap' : Nat} {c U : Int} {D : Bool} {gs : List FileV} (h : DVar v b lo a' m cap' c U D gs) :
    v.cell? ⟨b, 0, none⟩ = some (.slice a' m cap') ∧ v.cell? ⟨b, 1, none⟩ = some (.int .i64 c) ∧ v.cell? ⟨b, 2, none⟩ = some (.int .i64 U) ∧ v.cell? ⟨b, 3, none⟩ = some (.bool D) :=
  ⟨(cells4 h.cell).1, (cells4 h.cell).2.1, (cells4 h.cell).2.2.1, (cells4 h.cell).2.2.2.1⟩
theorem LArg.cells {w v : World} {a : Option Addr} {n cap : Nat} {c u : Int} {d : Bool} {fs : List FileV} (h : LArg w a n cap c u d fs v) :
    v.cell? ⟨w.heap.size, 0, none⟩ = some (.slice a n cap) ∧ v.cell? ⟨w.heap.size, 1, none⟩ = some (.int .i64 c) ∧ v.cell? ⟨w.heap.size, 2, none⟩ = some (.int .i64 u) ∧ v.cell? ⟨w.heap.size, 3, none⟩ = some (.bool d) :=
  ⟨(cells4 h.box).1, (cells4 h.box).2.1, (cells4 h.box).2.2.1, (cells4 h.box).2.2.2.1⟩
theorem own_grown {v v' : World} {lo : Nat} {x : Value} {gs : List FileV} {r : Option Nat} (h : FOwn v lo x gs) (hg : v.grownBy v' r) (hne : ∀ g, x.ownBlock = some g → r ≠ some g) : FOwn v' lo x gs := by
  refine World.ownsRow.kept h hg ?_
  cases e : x.ownBlock with
  | none => exact .inl rfl
  | some g => exact .inr (fun q => hne g e q.symm)
/-- Another row is written. -/
theorem DVar.other {v v' : World} {b lo : Nat} {a' : Option Addr} {m cap' : Nat} {c U : Int} {D : Bool} {gs : List FileV} (h : DVar v b lo a' m cap' c U D gs) {r : Option Nat} (hg : v.grownBy v' r) (hb : r ≠ some b) (hne : ∀ g, (Value.slice a' m cap').ownBlock = some g → r ≠ some g) : DVar v' b lo a' m cap' c U D gs :=
  ⟨(hg.block _ h.lt (fun e => hb e.symm)).trans h.cell, own_grown h.own hg hne, h.blk, Nat.lt_of_lt_of_le h.lt hg.size⟩
/-- Its own row is written. -/
theorem DVar.written {v v' : World} {b lo : Nat} {a' : Option Addr} {m cap' : Nat} {c U : Int} {D : Bool} {gs hs : List FileV} (h : DVar v b lo a' m cap' c U D gs) (hg : v.grownBy v' (Value.slice a' m cap').ownBlock) (ho : FOwn v' lo (.slice a' m cap') hs) : DVar v' b lo a' m cap' c U D hs :=
  ⟨(hg.block _ h.lt (fun e => by have := (h.blk b e.symm).2; omega)).trans h.cell, ho, h.blk, Nat.lt_of_lt_of_le h.lt hg.size⟩
/-- A disk that a call has answered, put into a new variable. -/
theorem DVar.new {w0 v : World} {lo : Nat} {a' : Option Addr} {m cap' : Nat} {c U : Int} {D : Bool} {gs : List FileV} (ho : FOwn v lo (.slice a' m cap') gs) (_hs : w0.heap.size ≤ v.heap.size) :
    DVar (v.alloc (.cells #[.slice a' m cap', .int .i64 c, .int .i64 U, .bool D] 37)) v.heap.size lo a' m cap' c U D gs where
  cell := heap_alloc_new v _
  own := ho.later ((Below.refl _ _).alloc (Nat.le_refl _) _) (Nat.le_refl _)
  blk := fun g hg => ho.blk g hg
  lt := by simp
theorem eqDB_self (fs : List FileV) (c u : Int) (d : Bool) : eqDB fs fs c c u u d d = true := (eqDB_iff ..).2 ⟨rfl, rfl, rfl, rfl⟩
theorem FOwn.row0 {w : World} {base : Nat} {a : Option Addr} {n cap : Nat} {fs : List FileV} (h : FOwn w base (.slice a n cap) fs) : FRow w 0 a n fs where
  len := h.row.len
  cells := fun i hi => by
    obtain ⟨b, off, h1, _, h3⟩ := h.row.cells i hi
    exact ⟨b, off, h1, Nat.zero_le _, h3⟩
theorem alloc_below (v : World) (o : Obj) : Below v.heap.size v (v.alloc o) := (Below.refl _ _).alloc (Nat.le_refl _) _

end Go.Proofs.YthnealhaleccpabDoor
