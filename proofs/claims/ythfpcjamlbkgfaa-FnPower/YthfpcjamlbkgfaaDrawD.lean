/-
  spec.l3Disk: a right disk of 200 bytes, drawn by up to eleven steps.
-/
import Derived.Test.YthfpcjamlbkgfaaPick
import Derived.Test.YthfpcjamlbkgfaaDiskLaw
import Derived.Test.YthfpcjamlbkgfaaNewSpec
namespace Go.Proofs.Ythfpcjamlbkgfaa
open Go.RowKit Go.Maps
open Plain

theorem beg_good {fs : List FileV} (h : GoodF fs 200) : begC fs 200 (-1) false = 0 ∧ begU fs 200 (-1) false = -1 ∧ begD fs 200 (-1) false = false := by
  have h1 : diskOk fs 200 (-1) = true := h.diskOk (by omega) (by omega)
  refine ⟨by unfold begC; rw [if_pos h1, if_neg (by simp)], by unfold begU; rw [if_neg (by rintro ⟨-, -, h⟩; omega)], by unfold begD; rw [if_pos h1, if_neg (by omega)]⟩
/-- What a step makes of right files. -/
theorem good_stepF {fs : List FileV} {code : Int} {R : List FileV} (h : GoodF fs 200) (hR : code = 0 → GoodF R 200) : GoodF (stepF fs 200 (-1) false code R).1 200 := by
  unfold stepF
  rw [if_pos (beg_good h).1]
  show GoodF (if code = 0 then R else fs) 200
  split
  · rename_i h0; exact hR h0
  · exact h
theorem good_creF {fs : List FileV} (h : GoodF fs 200) (nm : ByteArray) : GoodF (creF fs 200 (-1) false nm).1 200 := by rw [← creF_step]; exact good_stepF h (fun hc => good_cre h nm hc)
theorem good_appF {fs : List FileV} (h : GoodF fs 200) (nm t : ByteArray) : GoodF (appF fs 200 (-1) false nm t).1 200 := by rw [← appF_step]; exact good_stepF h (fun hc => good_app h nm t hc)
theorem good_renF {fs : List FileV} (h : GoodF fs 200) (nm t : ByteArray) : GoodF (renF fs 200 (-1) false nm t).1 200 := by rw [← renF_step]; exact good_stepF h (fun hc => good_ren h nm t hc)
theorem good_synF {fs : List FileV} (h : GoodF fs 200) (nm : ByteArray) : GoodF (synF fs 200 (-1) false nm).1 200 := by
  unfold synF
  rw [if_pos (beg_good h).1]
  split
  · exact h
  · rename_i hf; exact good_syn h nm hf
theorem good_nil : GoodF [] 200 := ⟨by simp, by simp [usedF], List.Pairwise.nil, fun f hf => by simp at hf⟩
theorem synF_len' (fs : List FileV) (c u : Int) (d : Bool) (nm : ByteArray) : (synF fs c u d nm).1.length = fs.length := by
  unfold synF
  split
  · split
    · rfl
    · simp
  · rfl

/-- Where a row's first cell is. -/
theorem FOwn.at0 {w : World} {base : Nat} {a : Option Addr} {n cap : Nat} {fs : List FileV} (h : FOwn w base (.slice a n cap) fs) : (a = none ∧ n = 0 ∧ cap = 0) ∨ ∃ g, a = some ⟨g, 0, none⟩ := by
  rcases h.2 with ⟨e, h0⟩ | ⟨g, c, cur, e, _⟩
  · simp only [Value.slice.injEq] at e
    exact .inl ⟨e.1, e.2.1, e.2.2⟩
  · simp only [Value.slice.injEq] at e
    exact .inr ⟨g, e.1⟩
theorem FOwn.cap0 {w : World} {base : Nat} {a : Option Addr} {n cap : Nat} {fs : List FileV} (h : FOwn w base (.slice a n cap) fs) : a = none → cap = 0 := by
  rcases h.at0 with ⟨_, _, h3⟩ | ⟨g, rfl⟩
  · exact fun _ => h3
  · intro e; cases e
theorem FOwn.rowZ {w : World} {base : Nat} {a : Option Addr} {n cap : Nat} {fs : List FileV} (h : FOwn w base (.slice a n cap) fs) : FRow w 0 a n fs where
  len := h.row.len
  cells := fun i hi => by
    obtain ⟨b, off, h1, _, h3⟩ := h.row.cells i hi
    exact ⟨b, off, h1, Nat.zero_le _, h3⟩
/-- A block that holds a disk is none that holds files. -/
theorem FOwn.blkNe {w : World} {base : Nat} {v : Value} {fs : List FileV} (h : FOwn w base v fs) {b : Nat} {cs : Array Value} {t : TypeId} (hb : w.heap[b]? = some (.cells cs t (0, 0))) (ht : t ≠ 35) : v.ownBlock ≠ some b := by
  intro e
  rcases h.2 with ⟨rfl, _⟩ | ⟨g, c, cur, rfl, _, hg, _⟩
  · cases e
  · simp only [Value.ownBlock, Option.some.injEq] at e
    subst e
    rw [hg] at hb
    simp only [Option.some.injEq, Obj.cells.injEq] at hb
    exact ht hb.2.1.symm
/-- What is drawn from the cursor leaves rows behind it alone. -/
theorem FOwn.grownB {w w' : World} {base B : Nat} {v : Value} {fs : List FileV} (h : FOwn w base v fs) (hg : w.grownBy w' (some B)) (hB : B < base) : FOwn w' base v fs := by
  refine World.ownsRow.kept h hg ?_
  cases e : v.ownBlock with
  | none => exact .inl rfl
  | some g => exact .inr (fun q => by injection q with q; have := (h.blk g e).1; omega)

/-- A world in the midst of l3Disk: the answer's block, the disk's block bd. -/
structure DMid (w wr : World) (B : Nat) (a : Option Addr) (len cap : Nat) (zs : List Int) (bd : Nat) (a' : Option Addr) (k cap' : Nat) (fs : List FileV) : Prop where
  cur : CurX wr B a len cap zs
  res : wr.heap[w.heap.size]? = some (.cells #[.slice none 0 0, .int .i64 0, .int .i64 0, .bool false] 26 (0, 0))
  dsk : wr.heap[bd]? = some (.cells #[.slice a' k cap', .int .i64 200, .int .i64 (-1), .bool false] 26 (0, 0))
  own : FOwn wr (w.heap.size + 1) (.slice a' k cap') fs
  good : GoodF fs 200
  gro : w.grownBy wr (some B)
  lo : w.heap.size < bd
  hB : B < w.heap.size
theorem DMid.grown {w wr wr' : World} {B : Nat} {a : Option Addr} {len cap : Nat} {zs : List Int} {bd : Nat} {a' : Option Addr} {k cap' : Nat} {fs : List FileV} (h : DMid w wr B a len cap zs bd a' k cap' fs) (hg : wr.grownBy wr' (some B)) (hc : CurX wr' B a len cap zs) : DMid w wr' B a len cap zs bd a' k cap' fs where
  cur := hc
  res := by have := h.hB; rw [hg.block _ (lt_of_block h.res) (fun e => by injection e with e; omega)]; exact h.res
  dsk := by have := h.hB; have := h.lo; rw [hg.block _ (lt_of_block h.dsk) (fun e => by injection e with e; omega)]; exact h.dsk
  own := h.own.grownB hg (by have := h.hB; omega)
  good := h.good
  gro := grown_trans h.gro hg
  lo := h.lo
  hB := h.hB
theorem DMid.later {w wr wr' : World} {B : Nat} {a : Option Addr} {len cap : Nat} {zs : List Int} {bd : Nat} {a' : Option Addr} {k cap' : Nat} {fs : List FileV} (h : DMid w wr B a len cap zs bd a' k cap' fs) (hb : Below wr.heap.size wr wr') : DMid w wr' B a len cap zs bd a' k cap' fs :=
  h.grown ⟨hb.os, hb.tape, hb.output, hb.size, fun i hi _ => hb.block i hi⟩ (h.cur.below hb h.cur.lt)

/-- Four cells of a block written. -/
def set4 (w : World) (b : Nat) (v0 v1 v2 v3 : Value) : World := (((w.setCell ⟨b, 0, none⟩ v0).setCell ⟨b, 1, none⟩ v1).setCell ⟨b, 2, none⟩ v2).setCell ⟨b, 3, none⟩ v3
theorem set4_other (w : World) (b i : Nat) (v0 v1 v2 v3 : Value) (h : i ≠ b) : (set4 w b v0 v1 v2 v3).heap[i]? = w.heap[i]? := by
  unfold set4
  rw [Below.heap_setCell _ _ _ _ h, Below.heap_setCell _ _ _ _ h, Below.heap_setCell _ _ _ _ h, Below.heap_setCell _ _ _ _ h]
theorem set4_size (w : World) (b : Nat) (v0 v1 v2 v3 : Value) : (set4 w b v0 v1 v2 v3).heap.size = w.heap.size := by simp [set4, World.setCell]
theorem set4_heap {w : World} {b : Nat} {x0 x1 x2 x3 : Value} {t : TypeId} (h : w.heap[b]? = some (.cells #[x0, x1, x2, x3] t (0, 0))) (v0 v1 v2 v3 : Value) : (set4 w b v0 v1 v2 v3).heap[b]? = some (.cells #[v0, v1, v2, v3] t (0, 0)) := by
  unfold set4
  rw [heap_setCell_cells (heap_setCell_cells (heap_setCell_cells (heap_setCell_cells h _) _) _) _]
  rfl
theorem FOwn.set4 {w : World} {base : Nat} {v : Value} {fs : List FileV} (h : FOwn w base v fs) {b : Nat} (hb : v.ownBlock ≠ some b) (v0 v1 v2 v3 : Value) : FOwn (set4 w b v0 v1 v2 v3) base v fs :=
  (((h.setNe _ _ hb).setNe _ _ hb).setNe _ _ hb).setNe _ _ hb
theorem grown_set4 {w wr : World} {B b : Nat} (h : w.grownBy wr (some B)) (hb : w.heap.size ≤ b) (v0 v1 v2 v3 : Value) : w.grownBy (set4 wr b v0 v1 v2 v3) (some B) :=
  ⟨h.os, h.tape, h.output, by rw [set4_size]; exact h.size, fun i hi hr => by rw [set4_other _ _ _ _ _ _ _ (by omega)]; exact h.block i hi hr⟩
theorem CurX.set4 {w : World} {B : Nat} {a : Option Addr} {len cap : Nat} {zs : List Int} (h : CurX w B a len cap zs) {b : Nat} (hb : B < b) (v0 v1 v2 v3 : Value) : CurX (set4 w b v0 v1 v2 v3) B a len cap zs :=
  (((h.set ⟨b, 0, none⟩ v0 hb).set ⟨b, 1, none⟩ v1 hb).set ⟨b, 2, none⟩ v2 hb).set ⟨b, 3, none⟩ v3 hb
/-- A step's answer goes into x, and from there into the disk. -/
theorem DMid.put {w wr : World} {B : Nat} {a : Option Addr} {len cap : Nat} {zs : List Int} {bd : Nat} {a' : Option Addr} {k cap' : Nat} {fs : List FileV} (h : DMid w wr B a len cap zs bd a' k cap' fs) {xb : Nat} {x0 x1 x2 x3 : Value} (hx : wr.heap[xb]? = some (.cells #[x0, x1, x2, x3] 26 (0, 0))) (hlt : bd < xb)
    {a2 : Option Addr} {m cap2 : Nat} {R : List FileV} (ho : FOwn wr (w.heap.size + 1) (.slice a2 m cap2) R) (hg : GoodF R 200) :
    DMid w (set4 (set4 wr xb (.slice a2 m cap2) (.int .i64 200) (.int .i64 (-1)) (.bool false)) bd (.slice a2 m cap2) (.int .i64 200) (.int .i64 (-1)) (.bool false)) B a len cap zs bd a2 m cap2 R where
  cur := (h.cur.set4 (by have := h.hB; have := h.lo; omega) _ _ _ _).set4 (by have := h.hB; have := h.lo; omega) _ _ _ _
  res := by have := h.lo; rw [set4_other _ _ _ _ _ _ _ (by omega), set4_other _ _ _ _ _ _ _ (by omega)]; exact h.res
  dsk := by
    have h1 := h.dsk
    rw [← set4_other wr xb bd (.slice a2 m cap2) (.int .i64 200) (.int .i64 (-1)) (.bool false) (by omega)] at h1
    exact set4_heap h1 _ _ _ _
  own := (ho.set4 (ho.blkNe hx (by decide)) _ _ _ _).set4 (ho.blkNe h.dsk (by decide)) _ _ _ _
  good := hg
  gro := grown_set4 (grown_set4 h.gro (by have := h.lo; omega) _ _ _ _) (by have := h.lo; omega) _ _ _ _
  lo := h.lo
  hB := h.hB

end Go.Proofs.Ythfpcjamlbkgfaa
