/-
  A hint in the world: the struct's block, and what the laws' szHint, toHint, eqHint, markHint and heldHint answer.
-/
import Derived.Test.YtimpokbcfjgdaaaGreatDoorHG04
import Derived.Test.YtimpokbcfjgdaaaGreatDoorHMHintPlain
namespace Go.Proofs.YtimpokbcfjgdaaaGreatDoor
open Go.RowKit
open Plain

theorem cells3h {w : World} {B : Nat} {x0 x1 x2 : Value} {ty : TypeId} (h : w.heap[B]? = some (.cells #[x0, x1, x2] ty (0, 0))) :
    w.cell? ⟨B, 0, none⟩ = some x0 ∧ w.cell? ⟨B, 1, none⟩ = some x1 ∧ w.cell? ⟨B, 2, none⟩ = some x2 ∧ w.frozen? ⟨B, 0, none⟩ = false ∧ w.frozen? ⟨B, 1, none⟩ = false ∧ w.frozen? ⟨B, 2, none⟩ = false := by
  have hf : ∀ j, w.frozen? ⟨B, j, none⟩ = false := fun j => by simp [World.frozen?, h]
  refine ⟨?_, ?_, ?_, hf 0, hf 1, hf 2⟩ <;> rw [cell_of_row w B _ _ _ _ h] <;> rfl
/-- Block B holds a hint, whose entries lie where they may be read; what was there in w is untouched. -/
structure HvAt (w : World) (B : Nat) (T : TypeId) (x m : Int) (a : Option Addr) (n cap : Nat) (xs : List EntV) (W : World) : Prop where
  row : W.heap[B]? = some (.cells #[.int .i64 x, .int .i64 m, .slice a n cap] T (0, 0))
  ents : entSh.Row W a n xs
  bel : Below w.heap.size w W
theorem HvAt.later {w : World} {B : Nat} {T : TypeId} {x m : Int} {a : Option Addr} {n cap : Nat} {xs : List EntV} {W W' : World} (h : HvAt w B T x m a n cap xs W) (hb : Below W.heap.size W W') : HvAt w B T x m a n cap xs W' :=
  ⟨(hb.block _ (lt_of_block h.row)).trans h.row, h.ents.later hb, h.bel.trans (hb.mono h.bel.size)⟩
theorem HvAt.cells {w : World} {B : Nat} {T : TypeId} {x m : Int} {a : Option Addr} {n cap : Nat} {xs : List EntV} {W : World} (h : HvAt w B T x m a n cap xs W) : W.cell? ⟨B, 0, none⟩ = some (.int .i64 x) ∧ W.cell? ⟨B, 1, none⟩ = some (.int .i64 m) ∧ W.cell? ⟨B, 2, none⟩ = some (.slice a n cap) := by
  obtain ⟨h0, h1, h2, -⟩ := cells3h h.row
  exact ⟨h0, h1, h2⟩
theorem HvAt.new {w : World} (T : TypeId) (x m : Int) {a : Option Addr} {n : Nat} (cap : Nat) {xs : List EntV} (h : entSh.Row w a n xs) : HvAt w w.heap.size T x m a n cap xs (w.alloc (.cells #[.int .i64 x, .int .i64 m, .slice a n cap] T)) :=
  ⟨heap_alloc_new w _, h.later ((Below.refl _ w).alloc (Nat.le_refl _) _), (Below.refl _ w).alloc (Nat.le_refl _) _⟩

set_option maxRecDepth 100000 in
set_option maxHeartbeats 1000000 in
theorem szHint_any (w : World) (x m : Int) (a : Option Addr) (n cap : Nat) (xs : List EntV) (hr : entSh.Row w a n xs) (hf : EFits xs) (hl : n ≤ maxLen) (l : Int) (h0 : 0 ≤ l) (h1 : l ≤ 1048576) :
    Calls Tryz.prog 21 #[.agg #[.int .i64 x, .int .i64 m, .slice a n cap], .int .i64 l] w fun e w' => e = .returned (.int .i64 (lessR l (n + szEs xs : Nat))) ∧ Below w.heap.size w w' := by
  have HB0 := hide (al1 w (.cells #[.int .i64 x, .int .i64 m, .slice a n cap] 54))
  have HS := hide (szEntS_any (w.alloc (.cells #[.int .i64 x, .int .i64 m, .slice a n cap] 54)) a n cap xs (hr.later HB0.out) hf hl l h0 h1)
  obtain ⟨v, hv⟩ : ∃ v, lessR l ((n + szEs xs : Nat) : Int) = v := ⟨_, rfl⟩
  have hsz : 0 ≤ v ∨ v = -1 := by rw [← hv]; unfold lessR; split <;> omega
  rw [hv] at HS ⊢
  clear hr hf hl h0 h1 hv
  by_cases c1 : v < 0
  · have t1 : decide (v < 0) = true := by simpa using c1
    have HE : Hid (v = -1) := hide (by omega)
    clear hsz c1
    go_enter Tryz.func21, Tryz.ntmps21
    go_wp2_with fail
    refine HS.out.mono ?_
    rintro e w1 ⟨rfl, hb1⟩
    have HB1 := hide (HB0.out.trans (hb1.mono HB0.out.size))
    clear hb1 HS
    go_wp2
    go_ret
    exact ⟨by rw [HE.out]; rfl, HB1.out⟩
  · have t1 : decide (v < 0) = false := by simpa using c1
    clear hsz c1
    go_enter Tryz.func21, Tryz.ntmps21
    go_wp2_with fail
    refine HS.out.mono ?_
    rintro e w1 ⟨rfl, hb1⟩
    have HB1 := hide (HB0.out.trans (hb1.mono HB0.out.size))
    clear hb1 HS
    go_wp2
    go_ret
    exact ⟨rfl, HB1.out⟩

set_option maxRecDepth 100000 in
set_option maxHeartbeats 1000000 in
theorem toHint_any (w : World) (x m : Int) (a : Option Addr) (n cap : Nat) (xs : List EntV) (hr : entSh.Row w a n xs) (hn : n ≤ 1048576) :
    Calls Tryz.prog 23 #[.agg #[.int .i64 x, .int .i64 m, .slice a n cap]] w fun e w' => (∃ q, e = .returned (.agg #[.int .i64 x, .int .i64 m, .slice (some ⟨q, 0, none⟩) n n]) ∧ entSh.Own 71 w' w.heap.size (.slice (some ⟨q, 0, none⟩) n n) xs) ∧ Below w.heap.size w w' := by
  obtain ⟨W, hW⟩ : ∃ W, W = ((w.alloc (.cells #[.int .i64 x, .int .i64 m, .slice a n cap] 54)).alloc (.cells #[.int .i64 0, .int .i64 0, .slice none 0 0] 26)).alloc (.cells #[.int .i64 x, .int .i64 m, .slice none 0 0] 26) := ⟨_, rfl⟩
  have HB0 : Hid (Below w.heap.size w W) := hide (by rw [hW]; exact al3 w _ _ _)
  have HAR : Hid (W.heap[w.heap.size]? = some (.cells #[.int .i64 x, .int .i64 m, .slice a n cap] 54 (0, 0))) := hide (by
    rw [hW, Below.heap_alloc _ _ _ (by simp; omega), Below.heap_alloc _ _ _ (by simp)]
    exact heap_alloc_new w _)
  have HRS : Hid (W.heap[w.heap.size + 1]? = some (.cells #[.int .i64 0, .int .i64 0, .slice none 0 0] 26 (0, 0))) := hide (by
    rw [hW, Below.heap_alloc _ _ _ (by simp)]
    have h := heap_alloc_new (w.alloc (.cells #[.int .i64 x, .int .i64 m, .slice a n cap] 54)) (.cells #[.int .i64 0, .int .i64 0, .slice none 0 0] 26)
    rw [World.size_alloc] at h
    exact h)
  have HOU : Hid (W.heap[w.heap.size + 1 + 1]? = some (.cells #[.int .i64 x, .int .i64 m, .slice none 0 0] 26 (0, 0))) := hide (by
    rw [hW]
    have h := heap_alloc_new ((w.alloc (.cells #[.int .i64 x, .int .i64 m, .slice a n cap] 54)).alloc (.cells #[.int .i64 0, .int .i64 0, .slice none 0 0] 26)) (.cells #[.int .i64 x, .int .i64 m, .slice none 0 0] 26)
    rw [World.size_alloc, World.size_alloc] at h
    exact h)
  have HT := hide (toEntS_any W a n cap xs (hr.later HB0.out) hn)
  have hws : w.heap.size + 1 + 1 < W.heap.size := (Array.getElem?_eq_some_iff.1 HOU.out).1
  have HWS := hide hws
  clear hr
  go_enter Tryz.func23, Tryz.ntmps23
  go_wp2_with fail
  rw [← hW]
  clear hW
  refine HT.out.mono ?_
  rintro e w1 ⟨rfl, ho1, hb1⟩
  have HB1 := hide (HB0.out.trans (hb1.mono HB0.out.size))
  have HO1 := hide ho1
  have har := (hb1.block _ (Array.getElem?_eq_some_iff.1 HAR.out).1).trans HAR.out
  have hrs := (hb1.block _ (Array.getElem?_eq_some_iff.1 HRS.out).1).trans HRS.out
  have hou := (hb1.block _ (Array.getElem?_eq_some_iff.1 HOU.out).1).trans HOU.out
  obtain ⟨z0, z1, z2, -⟩ := cells3h har
  obtain ⟨x0, x1, x2, x3, x4, x5⟩ := cells3h hrs
  obtain ⟨y0, y1, y2, y3, y4, y5⟩ := cells3h hou
  clear hb1 ho1 HT HB0 HAR HRS HOU har hrs hou
  go_wp2
  refine bodyPost_ret (v := .agg #[.int .i64 x, .int .i64 m, .slice (some ⟨W.heap.size, 0, none⟩) n n]) (by simp [results, Tryz.results23, go_sem, *]) rfl ⟨⟨_, rfl, ?_⟩, ?_⟩
  · refine Shape.Own.mono ?_ (show w.heap.size ≤ W.heap.size by have := HWS.out; omega)
    iterate 4 (refine Shape.Own.setCell ?_ _ _ (by dsimp only; have := HWS.out; omega))
    exact HO1.out
  · iterate 4 (refine Below.setCell ?_ (by dsimp only; omega) _)
    exact HB1.out

set_option maxRecDepth 100000 in
set_option maxHeartbeats 1000000 in
theorem eqHint_same (w : World) (x m : Int) (a b : Option Addr) (n cap cap' : Nat) (xs : List EntV) (ha : entSh.Row w a n xs) (hb : entSh.Row w b n xs) (hn : n ≤ 1099511627776) :
    Calls Tryz.prog 18 #[.agg #[.int .i64 x, .int .i64 m, .slice a n cap], .agg #[.int .i64 x, .int .i64 m, .slice b n cap']] w fun e w' => e = .returned (.bool true) ∧ Below w.heap.size w w' := by
  have HB0 := hide (al2 w (.cells #[.int .i64 x, .int .i64 m, .slice a n cap] 26) (.cells #[.int .i64 x, .int .i64 m, .slice b n cap'] 26))
  have HE := hide (eqEntS_same _ a b n cap cap' xs (ha.later HB0.out) (hb.later HB0.out) hn)
  have t1 : (x != x) = false := by simp
  have t2 : (m != m) = false := by simp
  clear ha hb
  go_enter Tryz.func18, Tryz.ntmps18
  go_wp2_with fail
  refine HE.out.mono ?_
  rintro e w1 ⟨rfl, hb1⟩
  have HB1 := hide (HB0.out.trans (hb1.mono HB0.out.size))
  clear hb1 HE
  go_wp2
  go_ret
  exact ⟨rfl, HB1.out⟩

set_option maxRecDepth 100000 in
set_option maxHeartbeats 1000000 in
theorem markHint_any (w : World) (base : Nat) (x m : Int) (a : Option Addr) (n cap : Nat) (xs : List EntV) (ho : entSh.Own 71 w base (.slice a n cap) xs) (hn : n ≤ 1099511627776) (k : Nat) (hk0 : 0 < k) (hk : k ≤ 1099511627776) :
    Calls Tryz.prog 19 #[.agg #[.int .i64 x, .int .i64 m, .slice a n cap], .int .i64 k] w fun e w' => e = .returned (.int .i64 (k + 5 * n : Nat)) ∧ entSh.Own 71 w' base (.slice a n cap) (markE n k) ∧ w.grownBy w' (Value.slice a n cap).ownBlock := by
  have hA := al1 w (.cells #[.int .i64 x, .int .i64 m, .slice a n cap] 26)
  have HG0 : Hid (w.grownBy (w.alloc (.cells #[.int .i64 x, .int .i64 m, .slice a n cap] 26)) (Value.slice a n cap).ownBlock) := hide ⟨hA.os, hA.tape, hA.output, hA.size, fun k hk _ => hA.block k hk⟩
  have HM := hide (markEntS_any (w.alloc (.cells #[.int .i64 x, .int .i64 m, .slice a n cap] 26)) base a n cap xs (ho.later hA (Nat.le_refl _)) hn k hk0 hk)
  clear ho hA
  go_enter Tryz.func19, Tryz.ntmps19
  go_wp2_with fail
  refine HM.out.mono ?_
  rintro e w1 ⟨rfl, ho1, hg1⟩
  have HO1 := hide ho1
  have HG1 := hide (gchain HG0.out hg1)
  clear ho1 hg1 HM HG0
  go_wp2
  go_ret
  exact ⟨rfl, HO1.out, HG1.out⟩

set_option maxRecDepth 100000 in
set_option maxHeartbeats 1000000 in
theorem heldHint_any (w : World) (x m : Int) (a : Option Addr) (n cap : Nat) (hn : n ≤ 1099511627776) (k : Nat) (hk0 : 0 < k) (hk : k ≤ 1099511627776) (hr : entSh.Row w a n (markE n k)) :
    Calls Tryz.prog 20 #[.agg #[.int .i64 x, .int .i64 m, .slice a n cap], .int .i64 k] w fun e w' => e = .returned (.int .i64 (k + 5 * n : Nat)) ∧ Below w.heap.size w w' := by
  have HB0 := hide (al1 w (.cells #[.int .i64 x, .int .i64 m, .slice a n cap] 26))
  have HM := hide (heldEntS_any (w.alloc (.cells #[.int .i64 x, .int .i64 m, .slice a n cap] 26)) a n cap hn k hk0 hk (hr.later HB0.out))
  obtain ⟨t, ht⟩ : ∃ t : Int, ((k + 5 * n : Nat) : Int) = t := ⟨_, rfl⟩
  have t1 : decide (t < 0) = false := by simp; omega
  rw [ht] at HM ⊢
  clear hr ht
  go_enter Tryz.func20, Tryz.ntmps20
  go_wp2_with fail
  refine HM.out.mono ?_
  rintro e w1 ⟨rfl, hb1⟩
  have HB1 := hide (HB0.out.trans (hb1.mono HB0.out.size))
  clear hb1 HM
  go_wp2
  go_ret
  exact ⟨rfl, HB1.out⟩

end Go.Proofs.YtimpokbcfjgdaaaGreatDoor
