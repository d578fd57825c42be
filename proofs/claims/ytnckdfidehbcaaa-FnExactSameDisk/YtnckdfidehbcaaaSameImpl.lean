/-
  impl.sameList at files, and impl.SameDisk.
-/
import Derived.Test.YtnckdfidehbcaaaSameSpec
import Derived.BigQuiet
import Derived.Deep.QuietTactic
namespace Go.Proofs.Ytnckdfidehbcaaa
open Go.RowKit
open Plain

attribute [local go_sem] file_neq file_guard

theorem alF (w : World) (o : Obj) : Below w.heap.size w (w.alloc o) := (Below.refl _ w).alloc (Nat.le_refl _) o
theorem cellsF3 {w : World} {B : Nat} {x0 x1 x2 : Value} {ty : TypeId} (h : w.heap[B]? = some (.cells #[x0, x1, x2] ty (0, 0))) : w.cell? ⟨B, 0, none⟩ = some x0 ∧ w.cell? ⟨B, 1, none⟩ = some x1 ∧ w.cell? ⟨B, 2, none⟩ = some x2 :=
  ⟨(cell_of_row w B 0 _ _ _ h).trans rfl, (cell_of_row w B 1 _ _ _ h).trans rfl, (cell_of_row w B 2 _ _ _ h).trans rfl⟩
theorem eqFB_at {f g : FileV} (h : eqFB f g = true) : f = g := by
  by_cases e : f = g
  · exact e
  · rw [eqFB_no e] at h; cases h

set_option maxRecDepth 100000 in
set_option maxHeartbeats 4000000 in
theorem sameLF_any (w : World) (a b : Option Addr) (n m cap cap' : Nat) (fs gs : List FileV) (ha : FRow w 0 a n fs) (hb : FRow w 0 b m gs) (hn : n ≤ 1099511627776) (hm : m ≤ 1099511627776) :
    Calls Try.prog 37 #[.slice a n cap, .slice b m cap'] w fun e w' => e = .returned (.bool (eqFsB fs gs)) ∧ Below w.heap.size w w' := by
  have hfn := ha.len
  have hgm := hb.len
  have HA := hide ha
  have HG := hide hb
  clear ha hb
  by_cases hnm : n = m
  · subst hnm
    go_enter Try.func37, Try.ntmps37
    go_wp2
    go_loopw [14] (fun i wr => ∃ k : Nat, k ≤ n ∧ i = .int .i64 k ∧ Hid (fs.take k = gs.take k) ∧ Hid (Below w.heap.size w wr)) (fun i _ => n - (intOf i).toNat)
    case atStart => exact ⟨0, by omega, rfl, hide (by simp), hide (Below.refl _ _)⟩
    case round =>
      obtain ⟨k, hk, rfl, HE, HB⟩ := hrel
      by_cases hlt : k < n
      · have h1 : k < fs.length := by omega
        have h2 : k < gs.length := by omega
        obtain ⟨b1, o1, rfl, -, hb1, e0, e1, e2⟩ := (HA.out.later HB.out (Nat.le_refl _)).cells k h1
        obtain ⟨b2, o2, rfl, -, hb2, g0, g1, g2⟩ := (HG.out.later HB.out (Nat.le_refl _)).cells k h2
        have hk2 : (k : Int) < (n : Int) := by omega
        have HE2 : Hid (fs.take (k + 1) = gs.take (k + 1) ↔ fs[k] = gs[k]) := hide (by
          rw [List.take_succ_eq_append_getElem h1, List.take_succ_eq_append_getElem h2, HE.out]
          constructor
          · intro h
            simpa using List.append_cancel_left h
          · intro h
            rw [h])
        obtain ⟨z, hz⟩ : ∃ z, fs[k] = z := ⟨_, rfl⟩
        obtain ⟨y, hy⟩ : ∃ y, gs[k] = y := ⟨_, rfl⟩
        rw [hz] at e0 e1 e2 HE2
        rw [hy] at g0 g1 g2 HE2
        have hne := file_neq z y
        clear hz hy
        obtain ⟨W2, hW2⟩ : ∃ W2, W2 = wr.alloc (.cells #[.string z.name, .string z.text, .int .i64 z.safe] 65) := ⟨_, rfl⟩
        have hbx : W2.heap[wr.heap.size]? = some (.cells #[.string z.name, .string z.text, .int .i64 z.safe] 65 (0, 0)) := by rw [hW2]; exact heap_alloc_new wr _
        have HB2 : Hid (∀ q, Below w.heap.size w (W2.drewN q)) := hide (fun _ => by
          have h : Below w.heap.size w W2 := by rw [hW2]; exact HB.out.alloc HB.out.size _
          exact ⟨h.os, h.tape, h.output, h.size, h.block⟩)
        have hal := alF wr (.cells #[.string z.name, .string z.text, .int .i64 z.safe] 65)
        have G0 := (hal.cell (p := ⟨b2, o2 + k * 3, none⟩) hb2).trans g0
        have G1 := (hal.cell (p := ⟨b2, o2 + k * 3 + 1, none⟩) hb2).trans g1
        have G2 := (hal.cell (p := ⟨b2, o2 + k * 3 + 2, none⟩) hb2).trans g2
        rw [← hW2] at G0 G1 G2
        have hk3 : (k : Int) < (n : Int) := hk2
        go_wp2_with fail
        rw [← hW2]
        clear hW2 hal e0 e1 e2 g0 g1 g2 hb1 hb2
        obtain ⟨y0, y1, y2⟩ := cellsF3 hbx
        clear hbx
        cases hxy : eqFB z y with
        | true =>
          rw [hxy] at hne
          have HE3 := hide (HE2.out.2 (eqFB_at hxy))
          clear HE2 HE HB
          go_quiet (fail)
          go_wp2
          go_roundw
          case rel => exact ⟨k + 1, by omega, by go_num, HE3, hide (HB2.out _)⟩
          case measure => first | (simp [intOf]; done) | (simp [intOf]; omega)
        | false =>
          rw [hxy] at hne
          have HF := hide (eqFsB_no (fs := fs) (gs := gs) (fun h => by
            have := HE2.out.1 (by rw [h])
            rw [eqFB_yes this] at hxy
            cases hxy))
          clear HE2 HE HB
          go_quiet (fail)
          go_wp2
          go_ret
          exact ⟨by rw [HF.out]; rfl, HB2.out _⟩
      · obtain rfl : k = n := by omega
        have HV : Hid (eqFsB fs gs = true) := hide ((eqFsB_yes (by
          have h := HE.out
          rw [List.take_of_length_le (by omega), List.take_of_length_le (by omega)] at h
          exact h)))
        clear HE
        go_wp2
        go_ret
        exact ⟨by rw [HV.out]; rfl, HB.out⟩
  · have HF := hide (eqFsB_no (fs := fs) (gs := gs) (fun h => hnm (by rw [← hfn, ← hgm, h])))
    have t0 : ((n : Int) != (m : Int)) = true := by simp; omega
    go_enter Try.func37, Try.ntmps37
    go_wp2
    go_ret
    exact ⟨by rw [HF.out]; rfl, Below.refl _ _⟩


set_option maxRecDepth 100000 in
set_option maxHeartbeats 4000000 in
theorem implSame_any (w : World) (a b : Option Addr) (n m cap cap' : Nat) (fs gs : List FileV) (ha : FRow w 0 a n fs) (hb : FRow w 0 b m gs) (hn : n ≤ 1099511627776) (hm : m ≤ 1099511627776) (c u c' u' : Int) (d d' : Bool) :
    Calls Try.prog 17 #[.agg #[.slice a n cap, .int .i64 c, .int .i64 u, .bool d], .agg #[.slice b m cap', .int .i64 c', .int .i64 u', .bool d']] w fun e w' => e = .returned (.bool (eqDB fs gs c c' u u' d d')) ∧ Below w.heap.size w w' := by
  obtain ⟨W, hW⟩ : ∃ W, W = (w.alloc (.cells #[.slice a n cap, .int .i64 c, .int .i64 u, .bool d] 44)).alloc (.cells #[.slice b m cap', .int .i64 c', .int .i64 u', .bool d'] 44) := ⟨_, rfl⟩
  have hA := alloc2 w (.cells #[.slice a n cap, .int .i64 c, .int .i64 u, .bool d] 44) (.cells #[.slice b m cap', .int .i64 c', .int .i64 u', .bool d'] 44)
  rw [← hW] at hA
  have HS := hide hA.1
  have HB0 := hide hA.2.1
  have HC0 := hide hA.2.2.1
  have HC1 := hide hA.2.2.2
  clear hA
  have HE := hide (sameLF_any W a b n m cap cap' fs gs (ha.later HB0.out (Nat.le_refl _)) (hb.later HB0.out (Nat.le_refl _)) hn hm)
  clear ha hb
  go_enter Try.func17, Try.ntmps17
  go_wp2_with fail
  rw [← hW]
  clear hW
  refine HE.out.mono ?_
  rintro e w1 ⟨rfl, hb1⟩
  obtain ⟨a0, a1, a2, a3, -⟩ := cells4 ((hb1.block _ (by have := HS.out; omega)).trans HC0.out)
  obtain ⟨b0, b1, b2, b3, -⟩ := cells4 ((hb1.block _ (by have := HS.out; omega)).trans HC1.out)
  have HB1 := hide (HB0.out.trans (hb1.mono HB0.out.size))
  clear hb1 HC0 HC1 HE
  by_cases q1 : fs = gs
  · have t1 : eqFsB fs gs = true := eqFsB_yes q1
    rw [t1]
    by_cases q2 : c = c'
    · have t2 : (c == c') = true := by simpa using q2
      by_cases q3 : u = u'
      · have t3 : (u == u') = true := by simpa using q3
        by_cases q4 : d = d'
        · have HV : Hid (eqDB fs gs c c' u u' d d' = true) := hide (by simp [eqDB, t1, q2, q3, q4])
          subst q4
          clear q1 q2 q3 t1
          cases d
          all_goals
            go_wp2
            go_ret
            exact ⟨by rw [HV.out]; rfl, HB1.out⟩
        · have HV : Hid (eqDB fs gs c c' u u' d d' = false) := hide (by simp [eqDB, q4])
          clear q1 q2 q3 t1
          cases d <;> cases d' <;> first
            | exact absurd rfl q4
            | (go_wp2
               go_ret
               exact ⟨by rw [HV.out]; rfl, HB1.out⟩)
      · have t3 : (u == u') = false := by simpa using q3
        have HV : Hid (eqDB fs gs c c' u u' d d' = false) := hide (by simp [eqDB, q3])
        clear q1 q2 q3 t1
        go_wp2
        go_ret
        exact ⟨by rw [HV.out]; rfl, HB1.out⟩
    · have t2 : (c == c') = false := by simpa using q2
      have HV : Hid (eqDB fs gs c c' u u' d d' = false) := hide (by simp [eqDB, q2])
      clear q1 q2 t1
      go_wp2
      go_ret
      exact ⟨by rw [HV.out]; rfl, HB1.out⟩
  · have t1 : eqFsB fs gs = false := eqFsB_no q1
    have HV : Hid (eqDB fs gs c c' u u' d d' = false) := hide (by simp [eqDB, t1])
    rw [t1]
    clear q1 t1
    go_wp2
    go_ret
    exact ⟨by rw [HV.out]; rfl, HB1.out⟩

end Go.Proofs.Ytnckdfidehbcaaa
