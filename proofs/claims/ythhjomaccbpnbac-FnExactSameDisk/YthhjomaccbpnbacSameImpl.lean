/-
  slices.Equal at files, and impl.SameDisk.
-/
import Derived.Test.YthhjomaccbpnbacSameSpec
namespace Go.Proofs.Ythhjomaccbpnbac
open Go.RowKit
open Plain

attribute [local go_sem] file_neq file_guard

set_option maxRecDepth 100000 in
set_option maxHeartbeats 4000000 in
theorem equal_any (w : World) (a b : Option Addr) (n m cap cap' : Nat) (fs gs : List FileV) (ha : FRow w 0 a n fs) (hb : FRow w 0 b m gs) (hn : n ≤ 1099511627776) (hm : m ≤ 1099511627776) :
    Calls Try.prog 11 #[.slice a n cap, .slice b m cap'] w fun e w' => e = .returned (.bool (eqFsB fs gs)) ∧ Below w.heap.size w w' := by
  have hfn := ha.len
  have hgm := hb.len
  have HA := hide ha
  have HG := hide hb
  clear ha hb
  by_cases hnm : n = m
  · subst hnm
    go_enter Try.func11, Try.ntmps11
    go_wp2
    go_loopw [13] (fun i wr => ∃ k : Nat, k ≤ n ∧ i = .int .i64 k ∧ Hid (fs.take k = gs.take k) ∧ Hid (Below w.heap.size w wr)) (fun i _ => n - (intOf i).toNat)
    case atStart => exact ⟨0, by omega, rfl, hide (by simp), hide (Below.refl _ _)⟩
    case round =>
      obtain ⟨k, hk, rfl, HE, HB⟩ := hrel
      by_cases hlt : k < n
      · have h1 : k < fs.length := by omega
        have h2 : k < gs.length := by omega
        obtain ⟨b1, o1, rfl, -, hb1, e1, e2, e3⟩ := (HA.out.later HB.out (Nat.le_refl _)).cells k h1
        obtain ⟨b2, o2, rfl, -, hb2, g1, g2, g3⟩ := (HG.out.later HB.out (Nat.le_refl _)).cells k h2
        have hk2 : (k : Int) < (n : Int) := by omega
        have HE2 : Hid (fs.take (k + 1) = gs.take (k + 1) ↔ fs[k] = gs[k]) := hide (by
          rw [List.take_succ_eq_append_getElem h1, List.take_succ_eq_append_getElem h2, HE.out]
          constructor
          · intro h
            simpa using List.append_cancel_left h
          · intro h
            rw [h])
        have HN : Hid (¬ fs[k] = gs[k] → eqFsB fs gs = false) := hide (fun he => eqFsB_no (fun h => he (HE2.out.1 (by rw [h]))))
        by_cases p1 : fs[k].name.toList = gs[k].name.toList
        · by_cases p2 : fs[k].text.toList = gs[k].text.toList
          · by_cases p3 : fs[k].safe = gs[k].safe
            · have HE3 := hide (HE2.out.2 (FileV.ext' (toList_inj p1) (toList_inj p2) p3))
              clear HE2 HE HN
              go_wp2
              go_region
              go_wp2
              go_roundw
              case rel => exact ⟨k + 1, by omega, by go_num, HE3, hide HB.out.drew⟩
              case measure => first | (simp [intOf]; done) | (simp [intOf]; omega)
            · have HF := hide (HN.out (fun h => p3 (by rw [h])))
              clear HE2 HE HN
              go_wp2
              go_region
              go_wp2
              go_ret
              exact ⟨by rw [HF.out]; rfl, HB.out.drew⟩
          · have HF := hide (HN.out (fun h => p2 (by rw [h])))
            clear HE2 HE HN
            go_wp2
            go_region
            go_wp2
            go_ret
            exact ⟨by rw [HF.out]; rfl, HB.out.drew⟩
        · have HF := hide (HN.out (fun h => p1 (by rw [h])))
          clear HE2 HE HN
          go_wp2
          go_region
          go_wp2
          go_ret
          exact ⟨by rw [HF.out]; rfl, HB.out.drew⟩
      · obtain rfl : k = n := by omega
        have HD : Hid (eqFsB fs gs = true) := hide (by
          have h := HE.out
          rw [List.take_of_length_le (by omega), List.take_of_length_le (by omega)] at h
          exact eqFsB_yes h)
        clear HE
        go_wp2
        go_ret
        exact ⟨by rw [HD.out]; rfl, HB.out⟩
  · have t1 : ((n : Int) != (m : Int)) = true := by simp; omega
    have HV : Hid (eqFsB fs gs = false) := hide (by
      have h : ¬ fs = gs := fun h => hnm (by rw [← hfn, ← hgm, h])
      exact eqFsB_no h)
    go_enter Try.func11, Try.ntmps11
    go_wp2
    go_ret
    exact ⟨by rw [HV.out]; rfl, Below.refl _ _⟩

set_option maxRecDepth 100000 in
set_option maxHeartbeats 4000000 in
theorem implSame_any (w : World) (a b : Option Addr) (n m cap cap' : Nat) (fs gs : List FileV) (ha : FRow w 0 a n fs) (hb : FRow w 0 b m gs) (hn : n ≤ 1099511627776) (hm : m ≤ 1099511627776) (c u c' u' : Int) (d d' : Bool) :
    Calls Try.prog 7 #[.agg #[.slice a n cap, .int .i64 c, .int .i64 u, .bool d], .agg #[.slice b m cap', .int .i64 c', .int .i64 u', .bool d']] w fun e w' => e = .returned (.bool (eqDB fs gs c c' u u' d d')) ∧ Below w.heap.size w w' := by
  obtain ⟨W, hW⟩ : ∃ W, W = (w.alloc (.cells #[.slice a n cap, .int .i64 c, .int .i64 u, .bool d] 29)).alloc (.cells #[.slice b m cap', .int .i64 c', .int .i64 u', .bool d'] 29) := ⟨_, rfl⟩
  have hA := alloc2 w (.cells #[.slice a n cap, .int .i64 c, .int .i64 u, .bool d] 29) (.cells #[.slice b m cap', .int .i64 c', .int .i64 u', .bool d'] 29)
  rw [← hW] at hA
  have HS := hide hA.1
  have HB0 := hide hA.2.1
  have HC0 := hide hA.2.2.1
  have HC1 := hide hA.2.2.2
  clear hA
  have HE := hide (equal_any W a b n m cap cap' fs gs (ha.later HB0.out (Nat.le_refl _)) (hb.later HB0.out (Nat.le_refl _)) hn hm)
  clear ha hb
  go_enter Try.func7, Try.ntmps7
  go_wp2_with fail
  rw [← hW]
  clear hW
  refine HE.out.mono ?_
  rintro e w1 ⟨rfl, hb1⟩
  obtain ⟨a0, a1, a2, a3, -⟩ := cells4 ((hb1.block _ (by have := HS.out; omega)).trans HC0.out)
  obtain ⟨b0, b1, b2, b3, -⟩ := cells4 ((hb1.block _ (by have := HS.out; omega)).trans HC1.out)
  have HB1 := hide (HB0.out.trans (hb1.mono HB0.out.size))
  clear hb1 HC0 HC1 HE
  by_cases q1 : fs = gs
  · have t1 : eqFsB fs gs = true := eqFsB_yes q1
    rw [t1]
    by_cases q2 : c = c'
    · have t2 : (c == c') = true := by simpa using q2
      by_cases q3 : u = u'
      · have t3 : (u == u') = true := by simpa using q3
        by_cases q4 : d = d'
        · have HV : Hid (eqDB fs gs c c' u u' d d' = true) := hide (by simp [eqDB, t1, q2, q3, q4])
          subst q4
          clear q1 q2 q3 t1
          cases d
          all_goals
            go_wp2
            go_ret
            exact ⟨by rw [HV.out]; rfl, HB1.out⟩
        · have HV : Hid (eqDB fs gs c c' u u' d d' = false) := hide (by simp [eqDB, q4])
          clear q1 q2 q3 t1
          cases d <;> cases d' <;> first
            | exact absurd rfl q4
            | (go_wp2
               go_ret
               exact ⟨by rw [HV.out]; rfl, HB1.out⟩)
      · have t3 : (u == u') = false := by simpa using q3
        have HV : Hid (eqDB fs gs c c' u u' d d' = false) := hide (by simp [eqDB, q3])
        clear q1 q2 q3 t1
        go_wp2
        go_ret
        exact ⟨by rw [HV.out]; rfl, HB1.out⟩
    · have t2 : (c == c') = false := by simpa using q2
      have HV : Hid (eqDB fs gs c c' u u' d d' = false) := hide (by simp [eqDB, q2])
      clear q1 q2 t1
      go_wp2
      go_ret
      exact ⟨by rw [HV.out]; rfl, HB1.out⟩
  · have t1 : eqFsB fs gs = false := eqFsB_no q1
    have HV : Hid (eqDB fs gs c c' u u' d d' = false) := hide (by simp [eqDB, t1])
    rw [t1]
    clear q1 t1
    go_wp2
    go_ret
    exact ⟨by rw [HV.out]; rfl, HB1.out⟩

end Go.Proofs.Ythhjomaccbpnbac
