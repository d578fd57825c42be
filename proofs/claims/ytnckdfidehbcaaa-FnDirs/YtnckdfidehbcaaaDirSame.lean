/-
  spec.SameDir, and impl.SameDir by sameList.
-/
import Derived.Test.YtnckdfidehbcaaaSameLI
namespace Go.Proofs.Ytnckdfidehbcaaa
open Go.RowKit
open Plain

attribute [local go_sem] ent_neq ent_guard

set_option maxRecDepth 100000 in
set_option maxHeartbeats 4000000 in
theorem specSameDir_any (w : World) (a b : Option Addr) (n m cap cap' : Nat) (fs gs : List EntV) (ha : entSh.Row w a n fs) (hb : entSh.Row w b m gs) (hn : n ≤ 1099511627776) (hm : m ≤ 1099511627776) :
    Calls Try.prog 20 #[.slice a n cap, .slice b m cap'] w fun e w' => e = .returned (.bool (sameE fs gs)) ∧ Below w.heap.size w w' := by
  have hfn := ha.len
  have hgm := hb.len
  have HA := hide ha
  have HG := hide hb
  clear ha hb
  by_cases hnm : n = m
  · subst hnm
    go_enter Try.func20, Try.ntmps20
    go_wp2
    go_loopw [5] (fun i wr => ∃ k : Nat, k ≤ n ∧ i = .int .i64 k ∧ Hid (fs.take k = gs.take k) ∧ Hid (Below w.heap.size w wr)) (fun i _ => n - (intOf i).toNat)
    case atStart => exact ⟨0, by omega, rfl, hide (by simp), hide (Below.refl _ _)⟩
    case round =>
      obtain ⟨k, hk, rfl, HE, HB⟩ := hrel
      by_cases hlt : k < n
      · have h1 : k < fs.length := by omega
        have h2 : k < gs.length := by omega
        obtain ⟨b1, o1, rfl, hb1, e0, e1, e2, e3, e4⟩ := ent_cells (HA.out.later HB.out) k h1
        obtain ⟨b2, o2, rfl, hb2, g0, g1, g2, g3, g4⟩ := ent_cells (HG.out.later HB.out) k h2
        have hk2 : (k : Int) < (n : Int) := by omega
        have HE2 : Hid (fs.take (k + 1) = gs.take (k + 1) ↔ fs[k] = gs[k]) := hide (by
          rw [List.take_succ_eq_append_getElem h1, List.take_succ_eq_append_getElem h2, HE.out]
          constructor
          · intro h
            simpa using List.append_cancel_left h
          · intro h
            rw [h])
        obtain ⟨z, hz⟩ : ∃ z, fs[k] = z := ⟨_, rfl⟩
        obtain ⟨y, hy⟩ : ∃ y, gs[k] = y := ⟨_, rfl⟩
        rw [hz] at e0 e1 e2 e3 e4 HE2
        rw [hy] at g0 g1 g2 g3 g4 HE2
        have hne := ent_neq z y
        clear hz hy
        cases hxy : eqE z y with
        | true =>
          have HE3 := hide (HE2.out.2 ((eqE_iff _ _).1 hxy))
          clear HE2 HE
          go_wp2
          go_region
          go_wp2
          go_roundw
          case rel => exact ⟨k + 1, by omega, by go_num, HE3, hide HB.out.drew⟩
          case measure => first | (simp [intOf]; done) | (simp [intOf]; omega)
        | false =>
          have HF := hide (sameE_no (fs := fs) (gs := gs) (fun h => by
            have := HE2.out.1 (by rw [h])
            rw [(eqE_iff z y).2 this] at hxy
            cases hxy))
          clear HE2 HE
          go_wp2
          go_region
          go_wp2
          go_ret
          exact ⟨by rw [HF.out]; rfl, HB.out.drew⟩
      · obtain rfl : k = n := by omega
        have HV : Hid (sameE fs gs = true) := hide ((sameE_iff _ _).2 (by
          have h := HE.out
          rw [List.take_of_length_le (by omega), List.take_of_length_le (by omega)] at h
          exact h))
        clear HE
        go_wp2
        go_ret
        exact ⟨by rw [HV.out]; rfl, HB.out⟩
  · have HF := hide (sameE_no (fs := fs) (gs := gs) (fun h => hnm (by rw [← hfn, ← hgm, h])))
    have t0 : ((n : Int) != (m : Int)) = true := by simp; omega
    go_enter Try.func20, Try.ntmps20
    go_wp2
    go_ret
    exact ⟨by rw [HF.out]; rfl, Below.refl _ _⟩

set_option maxRecDepth 100000 in
theorem implSameDir_any (w : World) (a b : Option Addr) (n m cap cap' : Nat) (fs gs : List EntV) (ha : entSh.Row w a n fs) (hb : entSh.Row w b m gs) (hn : n ≤ 1099511627776) (hm : m ≤ 1099511627776) :
    Calls Try.prog 13 #[.slice a n cap, .slice b m cap'] w fun e w' => e = .returned (.bool (sameE fs gs)) ∧ Below w.heap.size w w' := by
  have HE := hide (sameLE_any w a b n m cap cap' fs gs ha hb hn hm)
  clear ha hb
  go_enter Try.func13, Try.ntmps13
  go_wp2_with fail
  refine HE.out.mono ?_
  rintro e w1 ⟨rfl, hb1⟩
  have HB := hide hb1
  clear hb1 HE
  go_wp2
  go_ret
  exact ⟨rfl, HB.out⟩

end Go.Proofs.Ytnckdfidehbcaaa
