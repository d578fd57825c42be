/-
  spec.l6Recs: records, drawn.
-/
import Derived.Test.YtkcjlalkniaapaaDoorDraw5
import Derived.Test.YtkcjlalkniaapaaDoorBC
namespace Go.Proofs.YtkcjlalkniaapaaDoor
open Go.RowKit
open Plain

/-- What a drawn record keeps to. -/
def Small (xs : List RecV) : Prop := ∀ r ∈ xs, r.key.size ≤ 9 ∧ r.val.size ≤ 25
theorem Small.snoc {xs : List RecV} {r : RecV} (h : Small xs) (h1 : r.key.size ≤ 9) (h2 : r.val.size ≤ 25) : Small (xs ++ [r]) := by
  intro q hq
  rw [List.mem_append, List.mem_singleton] at hq
  rcases hq with hq | rfl
  · exact h q hq
  · exact ⟨h1, h2⟩

set_option maxRecDepth 100000 in
set_option maxHeartbeats 4000000 in
theorem recs6_any (most : Int) (hm0 : 0 ≤ most) (hm1 : most ≤ 100) (w : World) (B : Nat) (a : Option Addr) (len cap : Nat) (zs : List Int) (hc : CurX w B a len cap zs) :
    Calls Tryd.prog 63 #[.pointer (some ⟨B, 0, none⟩), .int .i64 most] w fun e w' => (∃ b m capb xs, e = .returned (.slice b m capb) ∧ (m : Int) ≤ most ∧ Small xs ∧ recSh.Own 33 w' w.heap.size (.slice b m capb) xs) ∧ CurX w' B a len cap zs ∧ w.grownBy w' (some B) := by
  have hB := hc.lt
  obtain ⟨W, hW⟩ : ∃ W, W = w.alloc (.cells #[] 33) := ⟨_, rfl⟩
  have hbW : Below w.heap.size w W := by rw [hW]; exact (Below.refl _ _).alloc (Nat.le_refl _) _
  have hoW : recSh.Own 33 W w.heap.size (.slice (some ⟨w.heap.size, 0, none⟩) 0 0) [] := by rw [hW]; exact Shape.Own.empty recSh 33 w
  obtain ⟨st, hst⟩ := hc.below hbW hB
  have HC := hide hst
  have HO := hide hoW
  have HG := hide (below_grown (some B) hbW)
  clear hc hbW hoW hst
  go_enter Tryd.func63, Tryd.ntmps63
  go_wp2_with fail
  rw [← hW]
  clear hW
  refine (below_any (most + 1) W B a len cap zs st HC.out).mono ?_
  rintro e w1 ⟨rfl, hc1, hg1⟩
  have hl := lV_bd zs (most + 1) st (by omega)
  have HK1 : Hid (recSh.Own 33 w1 w.heap.size (.slice (some ⟨w.heap.size, 0, none⟩) 0 0) [] ∧ CurX w1 B a len cap zs ∧ w.grownBy w1 (some B)) := hide ⟨HO.out.grownB hg1 hB, ⟨_, hc1⟩, grown_trans HG.out hg1⟩
  obtain ⟨N, hN⟩ := Int.eq_ofNat_of_zero_le hl.1
  rw [hN] at hl ⊢
  have hN4 : (N : Int) ≤ most := by omega
  clear hc1 hg1 HC HO HG hN hl
  go_wp2
  go_loopw [5, 6] (fun v x wr => ∃ (j : Nat) (b : Option Addr) (m capb : Nat) (xs : List RecV), (j : Int) + m ≤ most ∧ x = .int .i64 j ∧ v = .slice b m capb ∧ Hid (Small xs) ∧ Hid (recSh.Own 33 wr w.heap.size (.slice b m capb) xs ∧ CurX wr B a len cap zs ∧ w.grownBy wr (some B))) (fun _ x _ => (intOf x).toNat)
  case atStart => exact ⟨N, _, 0, 0, [], by omega, rfl, rfl, hide (fun r hr => by cases hr), HK1⟩
  case round =>
    clear HK1
    obtain ⟨j, b, m, capb, xs, hjm, rfl, rfl, HS, HK⟩ := hrel
    by_cases hj : 0 < j
    · have hj2 : (0 : Int) < (j : Int) := by omega
      go_wp2_with fail
      refine (rec5_any wr B a len cap zs HK.out.2.1).mono ?_
      rintro e w2 ⟨⟨r, h1, h2, rfl⟩, hc2, hg2⟩
      have HK2 : Hid (recSh.Own 33 w2 w.heap.size (.slice b m capb) xs ∧ CurX w2 B a len cap zs ∧ w.grownBy w2 (some B)) := hide ⟨HK.out.1.grownB hg2 hB, hc2, grown_trans HK.out.2.2 hg2⟩
      have HS2 := hide (HS.out.snoc (r := r) (by omega) (by omega))
      have HNL := hide HK2.out.1.len
      clear hc2 hg2 HK h1 h2 HS
      go_wp2_with (at_builtin; refine wpList_app_rec rfl (.tmp 16) (.tmp 19) rfl r HK2.out.1 HK2.out.2.2.size (by have := HNL.out; omega) rfl rfl rfl ?_; intro a' n' cap' w4 hn4 ho4 hb4; have HOW4 := hide ho4; have HB4 := hide hb4; clear ho4 hb4)
      have hxl := HNL.out
      subst hn4
      have HK4 : Hid (recSh.Own 33 w4 w.heap.size (.slice a' (xs.length + 1) cap') (xs ++ [r]) ∧ CurX w4 B a len cap zs ∧ w.grownBy w4 (some B)) := hide ⟨HOW4.out, HK2.out.2.1.below HB4.out hB, grown_below HK2.out.2.2 HB4.out⟩
      clear HOW4 HB4 HK2 HNL
      refine ⟨⟨j - 1, a', _, cap', xs ++ [r], by omega, by rw [show ((j - 1 : Nat) : Int) = (j : Int) - 1 by omega], rfl, HS2, HK4⟩, ?_⟩
      simp [intOf]
      omega
    · obtain rfl : j = 0 := by omega
      go_wp2
      go_ret
      exact ⟨⟨b, m, capb, xs, rfl, by omega, HS.out, HK.out.1⟩, HK.out.2.1, HK.out.2.2⟩

end Go.Proofs.YtkcjlalkniaapaaDoor
