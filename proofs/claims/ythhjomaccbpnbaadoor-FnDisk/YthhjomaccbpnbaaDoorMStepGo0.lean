/-
  impl.step.
-/
import Derived.Test.YthhjomaccbpnbaaDoorG04
namespace Go.Proofs.YthhjomaccbpnbaaDoor
open Go.RowKit Go.Maps
open Plain

set_option maxRecDepth 100000 in
set_option maxHeartbeats 4000000 in
theorem implStep_go0 (w : World) (A : SentA) (hA : SentIn w A) (a : Option Addr) (n cap : Nat) (fs : List FileV) (ha : a = none ∨ ∃ g, a = some ⟨g, 0, none⟩) (hr : FRow w 0 a n fs) (hn : n ≤ 1048576) (hz : szFs fs ≤ 1048576) (c u : Int) (hu : -9223372036854775808 ≤ u) (hu2 : u ≤ 9223372036854775807)
    (g : FuncId) (cb : Array Value) (eg : ∀ args w, (callFunc g args).run Tryd.prog w = .ok (.enter g args) w) (code : Int) (hcode : 0 ≤ code ∧ code ≤ 5) (R : List FileV) (hRi : diskOk fs c u = true → code = 0 → Rising R) (P : World → Prop) (hP : ∀ W', Below w.heap.size w W' → P W') (hch : diskOk fs c u = true → Change g cb A fs code R P) (q : diskOk fs c u = true) (q1 : ¬ (false = true ∨ u = 0)) (hu1 : u = -1) :
    Calls Tryd.prog 21 #[.agg #[.slice a n cap, .int .i64 c, .int .i64 u, .bool false], .func (.func g) #[] cb] w fun e w' => (∃ a' cap', e = .returned (.tuple #[.agg #[.slice a' (stepF fs c u false code R).1.length cap', .int .i64 c, .int .i64 (begU fs c u false), .bool (begD fs c u false)], .int .i64 (stepF fs c u false code R).2]) ∧ FOwn w' w.heap.size (.slice a' (stepF fs c u false code R).1.length cap') (stepF fs c u false code R).1) ∧ Below w.heap.size w w' := by
  have hlen := hr.len
  have HRi := hide hRi
  have HP := hide hP
  have HCH := hide hch
  have HU1 := hide hu1
  clear hu1 hRi hP hch
  obtain ⟨W, hW⟩ : ∃ W, W = (w.alloc (.cells #[.slice a n cap, .int .i64 c, .int .i64 u, .bool false] 26)).alloc (.cells #[.slice none 0 0, .int .i64 0, .int .i64 0, .bool false] 26) := ⟨_, rfl⟩
  have hAL := alloc2 w (.cells #[.slice a n cap, .int .i64 c, .int .i64 u, .bool false] 26) (.cells #[.slice none 0 0, .int .i64 0, .int .i64 0, .bool false] 26)
  rw [← hW] at hAL
  have HS := hide hAL.1
  have HB0 := hide hAL.2.1
  have HC0 := hide hAL.2.2.1
  have HC1 := hide hAL.2.2.2
  have HR := hide (hr.later hAL.2.1 (Nat.le_refl _))
  have HA := hide (hA.later hAL.2.1 (Nat.le_refl _))
  have HR0 := hide hr
  have HA0 := hide hA
  clear hAL hr hA
  obtain ⟨y0, y1, y2, y3, -⟩ := cells4 HC0.out
  rw [hW] at y0 y1 y2 y3
  go_enter Tryd.func21, Tryd.ntmps21
  go_wp2_with fail
  rw [← hW]
  clear hW y0 y1 y2 y3
  refine (implCopy_any W a n cap fs ha HR.out hn c u false).mono ?_
  rintro e w1 ⟨⟨a', cap', rfl, ho1⟩, hb1⟩
  obtain ⟨X, hX⟩ : ∃ X, X = w1.alloc (.cells #[.slice a' n cap', .int .i64 c, .int .i64 u, .bool false] 26) := ⟨_, rfl⟩
  have HMID : Hid (Mid w X A w1.heap.size a n cap c u false fs a' cap' u false) := hide (by
    have hs := HS.out
    have hs1 := hb1.size
    have hbX : Below W.heap.size W X := by rw [hX]; exact hb1.alloc hb1.size _
    have hb1X : Below w1.heap.size w1 X := by rw [hX]; exact (Below.refl _ _).alloc (Nat.le_refl _) _
    exact { box := (hbX.block _ (by omega)).trans HC0.out, res := (hbX.block _ (by omega)).trans HC1.out, aft := by rw [hX]; exact heap_alloc_new w1 _, row0 := HR0.out, own := (ho1.later hb1X (Nat.le_refl _)).mono (by omega), blk := fun g hg => (ho1.blk g hg).2, sent0 := HA0.out, bel := HB0.out.trans (hbX.mono HB0.out.size), lo := by omega, hi := by rw [hX]; simp })
  obtain ⟨y0, y1, y2, y3, -⟩ := cells4 HMID.out.box
  rw [hX] at y0 y1 y2 y3
  clear ho1 hb1 HS HB0 HC0 HC1 HR HA HR0 HA0
  go_wp2_with fail
  rw [← hX]
  clear hX y0 y1 y2 y3
  obtain ⟨x, hx⟩ : ∃ x, w1.heap.size = x := ⟨_, rfl⟩
  rw [hx] at HMID ⊢
  clear hx
  refine (implReady_any X A HMID.out.sent a n cap fs HMID.out.row hn hz c u false).mono ?_
  rintro e w2 ⟨rfl, hb2⟩
  have HM2 := hide (HMID.out.later hb2)
  clear HMID hb2
  obtain ⟨y0, y1, y2, y3, f0, f1, f2, f3⟩ := cells4 HM2.out.box
  obtain ⟨z0, z1, z2, z3, h0, h1, h2, h3⟩ := cells4 HM2.out.aft
  have sD := HM2.out.sent.cDown
  have HM2S := hide HM2.out.sent0
  have HLO := hide HM2.out.lo
  have HCC := hide (fun W' (hs : SentIn W' A) (k : Int) (hk : 0 ≤ k ∧ k ≤ 5) => implCode_any W' A hs k hk)
  have hu0 : u ≠ 0 := fun h => q1 (Or.inr h)
  have hlq := len_of q
  have HB1 : Hid (begC fs c u false = 0) := hide (by simp [begC, q, hu0])
  have HST : Hid (stepF fs c u false code R = (if code = 0 then R else fs, code)) := hide (by unfold stepF; rw [if_pos HB1.out])
  have HD : Hid (begD fs c u false = false) := hide (by unfold begD; rw [if_pos q, if_neg hu0])
  have HRS := hide (rising_of q)
  rw [HB1.out, show errV A 0 = .nilIface from rfl]
  have HC := hide (HCH.out q)
  have HRi2 := hide (HRi.out q)
  have t1 : (u == -1) = true := by simpa using HU1.out
  have t1' : (u != -1) = false := by simpa using HU1.out
  have HU : Hid (begU fs c u false = u) := hide (by unfold begU; rw [if_neg]; rintro ⟨-, -, h3⟩; have := HU1.out; omega)
  have HM3 := hide HM2.out
  obtain ⟨Y, hY⟩ : ∃ Y, Y = w2 := ⟨_, rfl⟩
  go_wp2_with fail
  rw [← hY] at HM3 ⊢
  clear hY
  clear y0 y1 y2 y3 f0 f1 f2 f3 z0 z1 z2 z3 h0 h1 h2 h3 sD HM2 q1 q
  refine (implByName_any Y a n cap fs HM3.out.row (by omega) (by omega) HRS.out.apart).mono ?_
  rintro e w3 ⟨⟨rfl, hm3⟩, hb3⟩
  have HM4 := hide (HM3.out.later hb3)
  have hxB : x < Y.heap.size := HM3.out.hi
  obtain ⟨B, hB⟩ : ∃ B, Y.heap.size = B := ⟨_, rfl⟩
  rw [hB] at hm3 hxB ⊢
  have HCG := hide (HC.out w3 B 131 hm3 (by omega) HM4.out.sent (HP.out w3 HM4.out.bel))
  clear hm3 hb3 HM3 hB
  go_wp2_with fail
  refine HCG.out.mono ?_
  rintro e w5 ⟨rfl, hz5, hg5⟩
  have HM3 := hide (HM4.out.grown hg5 hxB)
  have HZ5 := hide hz5
  clear hz5 hg5 HM4 HCG
  by_cases hc0 : code = 0
  · subst hc0
    rw [show errV A 0 = .nilIface from rfl]
    obtain ⟨S', hp5, hm5⟩ := HZ5.out rfl
    have HST0 : Hid (stepF fs c u false 0 R = (R, 0)) := hide (by rw [HST.out]; rfl)
    clear HST
    have HIO := hide (implInOrder_any w5 B 133 S' R hm5 (by omega) (HRi2.out rfl) hp5)
    clear hp5 hm5
    have hw5 := HM3.out.bel.size
    have hlo := HLO.out
    have hhi := HM3.out.hi
    go_wp2_with fail
    refine HIO.out.mono ?_
    rintro e w6 ⟨⟨a6, cap6, rfl, ho6⟩, hb6⟩
    have HM6 := hide (HM3.out.later hb6)
    obtain ⟨z0, z1, z2, z3, h0, h1, h2, h3⟩ := cells4 HM6.out.aft
    have HF := hide (HM6.out.setFiles (a2 := a6) (m := R.length) (cap2 := cap6) (gs := R) (ho6.mono (by omega)) (fun g hg => by have := (ho6.blk g hg).1; omega))
    obtain ⟨Z, hZ⟩ : ∃ Z, Z = w6.setCell ⟨x, 0, none⟩ (.slice a6 R.length cap6) := ⟨_, rfl⟩
    rw [← hZ] at HF
    clear ho6 hb6 HIO HZ5
    go_wp2_with fail
    rw [← hZ]
    clear hZ z0 z1 z2 z3 h0 h1 h2 h3 HM6 HM3 hw5 hlo hhi
    have HBY := hide HF.out.2.2.1
    have HCD : Hid (∀ W', Below w.heap.size w W' → Calls Tryd.prog 48 #[.nilIface] W' fun e w' => e = .returned (.int .i64 0) ∧ W' = w') := hide (fun W' hb => HCC.out W' (HM2S.out.later hb (Nat.le_refl _)) 0 (by omega))
    obtain ⟨z0, z1, z2, z3, h0, h1, h2, h3⟩ := cells4 HF.out.1
    obtain ⟨r0, r1, r2, r3, k0, k1, k2, k3⟩ := cells4 HF.out.2.2.2
    have n1 : w.heap.size + 1 ≠ x := by have := HLO.out; omega
    have n2 : x ≠ w.heap.size + 1 := by have := HLO.out; omega
    have HO := hide HF.out.2.1
    go_region_with (go_at_call 48; go_loud (refine (HCD.out _ (by (repeat (first | with_reducible (refine Below.setCell ?_ (by dsimp only; omega) _) | with_reducible (refine Below.drew ?_) | with_reducible (exact HBY.out))))).mono ?_; rintro e w4 ⟨rfl, rfl⟩))
    all_goals go_wp2
    all_goals refine bodyPost_ret (v := .tuple #[.agg #[.slice a6 R.length cap6, .int .i64 c, .int .i64 u, .bool false], .int .i64 0]) (by simp [results, Tryd.results21, go_sem, *]) rfl ⟨⟨a6, cap6, by rw [HST0.out, HU.out, HD.out], ?_⟩, ?_⟩
    all_goals first
      | (rw [HST0.out]; refine FOwn.mono ?_ (Nat.le_add_right _ 2); (repeat (first | with_reducible (refine FOwn.setCell ?_ _ _ (by dsimp only; omega)) | with_reducible (refine FOwn.drewO ?_) | with_reducible (exact HO.out))); done)
      | ((repeat (first | with_reducible (refine Below.setCell ?_ (by dsimp only; omega) _) | with_reducible (refine Below.drew ?_) | with_reducible (exact HBY.out))); done)
  · have hev : errV A code = .iface 124 (.pointer (some (A.at_ code))) := by unfold errV; rw [if_neg hc0]
    rw [hev]
    have HEV := hide hev
    have HST1 : Hid (stepF fs c u false code R = (fs, code)) := hide (by rw [HST.out, if_neg hc0])
    clear HST
    clear HZ5 hev
    go_wp2_with fail
    have HBY := hide HM3.out.bel
    have HCD : Hid (∀ W', Below w.heap.size w W' → Calls Tryd.prog 48 #[.iface 124 (.pointer (some (A.at_ code)))] W' fun e w' => e = .returned (.int .i64 code) ∧ W' = w') := hide (fun W' hb => HEV.out ▸ HCC.out W' (HM2S.out.later hb (Nat.le_refl _)) code (by omega))
    obtain ⟨z0, z1, z2, z3, h0, h1, h2, h3⟩ := cells4 HM3.out.aft
    obtain ⟨r0, r1, r2, r3, k0, k1, k2, k3⟩ := cells4 HM3.out.res
    have n1 : w.heap.size + 1 ≠ x := by have := HLO.out; omega
    have n2 : x ≠ w.heap.size + 1 := by have := HLO.out; omega
    have HO := hide HM3.out.own
    go_region_with (go_at_call 48; go_loud (refine (HCD.out _ (by (repeat (first | with_reducible (refine Below.setCell ?_ (by dsimp only; omega) _) | with_reducible (refine Below.drew ?_) | with_reducible (exact HBY.out))))).mono ?_; rintro e w4 ⟨rfl, rfl⟩))
    all_goals go_wp2
    all_goals refine bodyPost_ret (v := .tuple #[.agg #[.slice a' n cap', .int .i64 c, .int .i64 u, .bool false], .int .i64 code]) (by simp [results, Tryd.results21, go_sem, *]) rfl ⟨⟨a', cap', by rw [HST1.out, HU.out, HD.out, hlen], ?_⟩, ?_⟩
    all_goals first
      | (rw [HST1.out, hlen]; refine FOwn.mono ?_ (Nat.le_add_right _ 2); (repeat (first | with_reducible (refine FOwn.setCell ?_ _ _ (by dsimp only; omega)) | with_reducible (refine FOwn.drewO ?_) | with_reducible (exact HO.out))); done)
      | ((repeat (first | with_reducible (refine Below.setCell ?_ (by dsimp only; omega) _) | with_reducible (refine Below.drew ?_) | with_reducible (exact HBY.out))); done)

end Go.Proofs.YthhjomaccbpnbaaDoor
