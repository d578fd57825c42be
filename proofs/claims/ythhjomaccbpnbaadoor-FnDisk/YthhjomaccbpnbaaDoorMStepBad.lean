/-
  impl.step.
-/
import Derived.Test.YthhjomaccbpnbaaDoorG04
namespace Go.Proofs.YthhjomaccbpnbaaDoor
open Go.RowKit Go.Maps
open Plain

set_option maxRecDepth 100000 in
set_option maxHeartbeats 4000000 in
theorem implStep_bad (w : World) (A : SentA) (hA : SentIn w A) (a : Option Addr) (n cap : Nat) (fs : List FileV) (ha : a = none ∨ ∃ g, a = some ⟨g, 0, none⟩) (hr : FRow w 0 a n fs) (hn : n ≤ 1048576) (hz : szFs fs ≤ 1048576) (c u : Int) (d : Bool) (_hu : -9223372036854775808 ≤ u) (_hu2 : u ≤ 9223372036854775807)
    (g : FuncId) (cb : Array Value) (_eg : ∀ args w, (callFunc g args).run Tryd.prog w = .ok (.enter g args) w) (code : Int) (_hcode : 0 ≤ code ∧ code ≤ 5) (R : List FileV) (hRi : diskOk fs c u = true → code = 0 → Rising R) (P : World → Prop) (hP : ∀ W', Below w.heap.size w W' → P W') (hch : diskOk fs c u = true → Change g cb A fs code R P) (q : ¬ diskOk fs c u = true) :
    Calls Tryd.prog 21 #[.agg #[.slice a n cap, .int .i64 c, .int .i64 u, .bool d], .func (.func g) #[] cb] w fun e w' => (∃ a' cap', e = .returned (.tuple #[.agg #[.slice a' (stepF fs c u d code R).1.length cap', .int .i64 c, .int .i64 (begU fs c u d), .bool (begD fs c u d)], .int .i64 (stepF fs c u d code R).2]) ∧ FOwn w' w.heap.size (.slice a' (stepF fs c u d code R).1.length cap') (stepF fs c u d code R).1) ∧ Below w.heap.size w w' := by
  have hlen := hr.len
  have HRi := hide hRi
  have HP := hide hP
  have HCH := hide hch
  clear hRi hP hch
  obtain ⟨W, hW⟩ : ∃ W, W = (w.alloc (.cells #[.slice a n cap, .int .i64 c, .int .i64 u, .bool d] 26)).alloc (.cells #[.slice none 0 0, .int .i64 0, .int .i64 0, .bool false] 26) := ⟨_, rfl⟩
  have hAL := alloc2 w (.cells #[.slice a n cap, .int .i64 c, .int .i64 u, .bool d] 26) (.cells #[.slice none 0 0, .int .i64 0, .int .i64 0, .bool false] 26)
  rw [← hW] at hAL
  have HS := hide hAL.1
  have HB0 := hide hAL.2.1
  have HC0 := hide hAL.2.2.1
  have HC1 := hide hAL.2.2.2
  have HR := hide (hr.later hAL.2.1 (Nat.le_refl _))
  have HA := hide (hA.later hAL.2.1 (Nat.le_refl _))
  have HR0 := hide hr
  have HA0 := hide hA
  clear hAL hr hA
  obtain ⟨y0, y1, y2, y3, -⟩ := cells4 HC0.out
  rw [hW] at y0 y1 y2 y3
  go_enter Tryd.func21, Tryd.ntmps21
  go_wp2_with fail
  rw [← hW]
  clear hW y0 y1 y2 y3
  refine (implCopy_any W a n cap fs ha HR.out hn c u d).mono ?_
  rintro e w1 ⟨⟨a', cap', rfl, ho1⟩, hb1⟩
  obtain ⟨X, hX⟩ : ∃ X, X = w1.alloc (.cells #[.slice a' n cap', .int .i64 c, .int .i64 u, .bool d] 26) := ⟨_, rfl⟩
  have HMID : Hid (Mid w X A w1.heap.size a n cap c u d fs a' cap' u d) := hide (by
    have hs := HS.out
    have hs1 := hb1.size
    have hbX : Below W.heap.size W X := by rw [hX]; exact hb1.alloc hb1.size _
    have hb1X : Below w1.heap.size w1 X := by rw [hX]; exact (Below.refl _ _).alloc (Nat.le_refl _) _
    exact { box := (hbX.block _ (by omega)).trans HC0.out, res := (hbX.block _ (by omega)).trans HC1.out, aft := by rw [hX]; exact heap_alloc_new w1 _, row0 := HR0.out, own := (ho1.later hb1X (Nat.le_refl _)).mono (by omega), blk := fun g hg => (ho1.blk g hg).2, sent0 := HA0.out, bel := HB0.out.trans (hbX.mono HB0.out.size), lo := by omega, hi := by rw [hX]; simp })
  obtain ⟨y0, y1, y2, y3, -⟩ := cells4 HMID.out.box
  rw [hX] at y0 y1 y2 y3
  clear ho1 hb1 HS HB0 HC0 HC1 HR HA HR0 HA0
  go_wp2_with fail
  rw [← hX]
  clear hX y0 y1 y2 y3
  obtain ⟨x, hx⟩ : ∃ x, w1.heap.size = x := ⟨_, rfl⟩
  rw [hx] at HMID ⊢
  clear hx
  refine (implReady_any X A HMID.out.sent a n cap fs HMID.out.row hn hz c u d).mono ?_
  rintro e w2 ⟨rfl, hb2⟩
  have HM2 := hide (HMID.out.later hb2)
  clear HMID hb2
  obtain ⟨y0, y1, y2, y3, f0, f1, f2, f3⟩ := cells4 HM2.out.box
  obtain ⟨z0, z1, z2, z3, h0, h1, h2, h3⟩ := cells4 HM2.out.aft
  have sD := HM2.out.sent.cDown
  have HM2S := hide HM2.out.sent0
  have HLO := hide HM2.out.lo
  have HCC := hide (fun W' (hs : SentIn W' A) (k : Int) (hk : 0 ≤ k ∧ k ≤ 5) => implCode_any W' A hs k hk)
  have HB1 : Hid (begC fs c u d = 5) := hide (by simp [begC, q])
  have HST : Hid (stepF fs c u d code R = (fs, 5)) := hide (by unfold stepF; rw [HB1.out]; rfl)
  have HU : Hid (begU fs c u d = u) := hide (by unfold begU; rw [if_neg]; rintro ⟨h1, -, -⟩; exact q h1)
  have HD : Hid (begD fs c u d = d) := hide (by unfold begD; rw [if_neg q])
  rw [HB1.out, show errV A 5 = .iface 124 (.pointer (some A.args)) from rfl]
  have HIS := hide (is_code' w2 A HM2.out.sent 5 1 (by omega) (by omega))
  rw [at1, at5] at HIS
  have HM3 := hide (HM2.out.setDown d)
  obtain ⟨Y, hY⟩ : ∃ Y, Y = w2.setCell ⟨x, 3, none⟩ (.bool d) := ⟨_, rfl⟩
  rw [← hY] at HM3
  cases d
  · go_wp2_with fail
    refine HIS.out.mono ?_
    rintro e w3 ⟨rfl, rfl⟩
    go_wp2_with fail
    rw [← hY]
    clear hY y0 y1 y2 y3 f0 f1 f2 f3 z0 z1 z2 z3 h0 h1 h2 h3 sD HM2
    have HBY := hide HM3.out.bel
    have HCD : Hid (∀ W', Below w.heap.size w W' → Calls Tryd.prog 48 #[.iface 124 (.pointer (some A.args))] W' fun e w' => e = .returned (.int .i64 5) ∧ W' = w') := hide (fun W' hb => HCC.out W' (HM2S.out.later hb (Nat.le_refl _)) 5 (by omega))
    obtain ⟨z0, z1, z2, z3, h0, h1, h2, h3⟩ := cells4 HM3.out.aft
    obtain ⟨r0, r1, r2, r3, k0, k1, k2, k3⟩ := cells4 HM3.out.res
    have n1 : w.heap.size + 1 ≠ x := by have := HLO.out; omega
    have n2 : x ≠ w.heap.size + 1 := by have := HLO.out; omega
    have HO := hide HM3.out.own
    go_region_with (go_at_call 48; go_loud (refine (HCD.out _ (by (repeat (first | with_reducible (refine Below.setCell ?_ (by dsimp only; omega) _) | with_reducible (refine Below.drew ?_) | with_reducible (exact HBY.out))))).mono ?_; rintro e w4 ⟨rfl, rfl⟩))
    all_goals go_wp2
    all_goals refine bodyPost_ret (v := .tuple #[.agg #[.slice a' n cap', .int .i64 c, .int .i64 u, .bool false], .int .i64 5]) (by simp [results, Tryd.results21, go_sem, *]) rfl ⟨⟨a', cap', by rw [HST.out, HU.out, HD.out, hlen], ?_⟩, ?_⟩
    all_goals first
      | (rw [HST.out, hlen]; refine FOwn.mono ?_ (Nat.le_add_right _ 2); (repeat (first | with_reducible (refine FOwn.setCell ?_ _ _ (by dsimp only; omega)) | with_reducible (refine FOwn.drewO ?_) | with_reducible (exact HO.out))); done)
      | ((repeat (first | with_reducible (refine Below.setCell ?_ (by dsimp only; omega) _) | with_reducible (refine Below.drew ?_) | with_reducible (exact HBY.out))); done)
  · go_wp2_with fail
    rw [← hY]
    clear hY y0 y1 y2 y3 f0 f1 f2 f3 z0 z1 z2 z3 h0 h1 h2 h3 sD HM2
    have HBY := hide HM3.out.bel
    have HCD : Hid (∀ W', Below w.heap.size w W' → Calls Tryd.prog 48 #[.iface 124 (.pointer (some A.args))] W' fun e w' => e = .returned (.int .i64 5) ∧ W' = w') := hide (fun W' hb => HCC.out W' (HM2S.out.later hb (Nat.le_refl _)) 5 (by omega))
    obtain ⟨z0, z1, z2, z3, h0, h1, h2, h3⟩ := cells4 HM3.out.aft
    obtain ⟨r0, r1, r2, r3, k0, k1, k2, k3⟩ := cells4 HM3.out.res
    have n1 : w.heap.size + 1 ≠ x := by have := HLO.out; omega
    have n2 : x ≠ w.heap.size + 1 := by have := HLO.out; omega
    have HO := hide HM3.out.own
    go_region_with (go_at_call 48; go_loud (refine (HCD.out _ (by (repeat (first | with_reducible (refine Below.setCell ?_ (by dsimp only; omega) _) | with_reducible (refine Below.drew ?_) | with_reducible (exact HBY.out))))).mono ?_; rintro e w4 ⟨rfl, rfl⟩))
    all_goals go_wp2
    all_goals refine bodyPost_ret (v := .tuple #[.agg #[.slice a' n cap', .int .i64 c, .int .i64 u, .bool true], .int .i64 5]) (by simp [results, Tryd.results21, go_sem, *]) rfl ⟨⟨a', cap', by rw [HST.out, HU.out, HD.out, hlen], ?_⟩, ?_⟩
    all_goals first
      | (rw [HST.out, hlen]; refine FOwn.mono ?_ (Nat.le_add_right _ 2); (repeat (first | with_reducible (refine FOwn.setCell ?_ _ _ (by dsimp only; omega)) | with_reducible (refine FOwn.drewO ?_) | with_reducible (exact HO.out))); done)
      | ((repeat (first | with_reducible (refine Below.setCell ?_ (by dsimp only; omega) _) | with_reducible (refine Below.drew ?_) | with_reducible (exact HBY.out))); done)

end Go.Proofs.YthhjomaccbpnbaaDoor
