/-
  impl.Power.
-/
import Derived.Test.YthfpcjamlbkgfaaLeft
import Derived.Test.YthfpcjamlbkgfaaCMid
namespace Go.Proofs.Ythfpcjamlbkgfaa
open Go.RowKit
open Plain

set_option maxRecDepth 100000 in
set_option maxHeartbeats 4000000 in
theorem implPow_any (w : World) (a : Option Addr) (n cap : Nat) (fs : List FileV) (ha : a = none ∨ ∃ g, a = some ⟨g, 0, none⟩) (hr : FRow w 0 a n fs) (hn : n ≤ 1048576) (hz : szFs fs ≤ 1048576) (c u : Int) (d : Bool) (b : Option Addr) (m capb : Nat) (zs : List Int) (hzr : IRow w 0 b m zs) (hm : m ≤ 1099511627776) :
    Calls Try.prog 10 #[.agg #[.slice a n cap, .int .i64 c, .int .i64 u, .bool d], .slice b m capb] w fun e w' => (∃ a' cap', e = .returned (.agg #[.slice a' n cap', .int .i64 c, .int .i64 (powU fs c u), .bool (powD fs c u d)]) ∧ FOwn w' w.heap.size (.slice a' n cap') (powF fs c u zs)) ∧ Below w.heap.size w w' := by
  have hfn := hr.len
  obtain ⟨W, hW⟩ : ∃ W, W = (w.alloc (.cells #[.slice a n cap, .int .i64 c, .int .i64 u, .bool d] 26)).alloc (.cells #[.slice none 0 0, .int .i64 0, .int .i64 0, .bool false] 26) := ⟨_, rfl⟩
  have hA := alloc2 w (.cells #[.slice a n cap, .int .i64 c, .int .i64 u, .bool d] 26) (.cells #[.slice none 0 0, .int .i64 0, .int .i64 0, .bool false] 26)
  rw [← hW] at hA
  have HR := hide (hr.later hA.2.1 (Nat.le_refl _))
  have HR0 := hide hr
  have HZ := hide hzr
  obtain ⟨y0, y1, y2, y3, -⟩ := cells4 hA.2.2.1
  rw [hW] at y0 y1 y2 y3
  clear hA hr hzr
  go_enter Try.func10, Try.ntmps10
  go_wp2_with fail
  rw [← hW]
  clear y0 y1 y2 y3
  refine (implCopy_any W a n cap fs ha HR.out hn c u d).mono ?_
  rintro e w2 ⟨⟨a', cap', rfl, ho2⟩, hb2⟩
  obtain ⟨X, hX⟩ : ∃ X, X = w2.alloc (.cells #[.slice a' n cap', .int .i64 c, .int .i64 u, .bool d] 26) := ⟨_, rfl⟩
  have HM : Hid (CMid w X w2.heap.size a n cap c u d fs a' cap' u d fs) := hide (by subst hW; subst hX; exact CMid.start HR0.out hb2 ho2)
  have y := cells4 HM.out.box
  rw [hX] at y
  obtain ⟨y0, y1, y2, y3, -⟩ := y
  clear hW hb2 ho2 HR
  go_wp2_with fail
  clear y0 y1 y2 y3
  rw [← hX]
  clear hX
  obtain ⟨x, hx⟩ : ∃ x, w2.heap.size = x := ⟨_, rfl⟩
  rw [hx] at HM ⊢
  clear hx
  refine (implOk_any X a n cap fs HM.out.row (by omega) (by omega) c u d).mono ?_
  rintro e w3 ⟨rfl, hb3⟩
  have HM3 := hide (HM.out.later hb3)
  clear hb3 HM
  have hlo := HM3.out.lo
  by_cases q : diskOk fs c u = true
  · have HV : Hid (powF fs c u zs = powL zs 0 fs ∧ powU fs c u = -1 ∧ powD fs c u d = false) := hide (by unfold powF powU powD; rw [if_pos q, if_pos q, if_pos q]; exact ⟨rfl, rfl, rfl⟩)
    have HSF := hide (safe_of q)
    rw [q]
    obtain ⟨y0, y1, y2, y3, -⟩ := cells4 HM3.out.box
    go_wp2
    clear y0 y1 y2 y3
    go_loopw [17] (fun i wr => ∃ k : Nat, k ≤ n ∧ i = .int .i64 k ∧ Hid (CMid w wr x a n cap c u d fs a' cap' u d (powK zs fs k))) (fun i _ => n - (intOf i).toNat)
    case atStart => exact ⟨0, by omega, rfl, hide (by rw [powK_zero]; exact HM3.out)⟩
    case round =>
      clear HM3
      obtain ⟨k, hk, rfl, HM⟩ := hrel
      by_cases hlt : k < n
      · have hkf : k < fs.length := by omega
        obtain ⟨b1, off, hab, -, hbw, e1, e2, e3⟩ := HM.out.row.cells k hkf
        subst hab
        obtain ⟨g, hg⟩ : ∃ g, a' = some ⟨g, 0, none⟩ := by
          rcases HM.out.own.2 with ⟨e, h0⟩ | ⟨g, c, cur, e, _⟩
          · have := HM.out.own.len
            simp only [Value.slice.injEq] at e
            omega
          · simp only [Value.slice.injEq] at e
            exact ⟨g, e.1⟩
        subst hg
        have hkn : (k : Int) < (n : Int) := by omega
        go_wp2
        obtain ⟨Y, hY⟩ : ∃ Y, Y = wr.alloc (.cells #[.string (fs[k]).name, .string (fs[k]).text, .int .i64 (fs[k]).safe] 35) := ⟨_, rfl⟩
        rw [← hY]
        clear e1 e2 e3
        obtain ⟨fb, hfb⟩ : ∃ fb, wr.heap.size = fb := ⟨_, rfl⟩
        have hfbY : fb < Y.heap.size := by rw [hY, ← hfb]; simp
        have HMY : Hid (CMid w Y x (some ⟨b1, off, none⟩) n cap c u d fs (some ⟨g, 0, none⟩) cap' u d (powK zs fs k)) := hide (by rw [hY]; exact HM.out.later ((Below.refl _ _).alloc (Nat.le_refl _) _))
        have HFY : Hid (Y.heap[fb]? = some (.cells #[.string (fs[k]).name, .string (fs[k]).text, .int .i64 (fs[k]).safe] 35 (0, 0))) := hide (by rw [hY, ← hfb]; exact heap_alloc_new wr _)
        rw [hfb]
        clear hY hfb HM hbw
        have htr := tearAt_nonneg zs k
        have HSK := hide (HSF.out k hkf)
        have htx : (fs[k]).text.size ≤ 1048576 := Nat.le_trans (text_le fs k hkf) hz
        obtain ⟨T, hT⟩ : ∃ T, tearAt zs k = T := ⟨_, rfl⟩
        have HP : Hid (∀ w', Below Y.heap.size Y w' → w'.cell? ⟨x, 0, none⟩ = some (.slice (some ⟨g, 0, none⟩) n cap') ∧ w'.cell? ⟨fb, 0, none⟩ = some (.string (fs[k]).name) ∧ w'.cell? ⟨fb, 1, none⟩ = some (.string (fs[k]).text) ∧ w'.cell? ⟨fb, 2, none⟩ = some (.int .i64 (fs[k]).safe) ∧ w'.cell? ⟨g, k * 3, none⟩ = some (.string (fs[k]).name) ∧ w'.cell? ⟨g, k * 3 + 1, none⟩ = some (.string (fs[k]).text) ∧ w'.cell? ⟨g, k * 3 + 2, none⟩ = some (.int .i64 (fs[k]).safe) ∧ w'.frozen? ⟨g, k * 3, none⟩ = false ∧ w'.frozen? ⟨g, k * 3 + 1, none⟩ = false ∧ w'.frozen? ⟨g, k * 3 + 2, none⟩ = false ∧ Hid (Below Y.heap.size Y w')) := hide (fun w' hb => by
          have hm' := HMY.out.later hb
          obtain ⟨q0, q1, q2⟩ := cells3 ((hb.block _ hfbY).trans HFY.out)
          obtain ⟨c0, -⟩ := cells4 hm'.aft
          have hgk := powK_get zs fs k hkf
          have hlk : k < (powK zs fs k).length := by rw [powK_length zs fs k (by omega)]; exact hkf
          rw [List.getElem?_eq_getElem hlk] at hgk
          injection hgk with hgk
          obtain ⟨b', o', r0, -, -, r1, r2, r3⟩ := hm'.own.row.cells k hlk
          simp only [Option.some.injEq, Addr.mk.injEq] at r0
          obtain ⟨rfl, rfl, -⟩ := r0
          rw [Nat.zero_add, hgk] at r1 r2 r3
          have hw := hm'.own
          unfold FOwn at hw
          rw [hm'.own.len] at hw
          exact ⟨c0, q0, q1, q2, r1, r2, r3, hw.frozenAt _, hw.frozenAt _, hw.frozenAt _, hide hb⟩)
        have HCT : Hid (∀ w', Hid (Below Y.heap.size Y w') → Calls Try.prog 36 #[.slice b m capb, .int .i64 k] w' fun e w'' => e = .returned (.int .i64 T) ∧ w' = w'') := hide (fun w' hb => by
          rw [← hT]
          exact implTear_any w' b m capb zs (HZ.out.later (HMY.out.later hb.out).bel (Nat.le_refl _)) hm k (by omega))
        have HCL : Hid (∀ w', Hid (Below Y.heap.size Y w') → Calls Try.prog 35 #[.agg #[.string (fs[k]).name, .string (fs[k]).text, .int .i64 (fs[k]).safe], .int .i64 T] w' fun e w'' => e = .returned (.agg #[.string (leftF (fs[k]) T).name, .string (leftF (fs[k]) T).text, .int .i64 (leftF (fs[k]) T).safe]) ∧ Below Y.heap.size Y w'') := hide (fun w' hb =>
          (implLeft_any (fs[k]) HSK.out htx T (by rw [← hT]; exact htr) w').mono (fun e w'' ⟨h1, h2⟩ => ⟨h1, hb.out.trans (h2.mono hb.out.size)⟩))
        have S0 := HP.out Y.drew (Below.refl _ _).drew
        have HT := hide hT
        clear hT htr htx HSK
        obtain ⟨c0, q0, q1, q2, r1, r2, r3, f1, f2, f3, HBD⟩ := S0
        go_region_with (first
          | (go_at_call 36; refine (HCT.out _ HBD).mono ?_; rintro e w4 ⟨rfl, rfl⟩)
          | (go_at_call 35; refine (HCL.out _ HBD).mono ?_; rintro e w5 ⟨rfl, hb5⟩; obtain ⟨c0', q0', q1', q2', r1', r2', r3', f1', f2', f3', HB5⟩ := HP.out w5 hb5; clear hb5))
        all_goals
          have HM5 : Hid (CMid w (put3 w5 g k (leftF (fs[k]) T)) x (some ⟨b1, off, none⟩) n cap c u d fs (some ⟨g, 0, none⟩) cap' u d (powK zs fs (k + 1))) := hide (by
            have h := (HMY.out.later HB5.out).put (g := g) rfl k (leftF (fs[k]) T) hlt
            rw [← HT.out, powK_succ zs fs k hkf] at h
            rw [← HT.out]
            exact h)
          clear c0 q0 q1 q2 r1 r2 r3 f1 f2 f3 HBD c0' q0' q1' q2' r1' r2' r3' f1' f2' f3' HB5 HP HCT HCL HMY HFY HT
          go_wp2
          go_roundw
          case rel => exact ⟨k + 1, by omega, by go_num, HM5⟩
          case measure => first | (simp [intOf]; done) | (simp [intOf]; omega)
      · obtain rfl : k = n := by omega
        have HMK : Hid (CMid w wr x a k cap c u d fs a' cap' u d (powL zs 0 fs)) := hide (by
          have h := HM.out
          rw [← hfn, powK_all, hfn] at h
          exact h)
        clear HM
        obtain ⟨b0, b1, b2, b3, k0, k1, k2, k3⟩ := cells4 HMK.out.res
        obtain ⟨c0, c1, c2, c3, l0, l1, l2, l3⟩ := cells4 HMK.out.aft
        go_wp2
        have HF := hide ((HMK.out.setFuel (-1)).setDown false)
        refine bodyPost_ret (v := .agg #[.slice a' k cap', .int .i64 c, .int .i64 (-1), .bool false]) (by simp [results, Try.results10, go_sem, *]) rfl ⟨⟨a', cap', by rw [HV.out.2.1, HV.out.2.2], ?_⟩, ?_⟩
        · rw [HV.out.1]
          exact (HF.out.fin _ _ _ _).1
        · exact (HF.out.fin _ _ _ _).2
  · have q' : diskOk fs c u = false := by simpa using q
    have HV : Hid (powF fs c u zs = fs ∧ powU fs c u = u ∧ powD fs c u d = d) := hide (by unfold powF powU powD; rw [if_neg q, if_neg q, if_neg q]; exact ⟨rfl, rfl, rfl⟩)
    rw [q']
    obtain ⟨b0, b1, b2, b3, k0, k1, k2, k3⟩ := cells4 HM3.out.res
    obtain ⟨c0, c1, c2, c3, l0, l1, l2, l3⟩ := cells4 HM3.out.aft
    go_wp2
    refine bodyPost_ret (v := .agg #[.slice a' n cap', .int .i64 c, .int .i64 u, .bool d]) (by simp [results, Try.results10, go_sem, *]) rfl ⟨⟨a', cap', by rw [HV.out.2.1, HV.out.2.2], ?_⟩, ?_⟩
    · rw [HV.out.1]
      exact (HM3.out.fin _ _ _ _).1
    · exact (HM3.out.fin _ _ _ _).2

end Go.Proofs.Ythfpcjamlbkgfaa
