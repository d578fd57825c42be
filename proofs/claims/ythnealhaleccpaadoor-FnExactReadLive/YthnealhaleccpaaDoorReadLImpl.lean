/-
  impl.ReadLive, under what the package's table holds.
-/
import Derived.Test.YthnealhaleccpaaDoorTakeLive
import Derived.Test.YthnealhaleccpaaDoorLiveOkImpl
import Derived.Test.YthnealhaleccpaaDoorFrameImpl
namespace Go.Proofs.YthnealhaleccpaaDoor
open Go.RowKit
open Plain

set_option maxRecDepth 100000 in
set_option maxHeartbeats 4000000 in
theorem implReadL_any (s : ByteArray) (hs : s.size ≤ 1048576) (w : World) (ht : STab w) :
    Calls Tryd.prog 13 #[.string s] w fun e w' => (∃ a n cap, e = .returned (.tuple #[.agg #[.int .i64 (rl s).1.next, .slice a n cap], .bool (rl s).2]) ∧ IOwn w' w.heap.size (.slice a n cap) (rl s).1.ids) ∧ Below w.heap.size w w' := by
  have HU := hide (implUnframe_any s hs)
  have hub := uf_bd s
  have HSH := hide (fun (h : ∃ u, liveB u = true ∧ showL u = s) => (by obtain ⟨u, hu, e⟩ := h; exact ⟨u, hu, RL_shown hu e⟩ : ∃ u, liveB u = true ∧ s.size ≠ 0 ∧ (uf s).2 = s.size ∧ failT (uf s).1 = false ∧ cntF (uf s).1 ≤ 60 ∧ failF (cntF (uf s).1) (tailF (uf s).1) = false ∧ (restF (cntF (uf s).1) (tailF (uf s).1)).size = 0 ∧ (⟨((rv (uf s).1).1 : Int), idsF (cntF (uf s).1) (tailF (uf s).1)⟩ : LiveV) = u))
  have HNO : Hid ((¬ ∃ u, liveB u = true ∧ showL u = s) → rl s = (zeroL, false)) := hide (fun h => RL_no (fun u hu e => h ⟨u, hu, e⟩))
  have HYES := hide (fun t (h : uf s = (t, s.size)) h2 h3 h4 h5 h6 => RL_yes (t := t) h h2 h3 h4 h5 h6)
  obtain ⟨t, ht0⟩ : ∃ t, (uf s).1 = t := ⟨_, rfl⟩
  obtain ⟨m, hm0⟩ : ∃ m, (uf s).2 = m := ⟨_, rfl⟩
  have HP : Hid (uf s = (t, m)) := hide (by rw [← ht0, ← hm0])
  rw [ht0, hm0] at HU hub HSH
  clear ht0 hm0
  obtain ⟨W, hW⟩ : ∃ W, W = w.alloc (.cells #[.int .i64 0, .slice none 0 0] 27) := ⟨_, rfl⟩
  have HW0 : Hid (W.heap[w.heap.size]? = some (.cells #[.int .i64 0, .slice none 0 0] 27 (0, 0))) := hide (by rw [hW]; exact heap_alloc_new w _)
  have HB0 : Hid (Below w.heap.size w W) := hide (by rw [hW]; exact (Below.refl _ w).alloc (Nat.le_refl _) _)
  have HT0 : Hid (STab W) := hide (ht.later HB0.out)
  have HE : Hid (∀ W', Below w.heap.size w W' → rl s = (zeroL, false) → (∃ a n cap, Ending.returned (.tuple #[.agg #[.int .i64 0, .slice none 0 0], .bool false]) = .returned (.tuple #[.agg #[.int .i64 (rl s).1.next, .slice a n cap], .bool (rl s).2]) ∧ IOwn W' w.heap.size (.slice a n cap) (rl s).1.ids) ∧ Below w.heap.size w W') := hide (fun W' hb e => by
    rw [e]
    exact ⟨⟨none, 0, 0, rfl, (World.ownsRow_nil _ _ _ _ : IOwn W' w.heap.size (.slice none 0 0) [])⟩, hb⟩)
  clear ht
  by_cases h2 : m = 0
  · have t2 : ((m : Int) == 0) = true := by simpa using h2
    have HV := hide (HNO.out (fun h => by obtain ⟨u, _, a1, a2, -⟩ := HSH.out h; omega))
    clear h2 hub HSH HNO HYES HP
    go_enter Tryd.func13, Tryd.ntmps13
    go_wp2_with fail
    rw [← hW]
    clear hW
    refine (HU.out _ HT0.out).mono ?_
    rintro e w1 ⟨rfl, hb1⟩
    obtain ⟨y0, y1, f0, f1⟩ := cells2 ((hb1.block _ (lt_of_block HW0.out)).trans HW0.out)
    have HB1 := hide (HB0.out.trans (hb1.mono HB0.out.size))
    clear hb1 HB0 HW0 HT0
    go_wp2
    refine bodyPost_ret (v := .tuple #[.agg #[.int .i64 0, .slice none 0 0], .bool false]) (by simp [results, Tryd.results13, go_sem, *]) rfl (HE.out _ ?_ HV.out)
    iterate 2 (refine Below.setCell ?_ (by exact Nat.le_refl _) _)
    exact HB1.out
  · have t2 : ((m : Int) == 0) = false := by simpa using h2
    by_cases h1 : m = s.size
    · have t1 : ((m : Int) != (s.size : Int)) = false := by simp [h1]
      have HP2 : Hid (uf s = (t, s.size)) := hide (by rw [HP.out, h1])
      have hsz : s.size ≠ 0 := by omega
      have HS0 := hide hsz
      clear h1 h2 HP hsz
      obtain ⟨ht2, -, -⟩ := hub
      by_cases hc : cntF t ≤ 60
      · obtain ⟨nx, hn0⟩ : ∃ nx, (rv t).1 = nx := ⟨_, rfl⟩
        obtain ⟨fl, hfl⟩ : ∃ fl, (failT t || failF (cntF t) (tailF t)) = fl := ⟨_, rfl⟩
        have HTL := hide (fun w' W' B h => takeLive_few w' W' B t h (by omega) hc)
        have hy := HYES.out t HP2.out HS0.out
        rw [hn0] at HTL hy HSH
        rw [hfl] at HTL
        have HY := hide hy
        clear hn0 hy HYES
        go_enter Tryd.func13, Tryd.ntmps13
        go_wp2_with fail
        rw [← hW]
        clear hW
        refine (HU.out _ HT0.out).mono ?_
        rintro e w1 ⟨rfl, hb1⟩
        have HX1 := hide ((hb1.block _ (lt_of_block HW0.out)).trans HW0.out)
        have HB1 := hide (HB0.out.trans (hb1.mono HB0.out.size))
        have HT1 := hide (HT0.out.later hb1)
        clear hb1 HB0 HW0 HT0
        go_wp2_with fail
        have HTK : Hid (TkAt w1 w1.heap.size t false (w1.alloc (.cells #[.string t, .bool false] 57))) := hide ⟨heap_alloc_new w1 _, Nat.le_refl _, al1 w1 _⟩
        refine (HTL.out w1 _ w1.heap.size HTK.out).mono ?_
        rintro e w2 ⟨⟨a, n, cap, rfl, ho2⟩, hk2, -⟩
        have HO2 := hide (ho2.mono (show w1.heap.size ≤ _ by simp))
        have HK2 := hide hk2
        have HX2 := hide ((hk2.bel.block _ (lt_of_block HX1.out)).trans HX1.out)
        have HT2 := hide (HT1.out.later hk2.bel)
        have HB2 := hide (HB1.out.trans (hk2.bel.mono HB1.out.size))
        have hnl := ho2.len
        rw [idsF_length] at hnl
        have hbY : Below w2.heap.size w2 (w2.alloc (.cells #[.int .i64 (nx : Int), .slice a n cap] 27)) := al1 w2 _
        have HKY := hide (hk2.later hbY)
        have HXY := hide ((hbY.block _ (lt_of_block HX2.out)).trans HX2.out)
        have HTY := hide (HT2.out.later hbY)
        have HBY := hide (HB2.out.trans (hbY.mono HB2.out.size))
        have HOY := hide (HO2.out.later hbY (Nat.le_refl _))
        have HLT : Hid (w.heap.size < w1.heap.size ∧ w1.heap.size < w2.heap.size) := hide ⟨lt_of_block HX1.out, lt_of_block hk2.row⟩
        have HNL := hide hnl
        obtain ⟨k0, k1⟩ := HKY.out.cells
        obtain ⟨x0, x1, f0, f1⟩ := cells2 HXY.out
        obtain ⟨v0, v1, -, -⟩ := cells2 (heap_alloc_new w2 (.cells #[.int .i64 (nx : Int), .slice a n cap] 27))
        clear HTL HTK HX1 HB1 HT1 ho2 hk2 hnl HO2 HK2 HX2 HT2 HB2 hbY HKY HXY
        cases fl with
        | true =>
          have HV := hide (HNO.out (fun h => by obtain ⟨u, _, _, _, a3, _, a5, -⟩ := HSH.out h; rw [a3, a5] at hfl; cases hfl))
          clear HSH HNO HY HP2 hfl
          go_wp2
          refine bodyPost_ret (v := .tuple #[.agg #[.int .i64 0, .slice none 0 0], .bool false]) (by simp [results, Tryd.results13, go_sem, *]) rfl (HE.out _ ?_ HV.out)
          iterate 2 (refine Below.setCell ?_ (by exact Nat.le_refl _) _)
          exact HBY.out
        | false =>
          have hf0 : failT t = false ∧ failF (cntF t) (tailF t) = false := Bool.or_eq_false_iff.1 hfl
          by_cases hr : (restF (cntF t) (tailF t)).size = 0
          · have e0 := nil_eq hr
            have e1 : (restF (cntF t) (tailF t)).toList.isEmpty = true := by rw [e0]; rfl
            have HIR := hide HOY.out.row
            have hn6 : n ≤ 60 := by have := HNL.out; omega
            have HV : Hid (liveB ⟨(nx : Int), idsF (cntF t) (tailF t)⟩ = true → rl s = (⟨(nx : Int), idsF (cntF t) (tailF t)⟩, true)) := hide (HY.out hf0.1 hf0.2 hr)
            have HZ : Hid (liveB ⟨(nx : Int), idsF (cntF t) (tailF t)⟩ = false → rl s = (zeroL, false)) := hide (fun hb => HNO.out (fun h => by
              obtain ⟨u, hu, _, _, _, _, _, _, a7⟩ := HSH.out h
              rw [a7, hu] at hb
              cases hb))
            have HXX := hide (x0 : (w2.alloc (.cells #[.int .i64 (nx : Int), .slice a n cap] 27)).cell? ⟨w.heap.size, 0, none⟩ = some (.int .i64 0))
            clear HSH HNO HY HP2 hfl hf0 hr
            generalize idsF (cntF t) (tailF t) = ids at *
            generalize restF (cntF t) (tailF t) = rest at *
            go_wp2_with fail
            refine (implLive_any _ (nx : Int) a n cap ids HIR.out (by omega)).mono ?_
            rintro e w6 ⟨rfl, hb6⟩
            have HB6 := hide (HBY.out.trans (hb6.mono HBY.out.size))
            have HO6 := hide (HOY.out.later hb6 (Nat.le_refl _))
            have q0 := (hb6.cell (p := ⟨w.heap.size, 0, none⟩) (by have := HLT.out; simp; omega)).trans x0
            have q1 := (hb6.cell (p := ⟨w.heap.size, 1, none⟩) (by have := HLT.out; simp; omega)).trans x1
            have q2 := (hb6.frozen (p := ⟨w.heap.size, 0, none⟩) (by have := HLT.out; simp; omega)).trans f0
            have q3 := (hb6.frozen (p := ⟨w.heap.size, 1, none⟩) (by have := HLT.out; simp; omega)).trans f1
            have q4 := (hb6.cell (p := ⟨w2.heap.size, 0, none⟩) (by simp)).trans v0
            have q5 := (hb6.cell (p := ⟨w2.heap.size, 1, none⟩) (by simp)).trans v1
            clear hb6 HBY HOY x0 x1 f0 f1 v0 v1 k0 k1 HIR HTY HXX
            cases hb : liveB ⟨(nx : Int), ids⟩ with
            | true =>
              have HF := hide (HV.out hb)
              clear hb HV HZ
              go_wp2
              refine bodyPost_ret (v := .tuple #[.agg #[.int .i64 (nx : Int), .slice a n cap], .bool true]) (by simp [results, Tryd.results13, go_sem, *]) rfl ?_
              rw [HF.out]
              refine ⟨⟨a, n, cap, rfl, ?_⟩, ?_⟩
              · have hl := HLT.out
                refine IOwn.mono ?_ (show w.heap.size ≤ w1.heap.size by omega)
                iterate 2 (refine IOwn.setCell ?_ _ _ (by dsimp only; omega))
                exact HO6.out
              · iterate 2 (refine Below.setCell ?_ (by exact Nat.le_refl _) _)
                exact HB6.out
            | false =>
              have HF := hide (HZ.out hb)
              clear hb HV HZ
              go_wp2
              refine bodyPost_ret (v := .tuple #[.agg #[.int .i64 0, .slice none 0 0], .bool false]) (by simp [results, Tryd.results13, go_sem, *]) rfl (HE.out _ ?_ HF.out)
              iterate 2 (refine Below.setCell ?_ (by exact Nat.le_refl _) _)
              exact HB6.out
          · have HV := hide (HNO.out (fun h => by obtain ⟨u, _, _, _, _, _, _, a6, -⟩ := HSH.out h; exact hr a6))
            have e0 := nil_ne hr
            have e1 : (restF (cntF t) (tailF t)).toList.isEmpty = false := by cases hq : (restF (cntF t) (tailF t)).toList with | nil => exact absurd hq e0 | cons x r => rfl
            clear HSH HNO HY HP2 hfl hf0 hr
            go_wp2
            refine bodyPost_ret (v := .tuple #[.agg #[.int .i64 0, .slice none 0 0], .bool false]) (by simp [results, Tryd.results13, go_sem, *]) rfl (HE.out _ ?_ HV.out)
            iterate 2 (refine Below.setCell ?_ (by exact Nat.le_refl _) _)
            exact HBY.out
      · have HV := hide (HNO.out (fun h => by obtain ⟨u, _, _, _, _, a4, -⟩ := HSH.out h; exact hc a4))
        have HTL := hide (fun w' W' B h => takeLive_many w' W' B t h (by omega) (by omega))
        clear HSH HNO HYES HP2
        go_enter Tryd.func13, Tryd.ntmps13
        go_wp2_with fail
        rw [← hW]
        clear hW
        refine (HU.out _ HT0.out).mono ?_
        rintro e w1 ⟨rfl, hb1⟩
        have HX1 := hide ((hb1.block _ (lt_of_block HW0.out)).trans HW0.out)
        have HB1 := hide (HB0.out.trans (hb1.mono HB0.out.size))
        clear hb1 HB0 HW0 HT0
        go_wp2_with fail
        have HTK : Hid (TkAt w1 w1.heap.size t false (w1.alloc (.cells #[.string t, .bool false] 57))) := hide ⟨heap_alloc_new w1 _, Nat.le_refl _, al1 w1 _⟩
        refine (HTL.out w1 _ w1.heap.size HTK.out).mono ?_
        rintro e w2 ⟨rfl, hk2, -⟩
        have hbY : Below w2.heap.size w2 (w2.alloc (.cells #[.int .i64 0, .slice none 0 0] 27)) := al1 w2 _
        have hHX2 := (hk2.bel.block _ (lt_of_block HX1.out)).trans HX1.out
        have HBY := hide ((HB1.out.trans (hk2.bel.mono HB1.out.size)).trans (hbY.mono (HB1.out.trans (hk2.bel.mono HB1.out.size)).size))
        obtain ⟨k0, k1⟩ := (hk2.later hbY).cells
        obtain ⟨x0, x1, f0, f1⟩ := cells2 ((hbY.block _ (lt_of_block hHX2)).trans hHX2)
        clear HTL HTK HX1 HB1 hk2 hbY hHX2
        go_wp2
        refine bodyPost_ret (v := .tuple #[.agg #[.int .i64 0, .slice none 0 0], .bool false]) (by simp [results, Tryd.results13, go_sem, *]) rfl (HE.out _ ?_ HV.out)
        iterate 2 (refine Below.setCell ?_ (by exact Nat.le_refl _) _)
        exact HBY.out
    · have t1 : ((m : Int) != (s.size : Int)) = true := by simp; omega
      have HV := hide (HNO.out (fun h => by obtain ⟨u, _, _, a2, -⟩ := HSH.out h; exact h1 a2))
      clear h1 h2 hub HSH HNO HYES HP
      go_enter Tryd.func13, Tryd.ntmps13
      go_wp2_with fail
      rw [← hW]
      clear hW
      refine (HU.out _ HT0.out).mono ?_
      rintro e w1 ⟨rfl, hb1⟩
      obtain ⟨y0, y1, f0, f1⟩ := cells2 ((hb1.block _ (lt_of_block HW0.out)).trans HW0.out)
      have HB1 := hide (HB0.out.trans (hb1.mono HB0.out.size))
      clear hb1 HB0 HW0 HT0
      go_wp2
      refine bodyPost_ret (v := .tuple #[.agg #[.int .i64 0, .slice none 0 0], .bool false]) (by simp [results, Tryd.results13, go_sem, *]) rfl (HE.out _ ?_ HV.out)
      iterate 2 (refine Below.setCell ?_ (by exact Nat.le_refl _) _)
      exact HB1.out

end Go.Proofs.YthnealhaleccpaaDoor
