/-
  impl.ReadHint, under what the package's table holds.
-/
import Derived.Test.YtimpokbcfjgdaaaDoorMTakeHint
import Derived.Test.YtimpokbcfjgdaaaDoorMHintOkI
import Derived.Test.YtimpokbcfjgdaaaDoorMCrcImpl
namespace Go.Proofs.YtimpokbcfjgdaaaDoor
open Go.RowKit
open Plain

/-- The answer's block, the taker's, the hint's; the entries in a row of the call's own; the table stands. -/
structure RIAt (w : World) (B V : Nat) (s : ByteArray) (f : Bool) (x m : Int) (a : Option Addr) (n cap : Nat) (l : List EntV) (W : World) : Prop where
  res : W.heap[w.heap.size]? = some (.cells #[.int .i64 0, .int .i64 0, .slice none 0 0] 29 (0, 0))
  tk : W.heap[B]? = some (.cells #[.string s, .bool f] 63 (0, 0))
  row : W.heap[V]? = some (.cells #[.int .i64 x, .int .i64 m, .slice a n cap] 29 (0, 0))
  own : entSh.Own 41 W (w.heap.size + 1) (.slice a n cap) l
  tab : STab W
  bel : Below w.heap.size w W
theorem RIAt.later {w : World} {B V : Nat} {s : ByteArray} {f : Bool} {x m : Int} {a : Option Addr} {n cap : Nat} {l : List EntV} {W W' : World} (h : RIAt w B V s f x m a n cap l W) (hb : Below W.heap.size W W') : RIAt w B V s f x m a n cap l W' :=
  ⟨(hb.block _ (lt_of_block h.res)).trans h.res, (hb.block _ (lt_of_block h.tk)).trans h.tk, (hb.block _ (lt_of_block h.row)).trans h.row, h.own.later hb (Nat.le_refl _), h.tab.later hb, h.bel.trans (hb.mono h.bel.size)⟩
theorem cells2k {w : World} {B : Nat} {x0 x1 : Value} {ty : TypeId} (h : w.heap[B]? = some (.cells #[x0, x1] ty (0, 0))) : w.cell? ⟨B, 0, none⟩ = some x0 ∧ w.cell? ⟨B, 1, none⟩ = some x1 := by
  refine ⟨?_, ?_⟩ <;> rw [cell_of_row w B _ _ _ _ h] <;> rfl
theorem toList_nil {a : ByteArray} (h : a.size = 0) : a.toList.isEmpty = true := by
  rw [ByteArray.toList_eq, empty_of h]
  rfl
theorem toList_some {a : ByteArray} (h : ¬ a.size = 0) : a.toList.isEmpty = false := by
  cases q : a.toList.isEmpty with
  | false => rfl
  | true =>
    rw [ByteArray.toList_eq, List.isEmpty_iff] at q
    refine absurd ?_ h
    show a.data.size = 0
    rw [← Array.length_toList, q]
    rfl
theorem failH_f (f : Bool) (t : ByteArray) : failH f t = (f || failH false t) := by
  unfold failH
  cases f <;> simp
theorem clean_of {s : ByteArray} (h : failE (cntH (sumR s)) (failH (false || sumF s) (sumR s)) (tailH (sumR s)) = false) (hc : cntH (sumR s) ≤ 20) (hr : (restE (cntH (sumR s)) (tailH (sumR s))).size = 0) : CleanH s := by
  obtain ⟨h1, -⟩ := failE_back _ _ _ h
  rw [failH_f, Bool.or_eq_false_iff, Bool.false_or] at h1
  rw [failH_f, Bool.false_or, h1.1, h1.2] at h
  exact ⟨h1.1, h1.2, hc, h, hr⟩
theorem unclean_of {s : ByteArray} (h : failE (cntH (sumR s)) (failH (false || sumF s) (sumR s)) (tailH (sumR s)) = true) : ¬ CleanH s := fun hc => by
  obtain ⟨c1, c2, c3, c4, c5⟩ := hc
  rw [c1, Bool.or_false, c2, c4] at h
  cases h

set_option maxRecDepth 100000 in
set_option maxHeartbeats 4000000 in
theorem implReadH_any (s : ByteArray) (hs : s.size ≤ 1048576) (w : World) (ht : STab w) :
    Calls Tryd.prog 11 #[.string s] w fun e w' => (∃ a n cap, e = .returned (.tuple #[.agg #[.int .i64 (rh s).1.size, .int .i64 (rh s).1.mark, .slice a n cap], .bool (rh s).2]) ∧ entSh.Own 41 w' w.heap.size (.slice a n cap) (rh s).1.list) ∧ Below w.heap.size w w' := by
  obtain ⟨W, hW⟩ : ∃ W, W = w.alloc (.cells #[.int .i64 0, .int .i64 0, .slice none 0 0] 29) := ⟨_, rfl⟩
  have HW0 : Hid (W.heap[w.heap.size]? = some (.cells #[.int .i64 0, .int .i64 0, .slice none 0 0] 29 (0, 0))) := hide (by rw [hW]; exact heap_alloc_new w _)
  have HB0 : Hid (Below w.heap.size w W) := hide (by rw [hW]; exact (Below.refl _ w).alloc (Nat.le_refl _) _)
  have HT0 : Hid (STab W) := hide (ht.later HB0.out)
  have HE : Hid (∀ W', Below w.heap.size w W' → rh s = (zeroH, false) → (∃ a n cap, Ending.returned (.tuple #[.agg #[.int .i64 0, .int .i64 0, .slice none 0 0], .bool false]) = .returned (.tuple #[.agg #[.int .i64 (rh s).1.size, .int .i64 (rh s).1.mark, .slice a n cap], .bool (rh s).2]) ∧ entSh.Own 41 W' w.heap.size (.slice a n cap) (rh s).1.list) ∧ Below w.heap.size w W') := hide (fun W' hb e => by
    rw [e]
    exact ⟨⟨none, 0, 0, rfl, Shape.Own.nil entSh 41 W' _⟩, hb⟩)
  have HUN := hide (rh_unclean (s := s))
  have HWR := hide (rh_wrong (s := s))
  have HSU := hide (rh_sum (s := s))
  have HYE := hide (rh_yes (s := s))
  have HCL := hide (clean_of (s := s))
  have HUC := hide (unclean_of (s := s))
  have HNC : Hid (¬ cntH (sumR s) ≤ 20 → rh s = (zeroH, false)) := hide (fun h => rh_unclean (fun hc => h hc.2.2.1))
  have HNR0 : Hid ((restE (cntH (sumR s)) (tailH (sumR s))).size ≠ 0 → rh s = (zeroH, false)) := hide (fun h => rh_unclean (fun hc => h hc.2.2.2.2))
  have hsr : (sumR s).size ≤ s.size := by unfold sumR; split <;> first | omega | (rw [ba_len _ _ _ (by omega) (Nat.le_refl _)]; omega)
  have hsv := sumV_bd s
  have hcr := crcN_le (sumR s)
  have HHO : Hid (hintOf (sumR s) = ⟨((rv (sumR s)).1 : Nat), ((rv (numT (sumR s))).1 : Nat), entsF (cntH (sumR s)) (tailH (sumR s))⟩) := hide rfl
  have hWs : W.heap.size = w.heap.size + 1 := by rw [hW]; simp
  have HTK : Hid (TkAt W (w.heap.size + 1) s false (W.alloc (.cells #[.string s, .bool false] 63))) := hide (by rw [← hWs]; exact ⟨heap_alloc_new W _, Nat.le_refl _, al1 W _⟩)
  have HLT : Hid (w.heap.size < w.heap.size + 1) := hide (Nat.lt_succ_self _)
  have HWW := hide hWs
  clear hWs
  clear ht
  have HSR := hide hsr
  have HSV := hide hsv
  have HCR := hide hcr
  clear hsr hsv hcr
  by_cases hc : cntH (sumR s) ≤ 20
  · have HCC := hide hc
    clear hc
    obtain ⟨B, hB⟩ : ∃ B, w.heap.size + 1 = B := ⟨_, rfl⟩
    rw [hB] at HTK HLT HWW
    go_enter Tryd.func11, Tryd.ntmps11
    go_wp2_with fail
    rw [← hW]
    clear hW hB
    refine (tkSum_g W _ B s false HTK.out hs).mono ?_
    rintro e w1 ⟨rfl, h1, g1⟩
    have HA1 := hide h1
    have HX1 := hide ((h1.bel.block _ (lt_of_block HW0.out)).trans HW0.out)
    have HB1 := hide (HB0.out.trans (h1.bel.mono HB0.out.size))
    have HT1 := hide (HT0.out.later h1.bel)
    obtain ⟨y0, y1⟩ := h1.cells
    have HB0' := hide HB0.out
    have HT0' := hide HT0.out
    clear h1 g1 HTK HW0 HB0 HT0
    go_wp2_with fail
    generalize sumR s = t at *
    generalize (false || sumF s) = F0 at *
    generalize sumV s = sv at *
    refine (takeHint_few W w1 B t F0 HA1.out (by have := HSR.out; omega) HCC.out).mono ?_
    rintro e w2 ⟨⟨a, n, cap, rfl, ho2⟩, hk2, hold⟩
    have hl1 : B < w1.heap.size := lt_of_block HA1.out.row
    have hX2 := (hold _ (lt_of_block HX1.out) (by have := HLT.out; omega)).trans HX1.out
    obtain ⟨x, hx⟩ : ∃ x : Int, (((rv t).1 : Nat) : Int) = x := ⟨_, rfl⟩
    obtain ⟨m, hm⟩ : ∃ m : Int, (((rv (numT t)).1 : Nat) : Int) = m := ⟨_, rfl⟩
    rw [hx, hm] at HHO ⊢
    have hb2 : Below w.heap.size w w2 := (HB0'.out).trans (hk2.bel.mono HB0'.out.size)
    have HA2 : Hid (RIAt w B w2.heap.size (restE (cntH t) (tailH t)) (failE (cntH t) (failH F0 t) (tailH t)) x m a n cap (entsF (cntH t) (tailH t)) (w2.alloc (.cells #[.int .i64 x, .int .i64 m, .slice a n cap] 29))) := hide (by
      have hb := al1 w2 (.cells #[.int .i64 x, .int .i64 m, .slice a n cap] 29)
      have hs2 := HT0'.out.later hk2.bel
      refine ⟨(hb.block _ (lt_of_block hX2)).trans hX2, (hb.block _ (lt_of_block hk2.row)).trans hk2.row, heap_alloc_new w2 _, (ho2.mono (by have := HLT.out; omega)).later hb (Nat.le_refl _), hs2.later hb, hb2.trans (hb.mono hb2.size)⟩)
    have hnl := ho2.len
    rw [entsF_length] at hnl
    have HNL := hide hnl
    clear ho2 hk2 hold hl1 hX2 hb2 hnl hx hm HA1 HX1 HB1 HT1 HB0' HT0' y0 y1 HWW
    obtain ⟨W3, hW3⟩ : ∃ W3, W3 = w2.alloc (.cells #[.int .i64 x, .int .i64 m, .slice a n cap] 29) := ⟨_, rfl⟩
    rw [← hW3] at HA2
    have hV1 : w2.heap.size = W3.heap.size - 1 := by rw [hW3]; simp
    have HHB : Hid (hintB (hintOf t) = hintB ⟨x, m, entsF (cntH t) (tailH t)⟩) := hide (by rw [HHO.out])
    have HYV : Hid (CleanH s → hintB (hintOf t) = true → crcN t = sv → rh s = (⟨x, m, entsF (cntH t) (tailH t)⟩, true)) := hide (fun h1 h2 h3 => by rw [HYE.out h1 h2 h3, HHO.out])
    clear HYE HHO hV1
    obtain ⟨xs, hxs⟩ : ∃ xs, entsF (cntH t) (tailH t) = xs := ⟨_, rfl⟩
    rw [hxs] at HHB HYV HA2
    obtain ⟨rest, hrest⟩ : ∃ rest, restE (cntH t) (tailH t) = rest := ⟨_, rfl⟩
    have HNR := HNR0
    rw [hrest] at HCL HA2 HNR
    obtain ⟨fl, hfl⟩ : ∃ fl, failE (cntH t) (failH F0 t) (tailH t) = fl := ⟨_, rfl⟩
    rw [hfl] at HCL HUC HA2
    clear hxs hrest hfl
    obtain ⟨t0, t1⟩ := cells2k HA2.out.tk
    obtain ⟨x0, x1, x2, f0, f1, f2⟩ := cells3h HA2.out.res
    obtain ⟨v0, v1, v2, -⟩ := cells3h HA2.out.row
    cases fl with
    | true =>
      have HV := hide (HUN.out (HUC.out rfl))
      clear HUN HUC HCL HYV HHB
      rw [hW3] at t0 t1 x0 x1 x2 f0 f1 f2 v0 v1 v2
      go_wp2
      rw [← hW3]
      refine bodyPost_ret (v := .tuple #[.agg #[.int .i64 0, .int .i64 0, .slice none 0 0], .bool false]) (by simp [results, Tryd.results11, go_sem, *]) rfl (HE.out _ ?_ HV.out)
      iterate 3 (refine Below.setCell ?_ (by exact Nat.le_refl _) _)
      exact HA2.out.bel
    | false =>
      by_cases hr : rest.size = 0
      · have e1 : rest.toList.isEmpty = true := toList_nil hr
        have HCN := hide (HCL.out rfl HCC.out hr)
        have HO := hide (implHintOk_any W3 x m a n cap xs HA2.out.own.row (by have := HNL.out; have := HCC.out; omega))
        clear hr HUN HUC HCL
        rw [hW3] at t0 t1 x0 x1 x2 f0 f1 f2 v0 v1 v2
        cases hb : hintB ⟨x, m, xs⟩ with
        | false =>
          have HV := hide (HWR.out (by rw [HHB.out, hb]))
          rw [hb] at HO
          clear hb HHB HYV HSU
          go_wp2_with fail
          rw [← hW3]
          refine HO.out.mono ?_
          rintro e w6 ⟨rfl, hb6⟩
          have HA6 := hide (HA2.out.later hb6)
          clear hb6 HO HA2 hW3 t0 t1 x0 x1 x2 f0 f1 f2 v0 v1 v2
          obtain ⟨x0, x1, x2, f0, f1, f2⟩ := cells3h HA6.out.res
          go_wp2
          refine bodyPost_ret (v := .tuple #[.agg #[.int .i64 0, .int .i64 0, .slice none 0 0], .bool false]) (by simp [results, Tryd.results11, go_sem, *]) rfl (HE.out _ ?_ HV.out)
          iterate 3 (refine Below.setCell ?_ (by exact Nat.le_refl _) _)
          exact HA6.out.bel
        | true =>
          rw [hb] at HO
          have HB3 := hide (by rw [HHB.out, hb] : hintB (hintOf t) = true)
          have HCRC := hide (fun W' h => implCrc_any t W' (by have := HSR.out; omega) h)
          clear hb HHB HWR
          go_wp2_with fail
          rw [← hW3]
          refine HO.out.mono ?_
          rintro e w6 ⟨rfl, hb6⟩
          have HA6 := hide (HA2.out.later hb6)
          clear hb6 HO HA2 hW3 t0 t1 x0 x1 x2 f0 f1 f2 v0 v1 v2
          go_wp2_with fail
          refine (HCRC.out w6 HA6.out.tab).mono ?_
          rintro e w7 ⟨rfl, hb7⟩
          have HA7 := hide (HA6.out.later hb7)
          clear hb7 HCRC HA6
          obtain ⟨x0, x1, x2, f0, f1, f2⟩ := cells3h HA7.out.res
          obtain ⟨v0, v1, v2, -⟩ := cells3h HA7.out.row
          by_cases hq : crcN t = sv
          · have q1 : ((crcN t : Int) != (sv : Int)) = false := by simp [hq]
            have HV := hide (HYV.out HCN.out HB3.out hq)
            clear hq HYV HSU
            generalize crcN t = cr at *
            go_wp2
            refine bodyPost_ret (v := .tuple #[.agg #[.int .i64 x, .int .i64 m, .slice a n cap], .bool true]) (by simp [results, Tryd.results11, go_sem, *]) rfl ?_
            rw [HV.out]
            refine ⟨⟨a, n, cap, rfl, ?_⟩, ?_⟩
            · refine Shape.Own.mono ?_ (Nat.le_succ w.heap.size)
              iterate 3 (refine Shape.Own.setCell ?_ _ _ (by dsimp only; omega))
              exact HA7.out.own
            · iterate 3 (refine Below.setCell ?_ (by exact Nat.le_refl _) _)
              exact HA7.out.bel
          · have q1 : ((crcN t : Int) != (sv : Int)) = true := by simp; omega
            have HV := hide (HSU.out hq)
            clear hq HYV HSU
            generalize crcN t = cr at *
            go_wp2
            refine bodyPost_ret (v := .tuple #[.agg #[.int .i64 0, .int .i64 0, .slice none 0 0], .bool false]) (by simp [results, Tryd.results11, go_sem, *]) rfl (HE.out _ ?_ HV.out)
            iterate 3 (refine Below.setCell ?_ (by exact Nat.le_refl _) _)
            exact HA7.out.bel
      · have e1 : rest.toList.isEmpty = false := toList_some hr
        have HV : Hid (rh s = (zeroH, false)) := hide (HNR.out hr)
        rw [hW3] at t0 t1 x0 x1 x2 f0 f1 f2 v0 v1 v2
        go_wp2
        rw [← hW3]
        refine bodyPost_ret (v := .tuple #[.agg #[.int .i64 0, .int .i64 0, .slice none 0 0], .bool false]) (by simp [results, Tryd.results11, go_sem, *]) rfl (HE.out _ ?_ HV.out)
        iterate 3 (refine Below.setCell ?_ (by exact Nat.le_refl _) _)
        exact HA2.out.bel
  · have HCC : Hid (20 < cntH (sumR s)) := hide (by omega)
    clear hc
    obtain ⟨B, hB⟩ : ∃ B, w.heap.size + 1 = B := ⟨_, rfl⟩
    rw [hB] at HTK HLT HWW
    go_enter Tryd.func11, Tryd.ntmps11
    go_wp2_with fail
    rw [← hW]
    clear hW hB
    refine (tkSum_g W _ B s false HTK.out hs).mono ?_
    rintro e w1 ⟨rfl, h1, g1⟩
    have HA1 := hide h1
    have HX1 := hide ((h1.bel.block _ (lt_of_block HW0.out)).trans HW0.out)
    have HB1 := hide (HB0.out.trans (h1.bel.mono HB0.out.size))
    have HT1 := hide (HT0.out.later h1.bel)
    obtain ⟨y0, y1⟩ := h1.cells
    have HB0' := hide HB0.out
    have HT0' := hide HT0.out
    clear h1 g1 HTK HW0 HB0 HT0
    go_wp2_with fail
    generalize sumR s = t at *
    generalize (false || sumF s) = F0 at *
    generalize sumV s = sv at *
    refine (takeHint_many W w1 B t F0 HA1.out (by have := HSR.out; omega) HCC.out).mono ?_
    rintro e w2 ⟨rfl, hk2, hold⟩
    have hX2 := (hold _ (lt_of_block HX1.out) (by have := HLT.out; omega)).trans HX1.out
    have hb2 : Below w.heap.size w w2 := (HB0'.out).trans (hk2.bel.mono HB0'.out.size)
    have HA2 : Hid (RIAt w B w2.heap.size (tailH t) true 0 0 none 0 0 [] (w2.alloc (.cells #[.int .i64 0, .int .i64 0, .slice none 0 0] 29))) := hide (by
      have hb := al1 w2 (.cells #[.int .i64 0, .int .i64 0, .slice none 0 0] 29)
      have hs2 := HT0'.out.later hk2.bel
      refine ⟨(hb.block _ (lt_of_block hX2)).trans hX2, (hb.block _ (lt_of_block hk2.row)).trans hk2.row, heap_alloc_new w2 _, Shape.Own.nil entSh 41 _ _, hs2.later hb, hb2.trans (hb.mono hb2.size)⟩)
    have HV : Hid (rh s = (zeroH, false)) := hide (HNC.out (by have := HCC.out; omega))
    clear hk2 hold hX2 hb2 HA1 HX1 HB1 HT1 HB0' HT0' y0 y1 HWW HUN HWR HSU HYE HCL HUC HNR0 HHO
    obtain ⟨t0, t1⟩ := cells2k HA2.out.tk
    obtain ⟨x0, x1, x2, f0, f1, f2⟩ := cells3h HA2.out.res
    go_wp2
    refine bodyPost_ret (v := .tuple #[.agg #[.int .i64 0, .int .i64 0, .slice none 0 0], .bool false]) (by simp [results, Tryd.results11, go_sem, *]) rfl (HE.out _ ?_ HV.out)
    iterate 3 (refine Below.setCell ?_ (by exact Nat.le_refl _) _)
    exact HA2.out.bel

end Go.Proofs.YtimpokbcfjgdaaaDoor
