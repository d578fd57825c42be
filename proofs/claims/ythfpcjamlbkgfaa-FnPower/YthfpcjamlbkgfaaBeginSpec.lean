/-
  spec.l3Copy and spec.l3Begin, at a slice that may be nil.
-/
import Derived.Test.YthfpcjamlbkgfaaFilesApp
import Derived.Test.YthfpcjamlbkgfaaDiskOkSpec
import Derived.Laws.AppendOwnNone
namespace Go.Proofs.Ythfpcjamlbkgfaa
open Go.RowKit
open Plain

set_option maxRecDepth 100000 in
set_option maxHeartbeats 1000000 in
theorem specCopy_some (w : World) (ad : Addr) (n cap : Nat) (fs : List FileV) (hr : FRow w 0 (some ad) n fs) (hn : n ≤ 1048576) (c u : Int) (d : Bool) :
    Calls Try.prog 43 #[.agg #[.slice (some ad) n cap, .int .i64 c, .int .i64 u, .bool d]] w fun e w' => (∃ a' cap', e = .returned (.agg #[.slice a' n cap', .int .i64 c, .int .i64 u, .bool d]) ∧ FOwn w' w.heap.size (.slice a' n cap') fs) ∧ Below w.heap.size w w' := by
  have hfn := hr.len
  obtain ⟨W, hW⟩ : ∃ W, W = ((w.alloc (.cells #[.slice (some ad) n cap, .int .i64 c, .int .i64 u, .bool d] 26)).alloc (.cells #[.slice none 0 0, .int .i64 0, .int .i64 0, .bool false] 26)).alloc (.cells #[] 35) := ⟨_, rfl⟩
  have hA := alloc3 w (.cells #[.slice (some ad) n cap, .int .i64 c, .int .i64 u, .bool d] 26) (.cells #[.slice none 0 0, .int .i64 0, .int .i64 0, .bool false] 26) (.cells #[] 35)
  rw [← hW] at hA
  have HO : Hid (FOwn W (w.heap.size + 2) (.slice (some ⟨w.heap.size + 1 + 1, 0, none⟩) 0 0) []) := hide (by
    refine ⟨rfl, .inr ⟨w.heap.size + 1 + 1, 0, #[], rfl, Nat.le_refl _, hA.2.2.2.2, Nat.le_refl _, by unfold maxLen; omega, rfl, rfl⟩⟩)
  have HS := hide hA.1
  have HB0 := hide hA.2.1
  have HC0 := hide hA.2.2.1
  have HC1 := hide hA.2.2.2.1
  clear hA
  have HR := hide (hr.later HB0.out (Nat.le_refl _))
  clear hr
  go_enter Try.func43, Try.ntmps43
  go_wp2_with (at_builtin; (try rw [← hW]); clear hW; refine wpList_app_files rfl (.tmp 3) (.tmp 5) rfl HO.out (by have := HS.out; omega) HR.out (by simp; omega) rfl rfl ?_; intro a' n' cap' w2 hn' hown2 hg2; rw [List.length_nil, Nat.zero_add] at hn'; subst hn'; obtain ⟨a0, a1, a2, a3, f0, -, -, -⟩ := cells4 ((hg2.block _ (by have := HS.out; omega) (by simp [Value.ownBlock]; omega)).trans HC0.out); obtain ⟨b0, b1, b2, b3, k0, k1, k2, k3⟩ := cells4 ((hg2.block _ (by have := HS.out; omega) (by simp [Value.ownBlock]; try omega)).trans HC1.out); have HO2 := hide hown2; have HG2 := hide hg2; clear hown2 hg2)
  have HB2 := hide (HB0.out.grown HG2.out HB0.out.size (by intro j h; simp [Value.ownBlock] at h; omega))
  refine bodyPost_ret (v := .agg #[.slice a' n' cap', .int .i64 c, .int .i64 u, .bool d]) (by simp [results, Try.results43, go_sem, *]) rfl ⟨⟨a', cap', rfl, ?_⟩, ?_⟩
  · refine FOwn.mono ?_ (Nat.le_add_right _ 2)
    iterate 5 (refine FOwn.setCell ?_ _ _ (by dsimp only; omega))
    exact HO2.out
  · iterate 5 (refine Below.setCell ?_ (by dsimp only; omega) _)
    exact HB2.out

set_option maxRecDepth 100000 in
set_option maxHeartbeats 1000000 in
theorem specCopy_nil (w : World) (c u : Int) (d : Bool) :
    Calls Try.prog 43 #[.agg #[.slice none 0 0, .int .i64 c, .int .i64 u, .bool d]] w fun e w' => (∃ a' cap', e = .returned (.agg #[.slice a' 0 cap', .int .i64 c, .int .i64 u, .bool d]) ∧ FOwn w' w.heap.size (.slice a' 0 cap') []) ∧ Below w.heap.size w w' := by
  obtain ⟨W, hW⟩ : ∃ W, W = ((w.alloc (.cells #[.slice none 0 0, .int .i64 c, .int .i64 u, .bool d] 26)).alloc (.cells #[.slice none 0 0, .int .i64 0, .int .i64 0, .bool false] 26)).alloc (.cells #[] 35) := ⟨_, rfl⟩
  have hA := alloc3 w (.cells #[.slice none 0 0, .int .i64 c, .int .i64 u, .bool d] 26) (.cells #[.slice none 0 0, .int .i64 0, .int .i64 0, .bool false] 26) (.cells #[] 35)
  rw [← hW] at hA
  have HO : Hid (FOwn W (w.heap.size + 2) (.slice (some ⟨w.heap.size + 1 + 1, 0, none⟩) 0 0) []) := hide (by
    refine ⟨rfl, .inr ⟨w.heap.size + 1 + 1, 0, #[], rfl, Nat.le_refl _, hA.2.2.2.2, Nat.le_refl _, by unfold maxLen; omega, rfl, rfl⟩⟩)
  have HS := hide hA.1
  have HB0 := hide hA.2.1
  have HC0 := hide hA.2.2.1
  have HC1 := hide hA.2.2.2.1
  clear hA
  obtain ⟨i0, hi, hz0, hz1, hz2⟩ := info_parts Try.infoF
  go_enter Try.func43, Try.ntmps43
  go_wp2_with (at_builtin; (try rw [← hW]); clear hW; refine wpList_append_own_none rfl (.tmp 3) (.tmp 5) 24 rfl (w.heap.size + 2) 35 i0 3 Try.underlying24 hi _ 0 [] rfl HO.out rfl ?_; obtain ⟨a0, a1, a2, a3, f0, -, -, -⟩ := cells4 HC0.out; obtain ⟨b0, b1, b2, b3, k0, k1, k2, k3⟩ := cells4 HC1.out)
  refine bodyPost_ret (v := .agg #[.slice (some ⟨w.heap.size + 1 + 1, 0, none⟩) 0 0, .int .i64 c, .int .i64 u, .bool d]) (by simp [results, Try.results43, go_sem, *]) rfl ⟨⟨_, _, rfl, ?_⟩, ?_⟩
  · refine FOwn.mono ?_ (Nat.le_add_right _ 2)
    (repeat (first | with_reducible (refine FOwn.setCell ?_ _ _ (by dsimp only; omega)) | with_reducible (exact HO.out)))
  · (repeat (first | with_reducible (refine Below.setCell ?_ (by dsimp only; omega) _) | with_reducible (exact HB0.out)))

theorem FRow.nil {w : World} {base n : Nat} {fs : List FileV} (h : FRow w base none n fs) : fs = [] ∧ n = 0 := by
  have hl := h.len
  cases fs with
  | nil => exact ⟨rfl, hl.symm⟩
  | cons f r =>
    obtain ⟨b, off, e, _⟩ := h.cells 0 (by simp)
    cases e
theorem specCopy_any (w : World) (a : Option Addr) (n cap : Nat) (fs : List FileV) (hr : FRow w 0 a n fs) (hc0 : a = none → cap = 0) (hn : n ≤ 1048576) (c u : Int) (d : Bool) :
    Calls Try.prog 43 #[.agg #[.slice a n cap, .int .i64 c, .int .i64 u, .bool d]] w fun e w' => (∃ a' cap', e = .returned (.agg #[.slice a' n cap', .int .i64 c, .int .i64 u, .bool d]) ∧ FOwn w' w.heap.size (.slice a' n cap') fs) ∧ Below w.heap.size w w' := by
  cases a with
  | none =>
    obtain ⟨rfl, rfl⟩ := hr.nil
    obtain rfl := hc0 rfl
    exact specCopy_nil w c u d
  | some ad => exact specCopy_some w ad n cap fs hr hn c u d

end Go.Proofs.Ythfpcjamlbkgfaa
namespace Go.Proofs.Ythfpcjamlbkgfaa
open Go.RowKit
open Plain

def begC (fs : List FileV) (c u : Int) (d : Bool) : Int := if diskOk fs c u = true then (if d = true ∨ u = 0 then 1 else 0) else 5
def begD (fs : List FileV) (c u : Int) (d : Bool) : Bool := if diskOk fs c u = true then (if u = 0 then true else d) else d
def begU (fs : List FileV) (c u : Int) (d : Bool) : Int := if diskOk fs c u = true ∧ d = false ∧ 0 < u then u - 1 else u

set_option maxRecDepth 100000 in
set_option maxHeartbeats 2000000 in
theorem specBegin_any (w : World) (a : Option Addr) (n cap : Nat) (fs : List FileV) (hr : FRow w 0 a n fs) (hc0 : a = none → cap = 0) (hn : n ≤ 1048576) (hz : szFs fs ≤ 1048576) (c u : Int) (d : Bool) (hu : -9223372036854775808 ≤ u) (hu2 : u ≤ 9223372036854775807) :
    Calls Try.prog 67 #[.agg #[.slice a n cap, .int .i64 c, .int .i64 u, .bool d]] w fun e w' => (∃ a' cap', e = .returned (.tuple #[.agg #[.slice a' n cap', .int .i64 c, .int .i64 (begU fs c u d), .bool (begD fs c u d)], .int .i64 (begC fs c u d)]) ∧ FOwn w' w.heap.size (.slice a' n cap') fs) ∧ Below w.heap.size w w' := by
  obtain ⟨W, hW⟩ : ∃ W, W = (w.alloc (.cells #[.slice a n cap, .int .i64 c, .int .i64 u, .bool d] 26)).alloc (.cells #[.slice none 0 0, .int .i64 0, .int .i64 0, .bool false] 26) := ⟨_, rfl⟩
  have hA := alloc2 w (.cells #[.slice a n cap, .int .i64 c, .int .i64 u, .bool d] 26) (.cells #[.slice none 0 0, .int .i64 0, .int .i64 0, .bool false] 26)
  rw [← hW] at hA
  have HS := hide hA.1
  have HB0 := hide hA.2.1
  have HC0 := hide hA.2.2.1
  have HC1 := hide hA.2.2.2
  clear hA
  have HR := hide (hr.later HB0.out (Nat.le_refl _))
  clear hr
  go_enter Try.func67, Try.ntmps67
  go_wp2_with fail
  rw [← hW]
  clear hW
  refine (specCopy_any W a n cap fs HR.out hc0 hn c u d).mono ?_
  rintro e w2 ⟨⟨a', cap', rfl, ho2⟩, hb2⟩
  obtain ⟨X, hX⟩ : ∃ X, X = w2.alloc (.cells #[.slice a' n cap', .int .i64 c, .int .i64 u, .bool d] 26) := ⟨_, rfl⟩
  have hsz2 : w.heap.size + 2 ≤ w2.heap.size := by have := HS.out; have := hb2.size; omega
  have HBX : Hid (Below w2.heap.size w2 X) := hide (by rw [hX]; exact (Below.refl _ _).alloc (Nat.le_refl _) _)
  have HXS : Hid (X.heap.size = w2.heap.size + 1) := hide (by rw [hX]; simp)
  have HCX : Hid (X.heap[w2.heap.size]? = some (.cells #[.slice a' n cap', .int .i64 c, .int .i64 u, .bool d] 26 (0, 0))) := hide (by rw [hX]; exact heap_alloc_new w2 _)
  have HD0 : Hid (X.heap[w.heap.size]? = some (.cells #[.slice a n cap, .int .i64 c, .int .i64 u, .bool d] 26 (0, 0))) := hide (((HBX.out.block _ (by omega)).trans (hb2.block _ (by have := HS.out; omega))).trans HC0.out)
  have HD1 : Hid (X.heap[w.heap.size + 1]? = some (.cells #[.slice none 0 0, .int .i64 0, .int .i64 0, .bool false] 26 (0, 0))) := hide (((HBX.out.block _ (by omega)).trans (hb2.block _ (by have := HS.out; omega))).trans HC1.out)
  have HOX := hide (ho2.later HBX.out (Nat.le_refl _))
  have HBK : Hid (∀ g, (Value.slice a' n cap').ownBlock = some g → w.heap.size + 2 ≤ g ∧ g < w2.heap.size) := hide (fun g hg => by have h := ho2.blk g hg; have := HS.out; omega)
  have HBW := hide (hb2.trans (HBX.out.mono hb2.size))
  have HRX := hide (HR.out.later HBW.out (Nat.le_refl _))
  have HB3 := hide (HB0.out.trans (HBW.out.mono HB0.out.size))
  have HSS := hide HS.out
  clear hb2 ho2 HC0 HC1 HR HB0 HBX HBW
  have hx0 := cells4 HD0.out
  rw [hX] at hx0
  obtain ⟨y0, y1, y2, y3, -, -, -, -⟩ := hx0
  go_wp2_with fail
  clear y0 y1 y2 y3
  rw [← hX]
  clear hX
  refine (specOk_any X a n cap fs HRX.out (by omega) (by omega) c u d).mono ?_
  rintro e w4 ⟨rfl, hb4⟩
  obtain ⟨x, hx⟩ : ∃ x, w2.heap.size = x := ⟨_, rfl⟩
  rw [hx] at HCX HXS hsz2 HBK
  rw [hx]
  obtain ⟨a0, a1, a2, a3, -, -, -, -⟩ := cells4 ((hb4.block _ (by have := HXS.out; omega)).trans HD0.out)
  obtain ⟨b0, b1, b2, b3, k0, k1, k2, k3⟩ := cells4 ((hb4.block _ (by have := HXS.out; omega)).trans HD1.out)
  obtain ⟨c0, c1, c2, c3, l0, l1, l2, l3⟩ := cells4 ((hb4.block _ (by have := HXS.out; omega)).trans HCX.out)
  have HO4 : Hid (FOwn w4 w.heap.size (.slice a' n cap') fs) := hide ((HOX.out.later hb4 (Nat.le_refl _)).mono (by have := HSS.out; omega))
  have HB4 := hide (HB3.out.trans (hb4.mono HB3.out.size))
  clear hb4 HD0 HD1 HCX HXS HOX HB3 HRX hx
  by_cases q1 : diskOk fs c u = true
  · rw [q1]
    cases d
    · by_cases q2 : u = 0
      · subst q2
        have HV : Hid (begU fs c 0 false = 0 ∧ begD fs c 0 false = true ∧ begC fs c 0 false = 1) := hide (by simp [begU, begD, begC, q1])
        clear q1
        go_wp2
        refine bodyPost_ret (v := .tuple #[.agg #[.slice a' n cap', .int .i64 c, .int .i64 0, .bool true], .int .i64 1]) (by simp [results, Try.results67, go_sem, *]) rfl ⟨⟨a', cap', by rw [HV.out.1, HV.out.2.1, HV.out.2.2], ?_⟩, ?_⟩
        · iterate 5 (refine FOwn.setNe ?_ _ _ (by intro q; have := HBK.out _ q; dsimp only at this; omega))
          exact HO4.out
        · iterate 5 (refine Below.setCell ?_ (by dsimp only; omega) _)
          exact HB4.out
      · have t2 : (u == 0) = false := by simpa using q2
        by_cases q3 : 0 < u
        · have HV : Hid (begU fs c u false = u - 1 ∧ begD fs c u false = false ∧ begC fs c u false = 0) := hide (by simp [begU, begD, begC, q1, q2, q3])
          clear q1
          go_wp2
          refine bodyPost_ret (v := .tuple #[.agg #[.slice a' n cap', .int .i64 c, .int .i64 (u - 1), .bool false], .int .i64 0]) (by simp [results, Try.results67, go_sem, *]) rfl ⟨⟨a', cap', by rw [HV.out.1, HV.out.2.1, HV.out.2.2], ?_⟩, ?_⟩
          · iterate 5 (refine FOwn.setNe ?_ _ _ (by intro q; have := HBK.out _ q; dsimp only at this; omega))
            exact HO4.out
          · iterate 5 (refine Below.setCell ?_ (by dsimp only; omega) _)
            exact HB4.out
        · have HV : Hid (begU fs c u false = u ∧ begD fs c u false = false ∧ begC fs c u false = 0) := hide (by simp [begU, begD, begC, q1, q2, q3])
          have t3 : decide (0 < u) = false := by simpa using q3
          clear q1
          go_wp2
          refine bodyPost_ret (v := .tuple #[.agg #[.slice a' n cap', .int .i64 c, .int .i64 u, .bool false], .int .i64 0]) (by simp [results, Try.results67, go_sem, *]) rfl ⟨⟨a', cap', by rw [HV.out.1, HV.out.2.1, HV.out.2.2], ?_⟩, ?_⟩
          · iterate 4 (refine FOwn.setNe ?_ _ _ (by intro q; have := HBK.out _ q; dsimp only at this; omega))
            exact HO4.out
          · iterate 4 (refine Below.setCell ?_ (by dsimp only; omega) _)
            exact HB4.out
    · have HV : Hid (begU fs c u true = u ∧ begD fs c u true = true ∧ begC fs c u true = 1) := hide (by simp [begU, begD, begC, q1])
      clear q1
      go_wp2
      refine bodyPost_ret (v := .tuple #[.agg #[.slice a' n cap', .int .i64 c, .int .i64 u, .bool true], .int .i64 1]) (by simp [results, Try.results67, go_sem, *]) rfl ⟨⟨a', cap', by rw [HV.out.1, HV.out.2.1, HV.out.2.2], ?_⟩, ?_⟩
      · iterate 5 (refine FOwn.setNe ?_ _ _ (by intro q; have := HBK.out _ q; dsimp only at this; omega))
        exact HO4.out
      · iterate 5 (refine Below.setCell ?_ (by dsimp only; omega) _)
        exact HB4.out
  · have q1' : diskOk fs c u = false := by simpa using q1
    have HV : Hid (begU fs c u d = u ∧ begD fs c u d = d ∧ begC fs c u d = 5) := hide (by simp [begU, begD, begC, q1'])
    rw [q1']
    clear q1 q1'
    go_wp2
    refine bodyPost_ret (v := .tuple #[.agg #[.slice a' n cap', .int .i64 c, .int .i64 u, .bool d], .int .i64 5]) (by simp [results, Try.results67, go_sem, *]) rfl ⟨⟨a', cap', by rw [HV.out.1, HV.out.2.1, HV.out.2.2], ?_⟩, ?_⟩
    · iterate 4 (refine FOwn.setNe ?_ _ _ (by intro q; have := HBK.out _ q; dsimp only at this; omega))
      exact HO4.out
    · iterate 4 (refine Below.setCell ?_ (by dsimp only; omega) _)
      exact HB4.out

end Go.Proofs.Ythfpcjamlbkgfaa
