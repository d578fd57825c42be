/-
  impl.copyDisk: the same disk in new memory.
-/
import Derived.Test.YthfpcjamlbkgfaaShelf
import Derived.Test.YthfpcjamlbkgfaaFilesApp
namespace Go.Proofs.Ythfpcjamlbkgfaa
open Go.RowKit
open Plain

theorem FRow.none_nil {w : World} {base n : Nat} {fs : List FileV} (h : FRow w base none n fs) : n = 0 ∧ fs = [] := by
  have hf : fs = [] := by
    cases fs with
    | nil => rfl
    | cons f r =>
      obtain ⟨b, off, e, _⟩ := h.cells 0 (by simp)
      cases e
  exact ⟨by rw [← h.len, hf]; rfl, hf⟩

/-- slices.Clone at files. -/
theorem clone_any (w : World) (a : Option Addr) (n cap : Nat) (fs : List FileV) (ha : a = none ∨ ∃ g, a = some ⟨g, 0, none⟩) (hr : FRow w 0 a n fs) (hn : n ≤ 1048576) :
    Calls Try.prog 53 #[.slice a n cap] w fun e w' => (∃ a' cap', e = .returned (.slice a' n cap') ∧ FOwn w' w.heap.size (.slice a' n cap') fs) ∧ Below w.heap.size w w' := by
  have hl := hr.len
  rcases ha with rfl | ⟨g, rfl⟩
  · obtain ⟨rfl, rfl⟩ := hr.none_nil
    refine (AnyE.slices_Clone_nil Try.laysClone 0 cap w).mono ?_
    rintro e w' ⟨rfl, rfl⟩
    exact ⟨⟨none, 0, rfl, by unfold FOwn; simp [World.ownsRow, fcells]⟩, Below.refl _ _⟩
  · obtain ⟨i0, hi, hz0, hz1, hz2⟩ := info_parts Try.infoF
    have hcon := AnyE.slices_Clone Try.laysClone i0 _ 3 40 hi hz0 hz1 hz2 rfl (by decide) Try.sizeOf35 g 0 n cap (fcells fs) w (by rw [fcells_length, hl]) (by unfold maxLen; omega) (by omega) (fun j u hj => by have h := hr.src j u hj; rw [addr_add] at h; exact h) (fcells_one fs)
    refine Calls.mono hcon ?_
    rintro e w' ⟨v', rfl, ho, -, hb⟩
    have hv : ∃ a' cap', v' = .slice a' n cap' := by
      rcases ho.2 with ⟨e, h0⟩ | ⟨g, cap, cur, e, _⟩
      · exact ⟨none, 0, by rw [e, h0]⟩
      · exact ⟨_, _, e⟩
    obtain ⟨a', cap', rfl⟩ := hv
    refine ⟨⟨a', cap', rfl, ?_⟩, hb⟩
    unfold FOwn
    rw [hl]
    exact ho

set_option maxRecDepth 100000 in
set_option maxHeartbeats 1000000 in
theorem implCopy_any (w : World) (a : Option Addr) (n cap : Nat) (fs : List FileV) (ha : a = none ∨ ∃ g, a = some ⟨g, 0, none⟩) (hr : FRow w 0 a n fs) (hn : n ≤ 1048576) (c u : Int) (d : Bool) :
    Calls Try.prog 33 #[.agg #[.slice a n cap, .int .i64 c, .int .i64 u, .bool d]] w fun e w' => (∃ a' cap', e = .returned (.agg #[.slice a' n cap', .int .i64 c, .int .i64 u, .bool d]) ∧ FOwn w' w.heap.size (.slice a' n cap') fs) ∧ Below w.heap.size w w' := by
  obtain ⟨W, hW⟩ : ∃ W, W = (w.alloc (.cells #[.slice a n cap, .int .i64 c, .int .i64 u, .bool d] 26)).alloc (.cells #[.slice none 0 0, .int .i64 0, .int .i64 0, .bool false] 26) := ⟨_, rfl⟩
  have hA := alloc2 w (.cells #[.slice a n cap, .int .i64 c, .int .i64 u, .bool d] 26) (.cells #[.slice none 0 0, .int .i64 0, .int .i64 0, .bool false] 26)
  rw [← hW] at hA
  have HS := hide hA.1
  have HB0 := hide hA.2.1
  have HC0 := hide hA.2.2.1
  have HC1 := hide hA.2.2.2
  clear hA
  have HR := hide (hr.later HB0.out (Nat.le_refl _))
  have HCL := hide (clone_any W a n cap fs ha HR.out hn)
  clear hr
  obtain ⟨y0, y1, y2, y3, -⟩ := cells4 HC0.out
  rw [hW] at y0 y1 y2 y3
  go_enter Try.func33, Try.ntmps33
  go_wp2_with fail
  rw [← hW]
  clear hW y0 y1 y2 y3
  refine HCL.out.mono ?_
  rintro e w2 ⟨⟨a', cap', rfl, ho2⟩, hb2⟩
  obtain ⟨a0, a1, a2, a3, f0, f1, f2, f3⟩ := cells4 ((hb2.block _ (by have := HS.out; omega)).trans HC0.out)
  obtain ⟨b0, b1, b2, b3, k0, k1, k2, k3⟩ := cells4 ((hb2.block _ (by have := HS.out; omega)).trans HC1.out)
  have HO2 := hide (ho2.mono (base' := w.heap.size + 2) (by have := HS.out; omega))
  have HB2 := hide (HB0.out.trans (hb2.mono HB0.out.size))
  clear ho2 hb2 HCL
  go_wp2
  refine bodyPost_ret (v := .agg #[.slice a' n cap', .int .i64 c, .int .i64 u, .bool d]) (by simp [results, Try.results33, go_sem, *]) rfl ⟨⟨a', cap', rfl, ?_⟩, ?_⟩
  · refine FOwn.mono ?_ (Nat.le_add_right _ 2)
    iterate 5 (refine FOwn.setCell ?_ _ _ (by dsimp only; omega))
    exact HO2.out
  · iterate 5 (refine Below.setCell ?_ (by dsimp only; omega) _)
    exact HB2.out

end Go.Proofs.Ythfpcjamlbkgfaa
