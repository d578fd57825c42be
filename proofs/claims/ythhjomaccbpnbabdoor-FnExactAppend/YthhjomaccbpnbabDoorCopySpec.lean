/-
  spec.l3Copy: the same files in new memory.
-/
import Derived.Test.YthhjomaccbpnbabDoorFilesApp
namespace Go.Proofs.YthhjomaccbpnbabDoor
open Go.RowKit
open Plain

set_option maxRecDepth 100000 in
set_option maxHeartbeats 1000000 in
theorem specCopy_some (w : World) (ad : Addr) (n cap : Nat) (fs : List FileV) (hr : FRow w 0 (some ad) n fs) (hn : n ≤ 1048576) (c u : Int) (d : Bool) :
    Calls Tryd.prog 49 #[.agg #[.slice (some ad) n cap, .int .i64 c, .int .i64 u, .bool d]] w fun e w' => (∃ a' cap', e = .returned (.agg #[.slice a' n cap', .int .i64 c, .int .i64 u, .bool d]) ∧ FOwn w' w.heap.size (.slice a' n cap') fs) ∧ Below w.heap.size w w' := by
  have hfn := hr.len
  obtain ⟨W, hW⟩ : ∃ W, W = ((w.alloc (.cells #[.slice (some ad) n cap, .int .i64 c, .int .i64 u, .bool d] 28)).alloc (.cells #[.slice none 0 0, .int .i64 0, .int .i64 0, .bool false] 28)).alloc (.cells #[] 45) := ⟨_, rfl⟩
  have hA := alloc3 w (.cells #[.slice (some ad) n cap, .int .i64 c, .int .i64 u, .bool d] 28) (.cells #[.slice none 0 0, .int .i64 0, .int .i64 0, .bool false] 28) (.cells #[] 45)
  rw [← hW] at hA
  have HO : Hid (FOwn W (w.heap.size + 2) (.slice (some ⟨w.heap.size + 1 + 1, 0, none⟩) 0 0) []) := hide (by
    refine ⟨rfl, .inr ⟨w.heap.size + 1 + 1, 0, #[], rfl, Nat.le_refl _, hA.2.2.2.2, Nat.le_refl _, by unfold maxLen; omega, rfl, rfl⟩⟩)
  have HS := hide hA.1
  have HB0 := hide hA.2.1
  have HC0 := hide hA.2.2.1
  have HC1 := hide hA.2.2.2.1
  clear hA
  have HR := hide (hr.later HB0.out (Nat.le_refl _))
  clear hr
  go_enter Tryd.func49, Tryd.ntmps49
  go_wp2_with (at_builtin; (try rw [← hW]); clear hW; refine wpList_app_files rfl (.tmp 3) (.tmp 5) rfl HO.out (by have := HS.out; omega) HR.out (by simp; omega) rfl rfl ?_; intro a' n' cap' w2 hn' hown2 hg2; rw [List.length_nil, Nat.zero_add] at hn'; subst hn'; obtain ⟨a0, a1, a2, a3, f0, -, -, -⟩ := cells4 ((hg2.block _ (by have := HS.out; omega) (by simp [Value.ownBlock]; omega)).trans HC0.out); obtain ⟨b0, b1, b2, b3, k0, k1, k2, k3⟩ := cells4 ((hg2.block _ (by have := HS.out; omega) (by simp [Value.ownBlock]; try omega)).trans HC1.out); have HO2 := hide hown2; have HG2 := hide hg2; clear hown2 hg2)
  have HB2 := hide (HB0.out.grown HG2.out HB0.out.size (by intro j h; simp [Value.ownBlock] at h; omega))
  refine bodyPost_ret (v := .agg #[.slice a' n' cap', .int .i64 c, .int .i64 u, .bool d]) (by simp [results, Tryd.results49, go_sem, *]) rfl ⟨⟨a', cap', rfl, ?_⟩, ?_⟩
  · refine FOwn.mono ?_ (Nat.le_add_right _ 2)
    iterate 5 (refine FOwn.setCell ?_ _ _ (by dsimp only; omega))
    exact HO2.out
  · iterate 5 (refine Below.setCell ?_ (by dsimp only; omega) _)
    exact HB2.out

end Go.Proofs.YthhjomaccbpnbabDoor
