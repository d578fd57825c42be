/-
  spec.DrawDirPut: some directory and some entry.
-/
import Derived.Test.YtnckdfidehbcaaaDraw8
namespace Go.Proofs.Ytnckdfidehbcaaa
open Go.RowKit
open Plain

set_option maxRecDepth 100000 in
set_option maxHeartbeats 2000000 in
theorem drawPut8_any (w : World) (a : Option Addr) (len cap : Nat) (zs : List Int) (hc : CodeAt w a len zs) :
    Calls Try.prog 7 #[.slice a len cap] w fun e w' => (∃ (g n cap' : Nat) (xs : List EntV) (p : EntV), e = .returned (.tuple #[.slice (some ⟨g, 0, none⟩) n cap', .agg #[.string p.key, .int .i64 p.seg, .int .i64 p.pos, .int .i64 p.len, .int .i64 p.bat]]) ∧ n ≤ 7 ∧ entSh.Own 26 w' w.heap.size (.slice (some ⟨g, 0, none⟩) n cap') xs) ∧ Below w.heap.size w w' := by
  obtain ⟨W, hW⟩ : ∃ W, W = w.alloc (.cells #[.string ⟨#[]⟩, .int .i64 0, .int .i64 0, .int .i64 0, .int .i64 0] 26) := ⟨_, rfl⟩
  have HBW : Hid (Below w.heap.size w W) := hide (by rw [hW]; exact al1 w _)
  have HK : Hid (Blk5 W w.heap.size zeroE) := hide (by rw [hW]; exact Blk5.new w zeroE)
  have HCW := hide (hc.later HBW.out)
  clear hc
  go_enter Try.func7, Try.ntmps7
  go_wp2_with fail
  rw [← hW]
  clear hW
  refine (new_any W a len cap zs HCW.out).mono ?_
  rintro e w1 ⟨rfl, hc1, hb1⟩
  have hwW : w.heap.size < W.heap.size := HK.out.lt
  have HC1 : Hid (CurX w1 W.heap.size a len cap zs) := hide ⟨_, hc1⟩
  have HB1 : Hid (Below w.heap.size w w1) := hide (HBW.out.trans (hb1.mono HBW.out.size))
  have HK1 := hide (HK.out.later hb1 HK.out.lt)
  clear hc1 hb1 HK HBW HCW
  obtain ⟨B, hB⟩ : ∃ B, W.heap.size = B := ⟨_, rfl⟩
  rw [hB] at HC1 hwW ⊢
  clear hB
  have hne : B ≠ w.heap.size := by omega
  have hB1 : B < w1.heap.size := HC1.out.lt
  go_wp2_with fail
  refine (dir8_any w1 B a len cap zs HC1.out).mono ?_
  rintro e w2 ⟨⟨g, n, c', xs, rfl, hn, ho2⟩, hc2, hg2⟩
  have HC2 := hide hc2
  have HK2 := hide (HK1.out.grown hg2 hne)
  have HB2 : Hid (Below w.heap.size w w2) := hide (HB1.out.grown hg2 HB1.out.size (fun j hj => by injection hj with hj; omega))
  have HO2 := hide ho2
  clear hc2 hg2 ho2 HC1 HK1
  go_wp2_with fail
  refine (entry8_any w2 B a len cap zs HC2.out).mono ?_
  rintro e w3 ⟨⟨p, rfl⟩, hc3, hg3⟩
  have HK3 := hide (HK2.out.grown hg3 hne)
  have HB3 : Hid (Below w.heap.size w w3) := hide (HB2.out.grown hg3 HB2.out.size (fun j hj => by injection hj with hj; omega))
  have HO3 := hide (HO2.out.grownB hg3 hB1)
  have hlo : w.heap.size < w1.heap.size := by omega
  clear hc3 hg3 HC2 HK2 HO2 HB2
  obtain ⟨y0, y1, y2, y3, y4, f0, f1, f2, f3, f4⟩ := cells5 HK3.out
  go_wp2
  refine bodyPost_ret (v := .tuple #[.slice (some ⟨g, 0, none⟩) n c', .agg #[.string p.key, .int .i64 p.seg, .int .i64 p.pos, .int .i64 p.len, .int .i64 p.bat]]) (by simp [results, Try.results7, go_sem, *]) rfl ⟨⟨g, n, c', xs, p, rfl, hn, ?_⟩, below_set5 HB3.out (Nat.le_refl _) _ _ _ _ _⟩
  exact (((((HO3.out.setCell _ _ (by exact hlo)).setCell _ _ (by exact hlo)).setCell _ _ (by exact hlo)).setCell _ _ (by exact hlo)).setCell _ _ (by exact hlo)).mono (Nat.le_of_lt hlo)

end Go.Proofs.Ytnckdfidehbcaaa
