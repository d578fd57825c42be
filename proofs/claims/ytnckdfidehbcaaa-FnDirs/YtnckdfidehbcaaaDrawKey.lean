/-
  spec.l5Key: a key, drawn.
-/
import Derived.Test.YtnckdfidehbcaaaPickS
import Derived.Test.YtnckdfidehbcaaaRecBase
namespace Go.Proofs.Ytnckdfidehbcaaa
open Go.RowKit
open Plain

set_option maxRecDepth 100000 in
set_option maxHeartbeats 1000000 in
theorem key5_any (w : World) (B : Nat) (a : Option Addr) (len cap : Nat) (zs : List Int) (hc : CurX w B a len cap zs) :
    Calls Try.prog 47 #[.pointer (some ⟨B, 0, none⟩)] w fun e w' => (∃ s : ByteArray, s.size ≤ 8 ∧ e = .returned (.string s)) ∧ CurX w' B a len cap zs ∧ w.grownBy w' (some B) := by
  have hB := hc.lt
  have HC := hide hc
  clear hc
  go_enter Try.func47, Try.ntmps47
  go_wp2_with fail
  refine (pick_any [⟨#[97]⟩, ⟨#[98]⟩, ⟨#[99]⟩, ⟨#[107, 101, 121]⟩, ⟨#[108, 111, 110, 103, 110, 97, 109, 101]⟩] w.heap.size (by simp) (by simp) _ B a len cap zs (HC.out.below ((Below.refl _ _).alloc (Nat.le_refl _) _) hB) (by omega) (row_strs w _)).mono ?_
  rintro e w1 ⟨⟨s, hs, rfl⟩, hc1, hg1⟩
  have HC1 := hide hc1
  have HG1 := hide (grown_new hg1)
  have HS : Hid (s.size ≤ 8) := hide (by
    simp only [List.mem_cons, List.not_mem_nil, or_false] at hs
    rcases hs with rfl | rfl | rfl | rfl | rfl <;> decide)
  clear hc1 hg1 hs
  go_wp2
  go_ret
  exact ⟨⟨s, HS.out, rfl⟩, HC1.out, HG1.out⟩

end Go.Proofs.Ytnckdfidehbcaaa
