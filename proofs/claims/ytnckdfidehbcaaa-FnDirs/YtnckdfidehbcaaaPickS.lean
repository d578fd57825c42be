/-
  What spec's l1Pick and l1PickInt answer: one of a list.
-/
import Derived.Test.YtnckdfidehbcaaaDrawT
import Derived.Test.YtnckdfidehbcaaaOwnB
namespace Go.Proofs.Ytnckdfidehbcaaa
open Go.RowKit
open Plain

/-- The cursor in block B, at some place. -/
def CurX (w : World) (B : Nat) (a : Option Addr) (len cap : Nat) (zs : List Int) : Prop := ∃ st, CurAt w B a len cap zs st
theorem CurX.lt {w : World} {B : Nat} {a : Option Addr} {len cap : Nat} {zs : List Int} (h : CurX w B a len cap zs) : B < w.heap.size := by obtain ⟨st, h⟩ := h; exact lt_of_block h.row
theorem CurX.below {w w' : World} {B K : Nat} {a : Option Addr} {len cap : Nat} {zs : List Int} (h : CurX w B a len cap zs) (hb : Below K w w') (hK : B < K) : CurX w' B a len cap zs := by obtain ⟨st, h⟩ := h; exact ⟨st, h.below hb hK⟩
/-- Another block is written. -/
theorem CurX.set {w : World} {B : Nat} {a : Option Addr} {len cap : Nat} {zs : List Int} (h : CurX w B a len cap zs) (p : Addr) (v : Value) (hp : B < p.block) : CurX (w.setCell p v) B a len cap zs := by
  obtain ⟨st, h⟩ := h
  exact ⟨st, h.below (K := B + 1) ((Below.refl _ _).setCell (by omega) _) (by omega)⟩

set_option maxRecDepth 100000 in
set_option maxHeartbeats 1000000 in
theorem pick_any (xs : List ByteArray) (g : Nat) (hx : 0 < xs.length) (hx2 : xs.length ≤ 100) (w : World) (B : Nat) (a : Option Addr) (len cap : Nat) (zs : List Int) (hc : CurX w B a len cap zs) (hgB : g ≠ B) (hrow : ∀ j, (h : j < xs.length) → w.cell? ⟨g, j, none⟩ = some (.string (xs[j]))) :
    Calls Try.prog 45 #[.pointer (some ⟨B, 0, none⟩), .slice (some ⟨g, 0, none⟩) xs.length xs.length] w fun e w' => (∃ s, s ∈ xs ∧ e = .returned (.string s)) ∧ CurX w' B a len cap zs ∧ w.grownBy w' (some B) := by
  obtain ⟨st, hc⟩ := hc
  have HC := hide hc
  have HR := hide hrow
  clear hc hrow
  go_enter Try.func45, Try.ntmps45
  go_wp2_with fail
  refine (below_any (xs.length : Int) w B a len cap zs st HC.out).mono ?_
  rintro e w1 ⟨rfl, hc1, hg1⟩
  have hb := lV_bd zs (xs.length : Int) st (by omega)
  obtain ⟨k, hk⟩ := Int.eq_ofNat_of_zero_le hb.1
  rw [hk] at hb ⊢
  have hkl : k < xs.length := by omega
  have hcell : w1.cell? ⟨g, k, none⟩ = some (.string (xs[k])) := hg1.cell (HR.out k hkl) (fun e => hgB (by injection e))
  have HC1 := hide hc1
  have HG1 := hide hg1
  have hk2 : (k : Int) < (xs.length : Int) := by omega
  clear hc1 hg1 hk hb
  go_wp2
  go_ret
  exact ⟨⟨_, List.getElem_mem hkl, rfl⟩, ⟨_, HC1.out⟩, HG1.out⟩

set_option maxRecDepth 100000 in
set_option maxHeartbeats 1000000 in
theorem pickInt_any (xs : List Int) (g : Nat) (hx : 0 < xs.length) (hx2 : xs.length ≤ 100) (w : World) (B : Nat) (a : Option Addr) (len cap : Nat) (zs : List Int) (hc : CurX w B a len cap zs) (hgB : g ≠ B) (hrow : ∀ j, (h : j < xs.length) → w.cell? ⟨g, j, none⟩ = some (.int .i64 (xs[j]))) :
    Calls Try.prog 46 #[.pointer (some ⟨B, 0, none⟩), .slice (some ⟨g, 0, none⟩) xs.length xs.length] w fun e w' => (∃ s, s ∈ xs ∧ e = .returned (.int .i64 s)) ∧ CurX w' B a len cap zs ∧ w.grownBy w' (some B) := by
  obtain ⟨st, hc⟩ := hc
  have HC := hide hc
  have HR := hide hrow
  clear hc hrow
  go_enter Try.func46, Try.ntmps46
  go_wp2_with fail
  refine (below_any (xs.length : Int) w B a len cap zs st HC.out).mono ?_
  rintro e w1 ⟨rfl, hc1, hg1⟩
  have hb := lV_bd zs (xs.length : Int) st (by omega)
  obtain ⟨k, hk⟩ := Int.eq_ofNat_of_zero_le hb.1
  rw [hk] at hb ⊢
  have hkl : k < xs.length := by omega
  have hcell : w1.cell? ⟨g, k, none⟩ = some (.int .i64 (xs[k])) := hg1.cell (HR.out k hkl) (fun e => hgB (by injection e))
  have HC1 := hide hc1
  have HG1 := hide hg1
  have hk2 : (k : Int) < (xs.length : Int) := by omega
  clear hc1 hg1 hk hb
  go_wp2
  go_ret
  exact ⟨⟨_, List.getElem_mem hkl, rfl⟩, ⟨_, HC1.out⟩, HG1.out⟩

theorem row_strs (w : World) (xs : List ByteArray) : ∀ j, (h : j < xs.length) → (w.alloc (.cells ((xs.map Value.string).toArray) 9)).cell? ⟨w.heap.size, j, none⟩ = some (.string (xs[j])) := fun j h => by
  rw [cell_of_row _ _ _ _ _ _ (heap_alloc_new w _)]
  simp [h]
theorem row_ints (w : World) (xs : List Int) : ∀ j, (h : j < xs.length) → (w.alloc (.cells ((xs.map (Value.int .i64)).toArray) 3)).cell? ⟨w.heap.size, j, none⟩ = some (.int .i64 (xs[j])) := fun j h => by
  rw [cell_of_row _ _ _ _ _ _ (heap_alloc_new w _)]
  simp [h]
theorem grown_new {w w1 : World} {o : Obj} {B : Nat} (h : (w.alloc o).grownBy w1 (some B)) : w.grownBy w1 (some B) := grown_trans (World.grownBy_alloc w o (some B)) h


end Go.Proofs.Ytnckdfidehbcaaa
