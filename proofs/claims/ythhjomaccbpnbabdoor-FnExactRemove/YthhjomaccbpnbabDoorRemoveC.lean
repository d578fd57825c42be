/-
  The closure of impl.Remove.
-/
import Derived.Test.YthhjomaccbpnbabDoorStepBase
namespace Go.Proofs.YthhjomaccbpnbabDoor
open Go.RowKit Go.Maps
open Plain

set_option maxRecDepth 100000 in
set_option maxHeartbeats 1000000 in
theorem remC_yes (W : World) (B n nb : Nat) (S : List FileV) (hm : MOwn W B n S) (f : FileV) (hf : f ∈ S) (hcell : W.cell? ⟨nb, 0, none⟩ = some (.string f.name)) (hs : f.name.size ≤ 1048576) :
    Calls Tryd.prog 45 #[.map (some B), .pointer (some ⟨nb, 0, none⟩)] W fun e w' => e = .returned .nilIface ∧ MOwn w' B n (others S f.name) ∧ W.grownBy w' (some B) := by
  have hnl := cell_lt hcell
  have HFO := hide (implFileOf_yes W B n S hm f hf (by omega))
  obtain ⟨D, hown, hsh⟩ := hm
  have HO := hide hown
  have HSH := hide (hsh.del f.name)
  have hkey : keyOf Tryd.prog 9 (.string f.name) = some (litN f) := WideMaps.keyOf_string_mk Tryd.underlying9 (by unfold maxLen; omega)
  clear hown hsh
  go_enter Tryd.func45, Tryd.ntmps45
  go_wp2_with fail
  refine HFO.out.mono ?_
  rintro e w1 ⟨rfl, hb1⟩
  have c1 : w1.cell? ⟨nb, 0, none⟩ = some (.string f.name) := by rw [hb1.cell hnl]; exact hcell
  have HG1 : Hid (W.grownBy w1 none) := hide ⟨hb1.os, hb1.tape, hb1.output, hb1.size, fun i hi _ => hb1.block i hi⟩
  have HO1 := hide (HO.out.kept HG1.out (by simp))
  have hnl1 : nb < w1.heap.size := Nat.lt_of_lt_of_le hnl hb1.size
  have hne : nb ≠ w1.heap.size := by omega
  clear hb1 hcell HFO HO
  go_wp2_with (at_delete; refine wpList_delete_own _ rfl _ _ 48 9 rfl 45 keyLaw Tryd.underlying48 _ B n _ rfl (HO1.out.alloc _) _ _ rfl hkey ?_; intro w2 hown2 ht2)
  go_ret
  refine ⟨rfl, ⟨_, hown2, HSH.out⟩, ?_⟩
  exact (HG1.out.but _ |>.andThen (World.grownBy_alloc w1 _ none) (fun j hj => by cases hj)).andThen ht2.grown (fun j hj => Or.inr hj)

set_option maxRecDepth 100000 in
set_option maxHeartbeats 1000000 in
theorem remC_no (W : World) (A : SentA) (hA : SentIn W A) (B n nb : Nat) (S : List FileV) (hm : MOwn W B n S) (x : ByteArray) (hcell : W.cell? ⟨nb, 0, none⟩ = some (.string x)) (hx : ∀ g, g ∈ S → g.name ≠ x) (hs : x.size ≤ 1048576) :
    Calls Tryd.prog 45 #[.map (some B), .pointer (some ⟨nb, 0, none⟩)] W fun e w' => e = .returned (errV A 3) ∧ W.grownBy w' (some B) := by
  have hnl := cell_lt hcell
  have HFO := hide (implFileOf_no W A hA B n S hm x hx (by omega))
  obtain ⟨D, hown, hsh⟩ := hm
  have HO := hide hown
  have hkey : keyOf Tryd.prog 9 (.string x) = some (.string x.data.toList) := WideMaps.keyOf_string_mk Tryd.underlying9 (by unfold maxLen; omega)
  clear hown hsh
  go_enter Tryd.func45, Tryd.ntmps45
  go_wp2_with fail
  refine HFO.out.mono ?_
  rintro e w1 ⟨rfl, hb1⟩
  have c1 : w1.cell? ⟨nb, 0, none⟩ = some (.string x) := by rw [hb1.cell hnl]; exact hcell
  have HG1 : Hid (W.grownBy w1 none) := hide ⟨hb1.os, hb1.tape, hb1.output, hb1.size, fun i hi _ => hb1.block i hi⟩
  have HO1 := hide (HO.out.kept HG1.out (by simp))
  have hnl1 : nb < w1.heap.size := Nat.lt_of_lt_of_le hnl hb1.size
  have hne : nb ≠ w1.heap.size := by omega
  clear hb1 hcell HFO HO
  go_wp2_with (at_delete; refine wpList_delete_own _ rfl _ _ 48 9 rfl 45 keyLaw Tryd.underlying48 _ B n _ rfl (HO1.out.alloc _) _ _ rfl hkey ?_; intro w2 hown2 ht2)
  go_ret
  refine ⟨rfl, ?_⟩
  exact (HG1.out.but _ |>.andThen (World.grownBy_alloc w1 _ none) (fun j hj => by cases hj)).andThen ht2.grown (fun j hj => Or.inr hj)

end Go.Proofs.YthhjomaccbpnbabDoor
