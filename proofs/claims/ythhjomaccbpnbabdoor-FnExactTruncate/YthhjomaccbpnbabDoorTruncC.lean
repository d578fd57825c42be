/-
  The closure of impl.Truncate.
-/
import Derived.Test.YthhjomaccbpnbabDoorStepBase
namespace Go.Proofs.YthhjomaccbpnbabDoor
open Go.RowKit Go.Maps
open Plain

set_option maxRecDepth 100000 in
set_option maxHeartbeats 1000000 in
theorem truC_no (W : World) (A : SentA) (hA : SentIn W A) (B n nb mb : Nat) (S : List FileV) (hm : MOwn W B n S) (x : ByteArray) (hcell : W.cell? ⟨nb, 0, none⟩ = some (.string x)) (hx : ∀ g, g ∈ S → g.name ≠ x) (hs : x.size ≤ 1048576) :
    Calls Tryd.prog 47 #[.map (some B), .pointer (some ⟨nb, 0, none⟩), .pointer (some ⟨mb, 0, none⟩)] W fun e w' => e = .returned (errV A 3) ∧ W.grownBy w' (some B) := by
  have HFO := hide (implFileOf_no W A hA B n S hm x hx (by omega))
  clear hm
  go_enter Tryd.func47, Tryd.ntmps47
  go_wp2_with fail
  refine HFO.out.mono ?_
  rintro e w1 ⟨rfl, hb1⟩
  have HB1 := hide hb1
  clear hb1 hcell HFO
  go_wp2
  go_ret
  refine ⟨rfl, ?_⟩
  exact (World.grownBy.but ⟨HB1.out.os, HB1.out.tape, HB1.out.output, HB1.out.size, fun i hi _ => HB1.out.block i hi⟩ _).andThen (World.grownBy_alloc w1 _ none) (fun j hj => by cases hj)

set_option maxRecDepth 100000 in
set_option maxHeartbeats 1000000 in
theorem truC_low (W : World) (A : SentA) (hA : SentIn W A) (B n nb mb : Nat) (S : List FileV) (hm : MOwn W B n S) (f : FileV) (hf : f ∈ S) (m : Int) (hcell : W.cell? ⟨nb, 0, none⟩ = some (.string f.name)) (hmc : W.cell? ⟨mb, 0, none⟩ = some (.int .i64 m)) (hs : f.name.size ≤ 1048576) (q : m < 0) :
    Calls Tryd.prog 47 #[.map (some B), .pointer (some ⟨nb, 0, none⟩), .pointer (some ⟨mb, 0, none⟩)] W fun e w' => e = .returned (errV A 5) ∧ W.grownBy w' (some B) := by
  have HFO := hide (implFileOf_yes W B n S hm f hf (by omega))
  have hml := cell_lt hmc
  have t1 : decide (m < 0) = true := by simpa using q
  have HA := hide hA
  clear hm hA
  go_enter Tryd.func47, Tryd.ntmps47
  go_wp2_with fail
  refine HFO.out.mono ?_
  rintro e w1 ⟨rfl, hb1⟩
  have HB1 := hide hb1
  have c1 : w1.cell? ⟨mb, 0, none⟩ = some (.int .i64 m) := by rw [hb1.cell hml]; exact hmc
  have hml1 : mb < w1.heap.size := Nat.lt_of_lt_of_le hml hb1.size
  have hne : mb ≠ w1.heap.size := by omega
  have g5 := (HA.out.later hb1 (Nat.le_refl _)).cArgs
  have hg5 := cell_lt g5
  have hne5 : 0 ≠ w1.heap.size := by dsimp only at hg5; omega
  clear hb1 hcell HFO hmc
  go_wp2
  go_ret
  refine ⟨rfl, ?_⟩
  exact (World.grownBy.but ⟨HB1.out.os, HB1.out.tape, HB1.out.output, HB1.out.size, fun i hi _ => HB1.out.block i hi⟩ _).andThen (World.grownBy_alloc w1 _ none) (fun j hj => by cases hj)

set_option maxRecDepth 100000 in
set_option maxHeartbeats 1000000 in
theorem truC_high (W : World) (A : SentA) (hA : SentIn W A) (B n nb mb : Nat) (S : List FileV) (hm : MOwn W B n S) (f : FileV) (hf : f ∈ S) (m : Int) (hcell : W.cell? ⟨nb, 0, none⟩ = some (.string f.name)) (hmc : W.cell? ⟨mb, 0, none⟩ = some (.int .i64 m)) (hs : f.name.size ≤ 1048576) (q : ¬ m < 0) (q2 : (f.text.size : Int) < m) :
    Calls Tryd.prog 47 #[.map (some B), .pointer (some ⟨nb, 0, none⟩), .pointer (some ⟨mb, 0, none⟩)] W fun e w' => e = .returned (errV A 5) ∧ W.grownBy w' (some B) := by
  have HFO := hide (implFileOf_yes W B n S hm f hf (by omega))
  have hml := cell_lt hmc
  have t1 : decide (m < 0) = false := by simpa using q
  have t2 : decide ((f.text.size : Int) < m) = true := by simpa using q2
  have HA := hide hA
  clear hm hA
  go_enter Tryd.func47, Tryd.ntmps47
  go_wp2_with fail
  refine HFO.out.mono ?_
  rintro e w1 ⟨rfl, hb1⟩
  have HB1 := hide hb1
  have c1 : w1.cell? ⟨mb, 0, none⟩ = some (.int .i64 m) := by rw [hb1.cell hml]; exact hmc
  have hml1 : mb < w1.heap.size := Nat.lt_of_lt_of_le hml hb1.size
  have hne : mb ≠ w1.heap.size := by omega
  have g5 := (HA.out.later hb1 (Nat.le_refl _)).cArgs
  have hg5 := cell_lt g5
  have hne5 : 0 ≠ w1.heap.size := by dsimp only at hg5; omega
  clear hb1 hcell HFO hmc
  go_wp2
  go_ret
  refine ⟨rfl, ?_⟩
  exact (World.grownBy.but ⟨HB1.out.os, HB1.out.tape, HB1.out.output, HB1.out.size, fun i hi _ => HB1.out.block i hi⟩ _).andThen (World.grownBy_alloc w1 _ none) (fun j hj => by cases hj)

set_option maxRecDepth 100000 in
set_option maxHeartbeats 1000000 in
theorem truC_yes (W : World) (B n nb mb : Nat) (S : List FileV) (hm : MOwn W B n S) (hn : n ≤ 500) (f : FileV) (hf : f ∈ S) (m : Nat) (hcell : W.cell? ⟨nb, 0, none⟩ = some (.string f.name)) (hmc : W.cell? ⟨mb, 0, none⟩ = some (.int .i64 (m : Int))) (hs : f.name.size ≤ 1048576) (q : m ≤ f.text.size) (_hts : f.text.size ≤ 1048576) :
    Calls Tryd.prog 47 #[.map (some B), .pointer (some ⟨nb, 0, none⟩), .pointer (some ⟨mb, 0, none⟩)] W fun e w' => e = .returned .nilIface ∧ MOwn w' B (n + 1) (⟨f.name, f.text.extract 0 m, min f.safe (m : Int)⟩ :: others S f.name) ∧ W.grownBy w' (some B) := by
  have hB : B < W.heap.size := by obtain ⟨D, h1, h2⟩ := hm; exact h1.lt
  have hnl := cell_lt hcell
  have hml := cell_lt hmc
  have HFO := hide (implFileOf_yes W B n S hm f hf (by omega))
  obtain ⟨D, hown, hsh⟩ := hm
  have HO := hide hown
  have HSH := hide (hsh.put ⟨f.name, f.text.extract 0 m, min f.safe (m : Int)⟩)
  have hkey : keyOf Tryd.prog 9 (.string f.name) = some (litN f) := WideMaps.keyOf_string_mk Tryd.underlying9 (by unfold maxLen; omega)
  have t1 : decide ((m : Int) < 0) = false := by simp
  have t2 : decide ((f.text.size : Int) < (m : Int)) = false := by simp; omega
  clear hown hsh
  go_enter Tryd.func47, Tryd.ntmps47
  go_wp2_with fail
  refine HFO.out.mono ?_
  rintro e w1 ⟨rfl, hb1⟩
  have c1 : w1.cell? ⟨nb, 0, none⟩ = some (.string f.name) := by rw [hb1.cell hnl]; exact hcell
  have c2 : w1.cell? ⟨mb, 0, none⟩ = some (.int .i64 (m : Int)) := by rw [hb1.cell hml]; exact hmc
  have HG1 : Hid (W.grownBy w1 none) := hide ⟨hb1.os, hb1.tape, hb1.output, hb1.size, fun i hi _ => hb1.block i hi⟩
  have HO1 := hide (HO.out.kept HG1.out (by simp))
  have hnl1 : nb < w1.heap.size := Nat.lt_of_lt_of_le hnl hb1.size
  have hne : nb ≠ w1.heap.size := by omega
  have hml1 : mb < w1.heap.size := Nat.lt_of_lt_of_le hml hb1.size
  have hne2 : mb ≠ w1.heap.size := by omega
  have HS1 := hide hb1.size
  have hM : (m : Int) ≤ (f.text.size : Int) := by omega
  clear hb1 hcell hmc HFO HO
  go_wp2_with (at_mapUpdate; refine wpList_mapUpdate_own _ rfl _ _ _ 48 rfl 9 45 keyLaw Tryd.underlying48 _ B n _ rfl (HO1.out.alloc _) (by unfold maxLen; omega) _ _ _ rfl rfl hkey _ [] (fileElem_mk ⟨f.name, f.text.extract 0 m, min f.safe (m : Int)⟩) ?_; intro w2 hown2 hg2)
  go_ret
  refine ⟨rfl, ⟨_, hown2, HSH.out⟩, ?_⟩
  exact (HG1.out.but _ |>.andThen (World.grownBy_alloc w1 _ none) (fun j hj => by cases hj)).andThen hg2 (fun j hj => Or.inr hj)

end Go.Proofs.YthhjomaccbpnbabDoor
