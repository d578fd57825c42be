/-
  The closure of impl.Rename.
-/
import Derived.Test.YthhjomaccbpnbabDoorStepBase
import Derived.Test.YthhjomaccbpnbabDoorNameImpl
namespace Go.Proofs.YthhjomaccbpnbabDoor
open Go.RowKit Go.Maps
open Plain

theorem grown_set1 (w : World) (p : Addr) (v : Value) : w.grownBy (w.setCell p v) (some p.block) := ⟨rfl, rfl, rfl, by simp, fun i _ hr => Below.heap_setCell w p v i (fun e => hr (by rw [e]))⟩

set_option maxRecDepth 100000 in
set_option maxHeartbeats 1000000 in
/-- The new name is none. -/
theorem renC_bad (W : World) (A : SentA) (hA : SentIn W A) (B tb nb : Nat) (x : ByteArray) (hcell : W.cell? ⟨tb, 0, none⟩ = some (.string x)) (hx : ¬ nameOk x = true) (hs : x.size ≤ 1048576) :
    Calls Tryd.prog 44 #[.map (some B), .pointer (some ⟨tb, 0, none⟩), .pointer (some ⟨nb, 0, none⟩)] W fun e w' => e = .returned (errV A 5) ∧ W.grownBy w' (some B) := by
  have HN : Hid (Calls Tryd.prog 34 #[.string x] W fun e w' => e = .returned (.bool false) ∧ W = w') := hide (by
    have h := implName_any x W (by omega)
    rw [Bool.eq_false_iff.2 hx] at h
    exact h)
  have g5 := hA.cArgs
  clear hA
  go_enter Tryd.func44, Tryd.ntmps44
  go_wp2_with fail
  refine HN.out.mono ?_
  rintro e w1 ⟨rfl, rfl⟩
  go_wp2
  go_ret
  exact ⟨rfl, World.grownBy.refl _ _⟩

set_option maxRecDepth 100000 in
set_option maxHeartbeats 1000000 in
/-- There is no such file. -/
theorem renC_no (W : World) (A : SentA) (hA : SentIn W A) (B n tb nb : Nat) (S : List FileV) (hm : MOwn W B n S) (x to : ByteArray) (hto : W.cell? ⟨tb, 0, none⟩ = some (.string to)) (hcell : W.cell? ⟨nb, 0, none⟩ = some (.string x)) (ht : nameOk to = true) (hx : ∀ g, g ∈ S → g.name ≠ x) (hs : x.size ≤ 1048576) (hs2 : to.size ≤ 1048576) :
    Calls Tryd.prog 44 #[.map (some B), .pointer (some ⟨tb, 0, none⟩), .pointer (some ⟨nb, 0, none⟩)] W fun e w' => e = .returned (errV A 3) ∧ W.grownBy w' (some B) := by
  have HN : Hid (Calls Tryd.prog 34 #[.string to] W fun e w' => e = .returned (.bool true) ∧ W = w') := hide (by
    have h := implName_any to W (by omega)
    rw [ht] at h
    exact h)
  have HFO := hide (implFileOf_no W A hA B n S hm x hx (by omega))
  clear hm hA
  go_enter Tryd.func44, Tryd.ntmps44
  go_wp2_with fail
  refine HN.out.mono ?_
  rintro e w0 ⟨rfl, rfl⟩
  go_wp2_with fail
  refine HFO.out.mono ?_
  rintro e w1 ⟨rfl, hb1⟩
  have HB1 := hide hb1
  clear hb1 hcell hto HFO HN
  go_wp2
  go_ret
  refine ⟨rfl, ?_⟩
  exact (World.grownBy.but ⟨HB1.out.os, HB1.out.tape, HB1.out.output, HB1.out.size, fun i hi _ => HB1.out.block i hi⟩ _).andThen (World.grownBy_alloc w1 _ none) (fun j hj => by cases hj)

set_option maxRecDepth 100000 in
set_option maxHeartbeats 1000000 in
theorem renC_yes (W : World) (B n tb nb : Nat) (S : List FileV) (hm : MOwn W B n S) (hn : n ≤ 500) (f : FileV) (hf : f ∈ S) (to : ByteArray) (hto : W.cell? ⟨tb, 0, none⟩ = some (.string to)) (hcell : W.cell? ⟨nb, 0, none⟩ = some (.string f.name)) (ht : nameOk to = true) (hs : f.name.size ≤ 1048576) (hs2 : to.size ≤ 1048576) (hbt : B ≠ tb) :
    Calls Tryd.prog 44 #[.map (some B), .pointer (some ⟨tb, 0, none⟩), .pointer (some ⟨nb, 0, none⟩)] W fun e w' => e = .returned .nilIface ∧ MOwn w' B (n + 1) (⟨to, f.text, f.safe⟩ :: others (others S f.name) to) ∧ W.grownBy w' (some B) := by
  have HN : Hid (Calls Tryd.prog 34 #[.string to] W fun e w' => e = .returned (.bool true) ∧ W = w') := hide (by
    have h := implName_any to W (by omega)
    rw [ht] at h
    exact h)
  have hB : B < W.heap.size := by obtain ⟨D, h1, h2⟩ := hm; exact h1.lt
  have hnl := cell_lt hcell
  have htl := cell_lt hto
  have HFO := hide (implFileOf_yes W B n S hm f hf (by omega))
  obtain ⟨D, hown, hsh⟩ := hm
  have HO := hide hown
  have HSH := hide ((hsh.del f.name).put ⟨to, f.text, f.safe⟩)
  have hkey : keyOf Tryd.prog 9 (.string f.name) = some (litN f) := WideMaps.keyOf_string_mk Tryd.underlying9 (by unfold maxLen; omega)
  have hkey2 : keyOf Tryd.prog 9 (.string to) = some (.string to.data.toList) := WideMaps.keyOf_string_mk Tryd.underlying9 (by unfold maxLen; omega)
  clear hown hsh
  go_enter Tryd.func44, Tryd.ntmps44
  go_wp2_with fail
  refine HN.out.mono ?_
  rintro e w0 ⟨rfl, rfl⟩
  go_wp2_with fail
  refine HFO.out.mono ?_
  rintro e w1 ⟨rfl, hb1⟩
  have c1 : w1.cell? ⟨nb, 0, none⟩ = some (.string f.name) := by rw [hb1.cell hnl]; exact hcell
  have HC2 : Hid (w1.cell? ⟨tb, 0, none⟩ = some (.string to)) := hide (by rw [hb1.cell htl]; exact hto)
  have HG1 : Hid (W.grownBy w1 none) := hide ⟨hb1.os, hb1.tape, hb1.output, hb1.size, fun i hi _ => hb1.block i hi⟩
  have HO1 := hide (HO.out.kept HG1.out (by simp))
  have hnl1 : nb < w1.heap.size := Nat.lt_of_lt_of_le hnl hb1.size
  have htl1 : tb < w1.heap.size := Nat.lt_of_lt_of_le htl hb1.size
  have hBl1 : B < w1.heap.size := Nat.lt_of_lt_of_le hB hb1.size
  have hne : nb ≠ w1.heap.size := by omega
  have hne2 : tb ≠ w1.heap.size := by omega
  clear hb1 hcell hto HFO HO HN
  obtain ⟨X, hX⟩ : ∃ X, X = w1.alloc (.cells #[.string f.name, .string f.text, .int .i64 f.safe] 45) := ⟨_, rfl⟩
  have HFX : Hid (X.heap[w1.heap.size]? = some (.cells #[.string f.name, .string f.text, .int .i64 f.safe] 45 (0, 0))) := hide (by rw [hX]; exact heap_alloc_new w1 _)
  have HXS : Hid (X.heap.size = w1.heap.size + 1) := hide (by rw [hX]; simp)
  have HCX : Hid (X.cell? ⟨tb, 0, none⟩ = some (.string to)) := hide (by
    have hb : Below w1.heap.size w1 X := by rw [hX]; exact (Below.refl _ _).alloc (Nat.le_refl _) _
    rw [hb.cell htl1]
    exact HC2.out)
  have HGX : Hid (W.grownBy X (some B)) := hide (by rw [hX]; exact (HG1.out.but _).andThen (World.grownBy_alloc w1 _ none) (fun j hj => by cases hj))
  have HOX : Hid (X.ownsMap Tryd.prog 9 fileElem B n D) := hide (by rw [hX]; exact HO1.out.alloc _)
  have HSX := hide hX
  clear hX
  have HNX : Hid (some w1.heap.size ≠ some B) := hide (fun e => by injection e with e; omega)
  have HNT : Hid (some tb ≠ some B) := hide (fun e => by injection e with e; exact hbt e.symm)
  have HKX : Hid (∀ w2, (w1.alloc (.cells #[.string f.name, .string f.text, .int .i64 f.safe] 45)).mapTurned w2 B → Hid (X.grownBy w2 (some B)) ∧ w2.cell? ⟨w1.heap.size, 0, none⟩ = some (.string f.name) ∧ w2.cell? ⟨w1.heap.size, 1, none⟩ = some (.string f.text) ∧ w2.cell? ⟨w1.heap.size, 2, none⟩ = some (.int .i64 f.safe) ∧ w2.frozen? ⟨w1.heap.size, 0, none⟩ = false ∧ w2.cell? ⟨tb, 0, none⟩ = some (.string to)) := hide (fun w2 ht2 => by
    have ht3 := ht2.grown
    rw [← HSX.out] at ht3
    have e0 := ht3.block w1.heap.size (by rw [HXS.out]; omega) HNX.out
    have e1 := e0.trans HFX.out
    obtain ⟨z0, z1, z2⟩ := cells3 e1
    exact ⟨hide ht3, z0, z1, z2, by simp [World.frozen?, e1], ht3.cell HCX.out HNT.out⟩)
  have hW1 : W.heap.size ≤ w1.heap.size := HG1.out.size
  have hsx := HXS.out
  go_wp2_with first
    | (at_delete; refine wpList_delete_own _ rfl _ _ 48 9 rfl 45 keyLaw Tryd.underlying48 _ B n _ rfl (HO1.out.alloc _) _ _ rfl hkey ?_; intro w2 hown2 ht2; obtain ⟨HT2, z0, z1, z2, z3, z4⟩ := HKX.out w2 ht2; have HO2 := hide hown2; clear ht2 hown2 c1 HKX)
    | (at_mapUpdate; refine wpList_mapUpdate_own _ rfl _ _ _ 48 rfl 9 45 keyLaw Tryd.underlying48 _ B n _ rfl (HO2.out.setCell (by dsimp only; omega) _) (by unfold maxLen; omega) _ _ _ rfl rfl hkey2 _ [] (fileElem_mk ⟨to, f.text, f.safe⟩) ?_; intro w3 hown3 hg3)
  go_ret
  refine ⟨rfl, ⟨_, hown3, HSH.out⟩, ?_⟩
  have h1 := HGX.out.andThen HT2.out (fun j hj => Or.inr hj)
  have h2 := h1.andThen (grown_set1 w2 ⟨w1.heap.size, 0, none⟩ (.string to)) (fun j hj => by injection hj with hj; subst hj; exact Or.inl hW1)
  exact h2.andThen hg3 (fun j hj => Or.inr hj)

end Go.Proofs.YthhjomaccbpnbabDoor
