/-
  The closure of impl.Create.
-/
import Derived.Test.YthhjomaccbpnbabDoorStepBase
import Derived.Test.YthhjomaccbpnbabDoorNameImpl
namespace Go.Proofs.YthhjomaccbpnbabDoor
open Go.RowKit Go.Maps
open Plain

set_option maxRecDepth 100000 in
set_option maxHeartbeats 1000000 in
/-- The name is none. -/
theorem creC_bad (W : World) (A : SentA) (hA : SentIn W A) (B nb : Nat) (x : ByteArray) (hcell : W.cell? ⟨nb, 0, none⟩ = some (.string x)) (hx : ¬ nameOk x = true) (hs : x.size ≤ 1048576) :
    Calls Tryd.prog 33 #[.map (some B), .pointer (some ⟨nb, 0, none⟩)] W fun e w' => e = .returned (errV A 5) ∧ W.grownBy w' (some B) := by
  have HN : Hid (Calls Tryd.prog 34 #[.string x] W fun e w' => e = .returned (.bool false) ∧ W = w') := hide (by
    have h := implName_any x W (by omega)
    rw [Bool.eq_false_iff.2 hx] at h
    exact h)
  have g5 := hA.cArgs
  clear hA
  go_enter Tryd.func33, Tryd.ntmps33
  go_wp2_with fail
  refine HN.out.mono ?_
  rintro e w1 ⟨rfl, rfl⟩
  go_wp2
  go_ret
  exact ⟨rfl, World.grownBy.refl _ _⟩

set_option maxRecDepth 100000 in
set_option maxHeartbeats 1000000 in
/-- There is such a file. -/
theorem creC_has (W : World) (A : SentA) (hA : SentIn W A) (B n nb : Nat) (S : List FileV) (hm : MOwn W B n S) (f : FileV) (hf : f ∈ S) (hcell : W.cell? ⟨nb, 0, none⟩ = some (.string f.name)) (hx : nameOk f.name = true) (hs : f.name.size ≤ 1048576) :
    Calls Tryd.prog 33 #[.map (some B), .pointer (some ⟨nb, 0, none⟩)] W fun e w' => e = .returned (errV A 4) ∧ W.grownBy w' (some B) := by
  have HN : Hid (Calls Tryd.prog 34 #[.string f.name] W fun e w' => e = .returned (.bool true) ∧ W = w') := hide (by
    have h := implName_any f.name W (by omega)
    rw [hx] at h
    exact h)
  have g4 := hA.cHas
  have l4 := cell_lt g4
  have n4 : 1 ≠ W.heap.size := by dsimp only at l4; omega
  obtain ⟨D, hown, hsh⟩ := hm
  have hkey : keyOf Tryd.prog 9 (.string f.name) = some (litN f) := WideMaps.keyOf_string_mk Tryd.underlying9 (by unfold maxLen; omega)
  have hh : has D (litN f) = true := (hsh.has_ f.name).2 ⟨f, hf, rfl⟩
  have ha := hsh.at_ f hf
  have hl : (Instr.lookup 48 (.map (some B)) (.string f.name) true).run Tryd.prog W = .ok (.tuple #[.agg #[.string f.name, .string f.text, .int .i64 f.safe], .bool true]) W := by
    obtain ⟨v, ps, h1, h2⟩ := hown.look_ok keyLaw Tryd.underlying48 (zeroF_val W) (zd := fileD zeroF) (zp := []) (fileElem_mk zeroF) hkey
    rw [ha] at h2
    obtain ⟨g, rfl, e⟩ := fileElem_inv h2
    simp only [Prod.mk.injEq] at e
    rw [hh] at h1
    rw [h1, ← fileD_inj e.1]
    rfl
  clear hown hsh hkey hh ha hA
  go_enter Tryd.func33, Tryd.ntmps33
  go_wp2_with fail
  refine HN.out.mono ?_
  rintro e w1 ⟨rfl, rfl⟩
  go_wp2
  go_ret
  refine ⟨rfl, ?_⟩
  first | exact World.grownBy.refl _ _ | exact World.grownBy_alloc _ _ _

set_option maxRecDepth 100000 in
set_option maxHeartbeats 1000000 in
/-- There is none, and no place for one. -/
theorem creC_full (W : World) (A : SentA) (hA : SentIn W A) (B n nb : Nat) (S : List FileV) (hm : MOwn W B n S) (x : ByteArray) (hno : ∀ g, g ∈ S → g.name ≠ x) (hcell : W.cell? ⟨nb, 0, none⟩ = some (.string x)) (hx : nameOk x = true) (hs : x.size ≤ 1048576) (hlen : 130 ≤ S.length) :
    Calls Tryd.prog 33 #[.map (some B), .pointer (some ⟨nb, 0, none⟩)] W fun e w' => e = .returned (errV A 2) ∧ W.grownBy w' (some B) := by
  have HN : Hid (Calls Tryd.prog 34 #[.string x] W fun e w' => e = .returned (.bool true) ∧ W = w') := hide (by
    have h := implName_any x W (by omega)
    rw [hx] at h
    exact h)
  have g2 := hA.cFull
  have l2 := cell_lt g2
  have n2 : 2 ≠ W.heap.size := by dsimp only at l2; omega
  obtain ⟨D, hown, hsh⟩ := hm
  have hsz := hsh.size
  have hkey : keyOf Tryd.prog 9 (.string x) = some (.string x.data.toList) := WideMaps.keyOf_string_mk Tryd.underlying9 (by unfold maxLen; omega)
  have hh := hsh.no hno
  have hl : (Instr.lookup 48 (.map (some B)) (.string x) true).run Tryd.prog W = .ok (.tuple #[.agg #[.string ⟨#[]⟩, .string ⟨#[]⟩, .int .i64 0], .bool false]) W := by
    obtain ⟨v, ps, h1, h2⟩ := hown.look_ok keyLaw Tryd.underlying48 (zeroF_val W) (zd := fileD zeroF) (zp := []) (fileElem_mk zeroF) hkey
    rw [atKey_of_not_has hh] at h2
    obtain ⟨g, rfl, e⟩ := fileElem_inv h2
    simp only [Prod.mk.injEq] at e
    rw [hh] at h1
    rw [h1, ← fileD_inj e.1]
    rfl
  have HO := hide hown
  have HZ : Hid (Maps.size D = S.length) := hide hsz
  have t1 : decide ((130 : Int) ≤ (S.length : Int)) = true := by simp; omega
  clear hown hsh hkey hh hA hsz
  go_enter Tryd.func33, Tryd.ntmps33
  go_wp2_with fail
  refine HN.out.mono ?_
  rintro e w1 ⟨rfl, rfl⟩
  go_wp2_with (at_len; refine wpList_len_own _ rfl _ 48 rfl 9 45 Tryd.underlying48 _ B n _ rfl (HO.out.alloc _) ?_; rw [HZ.out])
  go_ret
  refine ⟨rfl, ?_⟩
  first | exact World.grownBy.refl _ _ | exact World.grownBy_alloc _ _ _

set_option maxRecDepth 100000 in
set_option maxHeartbeats 1000000 in
/-- There is none yet: it is made. -/
theorem creC_new (W : World) (B n nb : Nat) (S : List FileV) (hm : MOwn W B n S) (hn : n ≤ 500) (x : ByteArray) (hno : ∀ g, g ∈ S → g.name ≠ x) (hcell : W.cell? ⟨nb, 0, none⟩ = some (.string x)) (hx : nameOk x = true) (hs : x.size ≤ 1048576) (hlen : ¬ 130 ≤ S.length) :
    Calls Tryd.prog 33 #[.map (some B), .pointer (some ⟨nb, 0, none⟩)] W fun e w' => e = .returned .nilIface ∧ MOwn w' B (n + 1) (⟨x, ⟨#[]⟩, 0⟩ :: S) ∧ W.grownBy w' (some B) := by
  have HN : Hid (Calls Tryd.prog 34 #[.string x] W fun e w' => e = .returned (.bool true) ∧ W = w') := hide (by
    have h := implName_any x W (by omega)
    rw [hx] at h
    exact h)
  obtain ⟨D, hown, hsh⟩ := hm
  have hsz := hsh.size
  have hkey : keyOf Tryd.prog 9 (.string x) = some (.string x.data.toList) := WideMaps.keyOf_string_mk Tryd.underlying9 (by unfold maxLen; omega)
  have hh := hsh.no hno
  have hl : (Instr.lookup 48 (.map (some B)) (.string x) true).run Tryd.prog W = .ok (.tuple #[.agg #[.string ⟨#[]⟩, .string ⟨#[]⟩, .int .i64 0], .bool false]) W := by
    obtain ⟨v, ps, h1, h2⟩ := hown.look_ok keyLaw Tryd.underlying48 (zeroF_val W) (zd := fileD zeroF) (zp := []) (fileElem_mk zeroF) hkey
    rw [atKey_of_not_has hh] at h2
    obtain ⟨g, rfl, e⟩ := fileElem_inv h2
    simp only [Prod.mk.injEq] at e
    rw [hh] at h1
    rw [h1, ← fileD_inj e.1]
    rfl
  have HO := hide hown
  have HZ : Hid (Maps.size D = S.length) := hide hsz
  have HSH : Hid (Shows (D.put (.string x.data.toList) (fileD ⟨x, ⟨#[]⟩, 0⟩)) (⟨x, ⟨#[]⟩, 0⟩ :: S)) := hide (by
    have h1 := hsh.put ⟨x, ⟨#[]⟩, 0⟩
    rw [others_none hno] at h1
    exact h1)
  have t1 : decide ((130 : Int) ≤ (S.length : Int)) = false := by simp; omega
  have l4 := cell_lt hcell
  have n4 : nb ≠ W.heap.size := by dsimp only at l4; omega
  clear hown hsh hh hsz
  go_enter Tryd.func33, Tryd.ntmps33
  go_wp2_with fail
  refine HN.out.mono ?_
  rintro e w1 ⟨rfl, rfl⟩
  go_wp2_with first
    | (at_len; refine wpList_len_own _ rfl _ 48 rfl 9 45 Tryd.underlying48 _ B n _ rfl (HO.out.alloc _) ?_; rw [HZ.out])
    | (at_mapUpdate; refine wpList_mapUpdate_own _ rfl _ _ _ 48 rfl 9 45 keyLaw Tryd.underlying48 _ B n _ rfl (HO.out.alloc _) (by unfold maxLen; omega) _ _ _ rfl rfl hkey _ [] (fileElem_mk ⟨x, ⟨#[]⟩, 0⟩) ?_; intro w2 hown2 hg2)
  go_ret
  exact ⟨rfl, ⟨_, hown2, HSH.out⟩, (World.grownBy_alloc W _ (some B)).andThen hg2 (fun j hj => Or.inr hj)⟩

end Go.Proofs.YthhjomaccbpnbabDoor
