/-
  impl.step. impl.Sync. The closure of impl.Create. impl.Create. The closure of impl.Append. Four new blocks at once; a block of cells is not a map's. impl.Append. The closure of impl.Remove. impl.Remove. The closure of impl.Rename. impl.Rename. The closure of impl.Truncate. impl.Truncate.
-/
import Derived.Test.YthhjomaccbpnbaaDoorMStepBad
import Derived.Test.YthhjomaccbpnbaaDoorMStepDown
import Derived.Test.YthhjomaccbpnbaaDoorMStepGo0
import Derived.Test.YthhjomaccbpnbaaDoorMStepGo1
import Derived.Test.YthhjomaccbpnbaaDoorG10
import Derived.Test.YthhjomaccbpnbaaDoorG04
import Derived.Test.YthhjomaccbpnbaaDoorMSpecs
import Derived.Test.YthhjomaccbpnbaaDoorG02
import Derived.Deep.RegionHeld3
namespace Go.Proofs.YthhjomaccbpnbaaDoor
open Go.RowKit Go.Maps
open Plain

set_option maxRecDepth 100000 in
set_option maxHeartbeats 4000000 in
theorem implStep_any (w : World) (A : SentA) (hA : SentIn w A) (a : Option Addr) (n cap : Nat) (fs : List FileV) (ha : a = none ∨ ∃ g, a = some ⟨g, 0, none⟩) (hr : FRow w 0 a n fs) (hn : n ≤ 1048576) (hz : szFs fs ≤ 1048576) (c u : Int) (d : Bool) (hu : -9223372036854775808 ≤ u) (hu2 : u ≤ 9223372036854775807)
    (g : FuncId) (cb : Array Value) (eg : ∀ args w, (callFunc g args).run Tryd.prog w = .ok (.enter g args) w) (code : Int) (hcode : 0 ≤ code ∧ code ≤ 5) (R : List FileV) (hRi : diskOk fs c u = true → code = 0 → Rising R) (P : World → Prop) (hP : ∀ W', Below w.heap.size w W' → P W') (hch : diskOk fs c u = true → Change g cb A fs code R P) :
    Calls Tryd.prog 21 #[.agg #[.slice a n cap, .int .i64 c, .int .i64 u, .bool d], .func (.func g) #[] cb] w fun e w' => (∃ a' cap', e = .returned (.tuple #[.agg #[.slice a' (stepF fs c u d code R).1.length cap', .int .i64 c, .int .i64 (begU fs c u d), .bool (begD fs c u d)], .int .i64 (stepF fs c u d code R).2]) ∧ FOwn w' w.heap.size (.slice a' (stepF fs c u d code R).1.length cap') (stepF fs c u d code R).1) ∧ Below w.heap.size w w' := by
  by_cases q : diskOk fs c u = true
  · by_cases q1 : d = true ∨ u = 0
    · exact implStep_down w A hA a n cap fs ha hr hn hz c u d hu hu2 g cb eg code hcode R hRi P hP hch q q1
    · have hd : d = false := by
        cases d
        · rfl
        · exact absurd (Or.inl rfl) q1
      subst hd
      by_cases hu1 : u = -1
      · exact implStep_go0 w A hA a n cap fs ha hr hn hz c u hu hu2 g cb eg code hcode R hRi P hP hch q q1 hu1
      · exact implStep_go1 w A hA a n cap fs ha hr hn hz c u hu hu2 g cb eg code hcode R hRi P hP hch q q1 hu1
  · exact implStep_bad w A hA a n cap fs ha hr hn hz c u d hu hu2 g cb eg code hcode R hRi P hP hch q

end Go.Proofs.YthhjomaccbpnbaaDoor
namespace Go.Proofs.YthhjomaccbpnbaaDoor
open Go.RowKit Go.Maps
open Plain

def synC (fs : List FileV) (nm : ByteArray) : Int := if findF fs nm < 0 then 3 else 0
def synR (fs : List FileV) (nm : ByteArray) : List FileV := fs.set (findF fs nm).toNat ⟨(fs.getD (findF fs nm).toNat zeroF).name, (fs.getD (findF fs nm).toNat zeroF).text, ((fs.getD (findF fs nm).toNat zeroF).text.size : Int)⟩
theorem synF_step (fs : List FileV) (c u : Int) (d : Bool) (nm : ByteArray) : stepF fs c u d (synC fs nm) (synR fs nm) = synF fs c u d nm := by
  unfold stepF synF synC synR
  by_cases h : begC fs c u d = 0
  · rw [if_pos h, if_pos h]
    by_cases h2 : findF fs nm < 0
    · simp [h2]
    · simp [h2]
  · rw [if_neg h, if_neg h]
theorem synF_len (fs : List FileV) (c u : Int) (d : Bool) (nm : ByteArray) : (synF fs c u d nm).1.length = fs.length := by
  unfold synF
  split
  · split
    · rfl
    · simp
  · rfl
theorem sync_change (A : SentA) (fs : List FileV) (hap : fs.Pairwise (fun f g => f.name ≠ g.name)) (nm : ByteArray) (hs : nm.size ≤ 1048576) (nb : Nat) :
    Change 27 #[.pointer (some ⟨nb, 0, none⟩)] A fs (synC fs nm) (synR fs nm) (fun W => W.cell? ⟨nb, 0, none⟩ = some (.string nm)) := by
  intro W B n hm hn hA hP
  by_cases h : findF fs nm < 0
  · refine (syncC_no W A hA B n nb fs hm nm hP (findF_none h) hs).mono ?_
    rintro e w' ⟨rfl, hg⟩
    have hc : synC fs nm = 3 := by unfold synC; rw [if_pos h]
    exact ⟨by rw [hc], fun e => by rw [hc] at e; omega, hg⟩
  · obtain ⟨k, hk, hkl, hkn⟩ := findF_name h
    have hc : synC fs nm = 0 := by unfold synC; rw [if_neg h]
    have hr : synR fs nm = fs.set k ⟨(fs[k]).name, (fs[k]).text, ((fs[k]).text.size : Int)⟩ := by unfold synR; rw [hk, Int.toNat_natCast, getD_of hkl]
    refine (syncC_yes W B n nb fs hm hn (fs[k]) (List.getElem_mem hkl) (by rw [hkn]; exact hP) (by rw [hkn]; omega)).mono ?_
    rintro e w' ⟨rfl, ⟨D, h1, h2⟩, hg⟩
    refine ⟨by rw [hc]; rfl, fun _ => ⟨_, ?_, D, h1.mono (by omega), h2⟩, hg⟩
    rw [hr]
    exact set_perm_others hap k hkl _

set_option maxRecDepth 100000 in
set_option maxHeartbeats 1000000 in
theorem implSync_any (w : World) (A : SentA) (hA : SentIn w A) (a : Option Addr) (n cap : Nat) (fs : List FileV) (ha : a = none ∨ ∃ g, a = some ⟨g, 0, none⟩) (hr : FRow w 0 a n fs) (hn : n ≤ 1048576) (hz : szFs fs ≤ 1048576) (c u : Int) (d : Bool) (hu : -9223372036854775808 ≤ u) (hu2 : u ≤ 9223372036854775807) (nm : ByteArray) (hs : nm.size ≤ 1048576) :
    Calls Tryd.prog 9 #[.agg #[.slice a n cap, .int .i64 c, .int .i64 u, .bool d], .string nm] w fun e w' => (∃ a' cap', e = .returned (.tuple #[.agg #[.slice a' (synF fs c u d nm).1.length cap', .int .i64 c, .int .i64 (begU fs c u d), .bool (begD fs c u d)], .int .i64 (synF fs c u d nm).2]) ∧ FOwn w' w.heap.size (.slice a' (synF fs c u d nm).1.length cap') (synF fs c u d nm).1) ∧ Below w.heap.size w w' := by
  obtain ⟨W, hW⟩ : ∃ W, W = ((w.alloc (.cells #[.slice a n cap, .int .i64 c, .int .i64 u, .bool d] 26)).alloc (.cells #[.string nm] 9)).alloc (.cells #[.slice none 0 0, .int .i64 0, .int .i64 0, .bool false] 26) := ⟨_, rfl⟩
  have hAL := alloc3 w (.cells #[.slice a n cap, .int .i64 c, .int .i64 u, .bool d] 26) (.cells #[.string nm] 9) (.cells #[.slice none 0 0, .int .i64 0, .int .i64 0, .bool false] 26)
  rw [← hW] at hAL
  have HSZ := hide hAL.1
  have HB0 := hide hAL.2.1
  have HC1 := hide hAL.2.2.2.1
  have HC2 := hide hAL.2.2.2.2
  have HST := hide (implStep_any W A (hA.later hAL.2.1 (Nat.le_refl _)) a n cap fs ha (hr.later hAL.2.1 (Nat.le_refl _)) hn hz c u d hu hu2 27 #[.pointer (some ⟨w.heap.size + 1, 0, none⟩)] (enters_of Tryd.func27 (by kernel_rfl) rfl) (synC fs nm) (by unfold synC; split <;> omega) (synR fs nm)
    (fun q h => by
      have hf : ¬ findF fs nm < 0 := fun h2 => by unfold synC at h; rw [if_pos h2] at h; omega
      obtain ⟨k, hk, hkl, hkn⟩ := findF_name hf
      unfold synR
      rw [hk, Int.toNat_natCast, getD_of hkl]
      exact rising_set (rising_of q) k hkl _ rfl)
    (fun W' => W'.cell? ⟨w.heap.size + 1, 0, none⟩ = some (.string nm))
    (fun W' hb => by rw [cell_of_row W' _ _ _ _ _ ((hb.block _ (by have := HSZ.out; omega)).trans HC1.out)]; rfl)
    (fun q => sync_change A fs (rising_of q).apart nm hs (w.heap.size + 1)))
  rw [synF_step] at HST
  clear hAL hr hA
  go_enter Tryd.func9, Tryd.ntmps9
  go_wp2_with fail
  rw [← hW]
  clear hW
  refine HST.out.mono ?_
  rintro e w2 ⟨⟨a', cap', rfl, ho⟩, hb⟩
  obtain ⟨r0, r1, r2, r3, k0, k1, k2, k3⟩ := cells4 ((hb.block _ (by have := HSZ.out; omega)).trans HC2.out)
  have HO := hide (ho.mono (base' := w.heap.size + 3) (by have := HSZ.out; omega))
  have HB := hide (HB0.out.trans (hb.mono HB0.out.size))
  clear ho hb HST HC1 HC2
  go_wp2
  refine bodyPost_ret (v := .tuple #[.agg #[.slice a' (synF fs c u d nm).1.length cap', .int .i64 c, .int .i64 (begU fs c u d), .bool (begD fs c u d)], .int .i64 (synF fs c u d nm).2]) (by simp [results, Tryd.results9, go_sem, *]) rfl ⟨⟨a', cap', rfl, ?_⟩, ?_⟩
  · refine FOwn.mono ?_ (Nat.le_add_right _ 3)
    (repeat (first | with_reducible (refine FOwn.setCell ?_ _ _ (by dsimp only; omega)) | with_reducible (refine FOwn.drewO ?_) | with_reducible (exact HO.out)))
  · (repeat (first | with_reducible (refine Below.setCell ?_ (by dsimp only; omega) _) | with_reducible (refine Below.drew ?_) | with_reducible (exact HB.out)))

end Go.Proofs.YthhjomaccbpnbaaDoor
namespace Go.Proofs.YthhjomaccbpnbaaDoor
open Go.RowKit Go.Maps
open Plain

set_option maxRecDepth 100000 in
set_option maxHeartbeats 1000000 in
/-- The name is none. -/
theorem creC_bad (W : World) (A : SentA) (hA : SentIn W A) (B nb : Nat) (x : ByteArray) (hcell : W.cell? ⟨nb, 0, none⟩ = some (.string x)) (hx : ¬ nameOk x = true) (hs : x.size ≤ 1048576) :
    Calls Tryd.prog 25 #[.map (some B), .pointer (some ⟨nb, 0, none⟩)] W fun e w' => e = .returned (errV A 5) ∧ W.grownBy w' (some B) := by
  have HN : Hid (Calls Tryd.prog 26 #[.string x] W fun e w' => e = .returned (.bool false) ∧ W = w') := hide (by
    have h := implName_any x W (by omega)
    rw [Bool.eq_false_iff.2 hx] at h
    exact h)
  have g5 := hA.cArgs
  clear hA
  go_enter Tryd.func25, Tryd.ntmps25
  go_wp2_with fail
  refine HN.out.mono ?_
  rintro e w1 ⟨rfl, rfl⟩
  go_wp2
  go_ret
  exact ⟨rfl, World.grownBy.refl _ _⟩

set_option maxRecDepth 100000 in
set_option maxHeartbeats 1000000 in
/-- There is such a file. -/
theorem creC_has (W : World) (A : SentA) (hA : SentIn W A) (B n nb : Nat) (S : List FileV) (hm : MOwn W B n S) (f : FileV) (hf : f ∈ S) (hcell : W.cell? ⟨nb, 0, none⟩ = some (.string f.name)) (hx : nameOk f.name = true) (hs : f.name.size ≤ 1048576) :
    Calls Tryd.prog 25 #[.map (some B), .pointer (some ⟨nb, 0, none⟩)] W fun e w' => e = .returned (errV A 4) ∧ W.grownBy w' (some B) := by
  have HN : Hid (Calls Tryd.prog 26 #[.string f.name] W fun e w' => e = .returned (.bool true) ∧ W = w') := hide (by
    have h := implName_any f.name W (by omega)
    rw [hx] at h
    exact h)
  have g4 := hA.cHas
  have l4 := cell_lt g4
  have n4 : 2 ≠ W.heap.size := by dsimp only at l4; omega
  obtain ⟨D, hown, hsh⟩ := hm
  have hkey : keyOf Tryd.prog 9 (.string f.name) = some (litN f) := WideMaps.keyOf_string_mk Tryd.underlying9 (by unfold maxLen; omega)
  have hh : has D (litN f) = true := (hsh.has_ f.name).2 ⟨f, hf, rfl⟩
  have ha := hsh.at_ f hf
  have hl : (Instr.lookup 47 (.map (some B)) (.string f.name) true).run Tryd.prog W = .ok (.tuple #[.agg #[.string f.name, .string f.text, .int .i64 f.safe], .bool true]) W := by
    obtain ⟨v, ps, h1, h2⟩ := hown.look_ok keyLaw Tryd.underlying47 (zeroF_val W) (zd := fileD zeroF) (zp := []) (fileElem_mk zeroF) hkey
    rw [ha] at h2
    obtain ⟨g, rfl, e⟩ := fileElem_inv h2
    simp only [Prod.mk.injEq] at e
    rw [hh] at h1
    rw [h1, ← fileD_inj e.1]
    rfl
  clear hown hsh hkey hh ha hA
  go_enter Tryd.func25, Tryd.ntmps25
  go_wp2_with fail
  refine HN.out.mono ?_
  rintro e w1 ⟨rfl, rfl⟩
  go_wp2
  go_ret
  refine ⟨rfl, ?_⟩
  first | exact World.grownBy.refl _ _ | exact World.grownBy_alloc _ _ _

set_option maxRecDepth 100000 in
set_option maxHeartbeats 1000000 in
/-- There is none, and no place for one. -/
theorem creC_full (W : World) (A : SentA) (hA : SentIn W A) (B n nb : Nat) (S : List FileV) (hm : MOwn W B n S) (x : ByteArray) (hno : ∀ g, g ∈ S → g.name ≠ x) (hcell : W.cell? ⟨nb, 0, none⟩ = some (.string x)) (hx : nameOk x = true) (hs : x.size ≤ 1048576) (hlen : 130 ≤ S.length) :
    Calls Tryd.prog 25 #[.map (some B), .pointer (some ⟨nb, 0, none⟩)] W fun e w' => e = .returned (errV A 2) ∧ W.grownBy w' (some B) := by
  have HN : Hid (Calls Tryd.prog 26 #[.string x] W fun e w' => e = .returned (.bool true) ∧ W = w') := hide (by
    have h := implName_any x W (by omega)
    rw [hx] at h
    exact h)
  have g2 := hA.cFull
  have l2 := cell_lt g2
  have n2 : 0 ≠ W.heap.size := by dsimp only at l2; omega
  obtain ⟨D, hown, hsh⟩ := hm
  have hsz := hsh.size
  have hkey : keyOf Tryd.prog 9 (.string x) = some (.string x.data.toList) := WideMaps.keyOf_string_mk Tryd.underlying9 (by unfold maxLen; omega)
  have hh := hsh.no hno
  have hl : (Instr.lookup 47 (.map (some B)) (.string x) true).run Tryd.prog W = .ok (.tuple #[.agg #[.string ⟨#[]⟩, .string ⟨#[]⟩, .int .i64 0], .bool false]) W := by
    obtain ⟨v, ps, h1, h2⟩ := hown.look_ok keyLaw Tryd.underlying47 (zeroF_val W) (zd := fileD zeroF) (zp := []) (fileElem_mk zeroF) hkey
    rw [atKey_of_not_has hh] at h2
    obtain ⟨g, rfl, e⟩ := fileElem_inv h2
    simp only [Prod.mk.injEq] at e
    rw [hh] at h1
    rw [h1, ← fileD_inj e.1]
    rfl
  have HO := hide hown
  have HZ : Hid (Maps.size D = S.length) := hide hsz
  have t1 : decide ((130 : Int) ≤ (S.length : Int)) = true := by simp; omega
  clear hown hsh hkey hh hA hsz
  go_enter Tryd.func25, Tryd.ntmps25
  go_wp2_with fail
  refine HN.out.mono ?_
  rintro e w1 ⟨rfl, rfl⟩
  go_wp2_with (at_len; refine wpList_len_own _ rfl _ 47 rfl 9 51 Tryd.underlying47 _ B n _ rfl (HO.out.alloc _) ?_; rw [HZ.out])
  go_ret
  refine ⟨rfl, ?_⟩
  first | exact World.grownBy.refl _ _ | exact World.grownBy_alloc _ _ _

set_option maxRecDepth 100000 in
set_option maxHeartbeats 1000000 in
/-- There is none yet: it is made. -/
theorem creC_new (W : World) (B n nb : Nat) (S : List FileV) (hm : MOwn W B n S) (hn : n ≤ 500) (x : ByteArray) (hno : ∀ g, g ∈ S → g.name ≠ x) (hcell : W.cell? ⟨nb, 0, none⟩ = some (.string x)) (hx : nameOk x = true) (hs : x.size ≤ 1048576) (hlen : ¬ 130 ≤ S.length) :
    Calls Tryd.prog 25 #[.map (some B), .pointer (some ⟨nb, 0, none⟩)] W fun e w' => e = .returned .nilIface ∧ MOwn w' B (n + 1) (⟨x, ⟨#[]⟩, 0⟩ :: S) ∧ W.grownBy w' (some B) := by
  have HN : Hid (Calls Tryd.prog 26 #[.string x] W fun e w' => e = .returned (.bool true) ∧ W = w') := hide (by
    have h := implName_any x W (by omega)
    rw [hx] at h
    exact h)
  obtain ⟨D, hown, hsh⟩ := hm
  have hsz := hsh.size
  have hkey : keyOf Tryd.prog 9 (.string x) = some (.string x.data.toList) := WideMaps.keyOf_string_mk Tryd.underlying9 (by unfold maxLen; omega)
  have hh := hsh.no hno
  have hl : (Instr.lookup 47 (.map (some B)) (.string x) true).run Tryd.prog W = .ok (.tuple #[.agg #[.string ⟨#[]⟩, .string ⟨#[]⟩, .int .i64 0], .bool false]) W := by
    obtain ⟨v, ps, h1, h2⟩ := hown.look_ok keyLaw Tryd.underlying47 (zeroF_val W) (zd := fileD zeroF) (zp := []) (fileElem_mk zeroF) hkey
    rw [atKey_of_not_has hh] at h2
    obtain ⟨g, rfl, e⟩ := fileElem_inv h2
    simp only [Prod.mk.injEq] at e
    rw [hh] at h1
    rw [h1, ← fileD_inj e.1]
    rfl
  have HO := hide hown
  have HZ : Hid (Maps.size D = S.length) := hide hsz
  have HSH : Hid (Shows (D.put (.string x.data.toList) (fileD ⟨x, ⟨#[]⟩, 0⟩)) (⟨x, ⟨#[]⟩, 0⟩ :: S)) := hide (by
    have h1 := hsh.put ⟨x, ⟨#[]⟩, 0⟩
    rw [others_none hno] at h1
    exact h1)
  have t1 : decide ((130 : Int) ≤ (S.length : Int)) = false := by simp; omega
  have l4 := cell_lt hcell
  have n4 : nb ≠ W.heap.size := by dsimp only at l4; omega
  clear hown hsh hh hsz
  go_enter Tryd.func25, Tryd.ntmps25
  go_wp2_with fail
  refine HN.out.mono ?_
  rintro e w1 ⟨rfl, rfl⟩
  go_wp2_with first
    | (at_len; refine wpList_len_own _ rfl _ 47 rfl 9 51 Tryd.underlying47 _ B n _ rfl (HO.out.alloc _) ?_; rw [HZ.out])
    | (at_mapUpdate; refine wpList_mapUpdate_own _ rfl _ _ _ 47 rfl 9 51 keyLaw Tryd.underlying47 _ B n _ rfl (HO.out.alloc _) (by unfold maxLen; omega) _ _ _ rfl rfl hkey _ [] (fileElem_mk ⟨x, ⟨#[]⟩, 0⟩) ?_; intro w2 hown2 hg2)
  go_ret
  exact ⟨rfl, ⟨_, hown2, HSH.out⟩, (World.grownBy_alloc W _ (some B)).andThen hg2 (fun j hj => Or.inr hj)⟩

end Go.Proofs.YthhjomaccbpnbaaDoor
namespace Go.Proofs.YthhjomaccbpnbaaDoor
open Go.RowKit Go.Maps
open Plain

theorem create_change (A : SentA) (fs : List FileV) (nm : ByteArray) (hs : nm.size ≤ 1048576) (nb : Nat) :
    Change 25 #[.pointer (some ⟨nb, 0, none⟩)] A fs (creC fs nm) (creR fs nm) (fun W => W.cell? ⟨nb, 0, none⟩ = some (.string nm)) := by
  intro W B n hm hn hA hP
  by_cases h1 : nameOk nm = true
  · by_cases h2 : findF fs nm < 0
    · by_cases h3 : 130 ≤ fs.length
      · have hc : creC fs nm = 2 := by unfold creC; rw [if_pos h1, if_pos h2, if_pos h3]
        refine (creC_full W A hA B n nb fs hm nm (findF_none h2) hP h1 hs h3).mono ?_
        rintro e w' ⟨rfl, hg⟩
        exact ⟨by rw [hc], fun e => by rw [hc] at e; omega, hg⟩
      · have hc : creC fs nm = 0 := by unfold creC; rw [if_pos h1, if_pos h2, if_neg h3]
        refine (creC_new W B n nb fs hm hn nm (findF_none h2) hP h1 hs h3).mono ?_
        rintro e w' ⟨rfl, ⟨D, h1, h2⟩, hg⟩
        exact ⟨by rw [hc]; rfl, fun _ => ⟨_, insF_perm _ _, D, h1.mono (by omega), h2⟩, hg⟩
    · have hc : creC fs nm = 4 := by unfold creC; rw [if_pos h1, if_neg h2]
      obtain ⟨k, hk, hkl, hkn⟩ := findF_name h2
      refine (creC_has W A hA B n nb fs hm (fs[k]) (List.getElem_mem hkl) (by rw [hkn]; exact hP) (by rw [hkn]; exact h1) (by rw [hkn]; omega)).mono ?_
      rintro e w' ⟨rfl, hg⟩
      exact ⟨by rw [hc], fun e => by rw [hc] at e; omega, hg⟩
  · have hc : creC fs nm = 5 := by unfold creC; rw [if_neg h1]
    refine (creC_bad W A hA B nb nm hP h1 hs).mono ?_
    rintro e w' ⟨rfl, hg⟩
    exact ⟨by rw [hc], fun e => by rw [hc] at e; omega, hg⟩
theorem creC_code (fs : List FileV) (nm : ByteArray) : 0 ≤ creC fs nm ∧ creC fs nm ≤ 5 := by
  unfold creC
  repeat' split
  all_goals omega

set_option maxRecDepth 100000 in
set_option maxHeartbeats 1000000 in
theorem implCreate_any (w : World) (A : SentA) (hA : SentIn w A) (a : Option Addr) (n cap : Nat) (fs : List FileV) (ha : a = none ∨ ∃ g, a = some ⟨g, 0, none⟩) (hr : FRow w 0 a n fs) (hn : n ≤ 1048576) (hz : szFs fs ≤ 1048576) (c u : Int) (d : Bool) (hu : -9223372036854775808 ≤ u) (hu2 : u ≤ 9223372036854775807) (nm : ByteArray) (hs : nm.size ≤ 1048576) :
    Calls Tryd.prog 8 #[.agg #[.slice a n cap, .int .i64 c, .int .i64 u, .bool d], .string nm] w fun e w' => (∃ a' cap', e = .returned (.tuple #[.agg #[.slice a' (creF fs c u d nm).1.length cap', .int .i64 c, .int .i64 (begU fs c u d), .bool (begD fs c u d)], .int .i64 (creF fs c u d nm).2]) ∧ FOwn w' w.heap.size (.slice a' (creF fs c u d nm).1.length cap') (creF fs c u d nm).1) ∧ Below w.heap.size w w' := by
  obtain ⟨W, hW⟩ : ∃ W, W = ((w.alloc (.cells #[.slice a n cap, .int .i64 c, .int .i64 u, .bool d] 26)).alloc (.cells #[.string nm] 9)).alloc (.cells #[.slice none 0 0, .int .i64 0, .int .i64 0, .bool false] 26) := ⟨_, rfl⟩
  have hAL := alloc3 w (.cells #[.slice a n cap, .int .i64 c, .int .i64 u, .bool d] 26) (.cells #[.string nm] 9) (.cells #[.slice none 0 0, .int .i64 0, .int .i64 0, .bool false] 26)
  rw [← hW] at hAL
  have HSZ := hide hAL.1
  have HB0 := hide hAL.2.1
  have HC0 := hide hAL.2.2.1
  have HC1 := hide hAL.2.2.2.1
  have HC2 := hide hAL.2.2.2.2
  have HRW := hide (hr.later hAL.2.1 (Nat.le_refl _))
  have HST := hide (implStep_any W A (hA.later hAL.2.1 (Nat.le_refl _)) a n cap fs ha (hr.later hAL.2.1 (Nat.le_refl _)) hn hz c u d hu hu2 25 #[.pointer (some ⟨w.heap.size + 1, 0, none⟩)] (enters_of Tryd.func25 (by kernel_rfl) rfl) (creC fs nm) (creC_code fs nm) (creR fs nm)
    (fun q h => creR_rising (rising_of q) nm h)
    (fun W' => W'.cell? ⟨w.heap.size + 1, 0, none⟩ = some (.string nm))
    (fun W' hb => by rw [cell_of_row W' _ _ _ _ _ ((hb.block _ (by have := HSZ.out; omega)).trans HC1.out)]; rfl)
    (fun q => create_change A fs nm hs (w.heap.size + 1)))
  rw [creF_step] at HST
  clear hAL hr hA HRW
  go_enter Tryd.func8, Tryd.ntmps8
  go_wp2_with fail
  rw [← hW]
  clear hW
  refine HST.out.mono ?_
  rintro e w2 ⟨⟨a', cap', rfl, ho⟩, hb⟩
  obtain ⟨r0, r1, r2, r3, k0, k1, k2, k3⟩ := cells4 ((hb.block _ (by have := HSZ.out; omega)).trans HC2.out)
  have HO := hide (ho.mono (base' := w.heap.size + 3) (by have := HSZ.out; omega))
  have HB := hide (HB0.out.trans (hb.mono HB0.out.size))
  clear ho hb HST HC0 HC1 HC2
  go_wp2
  refine bodyPost_ret (v := .tuple #[.agg #[.slice a' (creF fs c u d nm).1.length cap', .int .i64 c, .int .i64 (begU fs c u d), .bool (begD fs c u d)], .int .i64 (creF fs c u d nm).2]) (by simp [results, Tryd.results8, go_sem, *]) rfl ⟨⟨a', cap', rfl, ?_⟩, ?_⟩
  · refine FOwn.mono ?_ (Nat.le_add_right _ 3)
    (repeat (first | with_reducible (refine FOwn.setCell ?_ _ _ (by dsimp only; omega)) | with_reducible (refine FOwn.drewO ?_) | with_reducible (exact HO.out)))
  · (repeat (first | with_reducible (refine Below.setCell ?_ (by dsimp only; omega) _) | with_reducible (refine Below.drew ?_) | with_reducible (exact HB.out)))

end Go.Proofs.YthhjomaccbpnbaaDoor
namespace Go.Proofs.YthhjomaccbpnbaaDoor
open Go.RowKit Go.Maps
open Plain

/-- What the closure has captured: the name, the text, the disk. -/
structure AppIn (W : World) (nb tb db : Nat) (x t : ByteArray) (a : Option Addr) (n cap : Nat) (c u : Int) (d : Bool) (fs : List FileV) : Prop where
  nam : W.cell? ⟨nb, 0, none⟩ = some (.string x)
  txt : W.cell? ⟨tb, 0, none⟩ = some (.string t)
  dsk : W.heap[db]? = some (.cells #[.slice a n cap, .int .i64 c, .int .i64 u, .bool d] 26 (0, 0))
  row : FRow W 0 a n fs
theorem AppIn.later {W W' : World} {nb tb db : Nat} {x t : ByteArray} {a : Option Addr} {n cap : Nat} {c u : Int} {d : Bool} {fs : List FileV} (h : AppIn W nb tb db x t a n cap c u d fs) (hb : Below W.heap.size W W') : AppIn W' nb tb db x t a n cap c u d fs where
  nam := by rw [hb.cell (cell_lt h.nam)]; exact h.nam
  txt := by rw [hb.cell (cell_lt h.txt)]; exact h.txt
  dsk := (hb.block _ (blk_lt h.dsk)).trans h.dsk
  row := h.row.later hb (Nat.le_refl _)

set_option maxRecDepth 100000 in
set_option maxHeartbeats 1000000 in
theorem appC_no (W : World) (A : SentA) (hA : SentIn W A) (B n nb tb db : Nat) (S : List FileV) (hm : MOwn W B n S) (x : ByteArray) (hcell : W.cell? ⟨nb, 0, none⟩ = some (.string x)) (hx : ∀ g, g ∈ S → g.name ≠ x) (hs : x.size ≤ 1048576) :
    Calls Tryd.prog 22 #[.map (some B), .pointer (some ⟨nb, 0, none⟩), .pointer (some ⟨tb, 0, none⟩), .pointer (some ⟨db, 0, none⟩)] W fun e w' => e = .returned (errV A 3) ∧ W.grownBy w' (some B) := by
  have HFO := hide (implFileOf_no W A hA B n S hm x hx (by omega))
  clear hm
  go_enter Tryd.func22, Tryd.ntmps22
  go_wp2_with fail
  refine HFO.out.mono ?_
  rintro e w1 ⟨rfl, hb1⟩
  have HB1 := hide hb1
  clear hb1 hcell HFO
  go_wp2
  go_ret
  refine ⟨rfl, ?_⟩
  exact (World.grownBy.but ⟨HB1.out.os, HB1.out.tape, HB1.out.output, HB1.out.size, fun i hi _ => HB1.out.block i hi⟩ _).andThen (World.grownBy_alloc w1 _ none) (fun j hj => by cases hj)

set_option maxRecDepth 100000 in
set_option maxHeartbeats 2000000 in
theorem appC_full (W : World) (A : SentA) (hA : SentIn W A) (B n nb tb db : Nat) (S : List FileV) (hm : MOwn W B n S) (f : FileV) (hf : f ∈ S) (t : ByteArray) (a : Option Addr) (k cap : Nat) (c u : Int) (d : Bool) (fs : List FileV) (hin : AppIn W nb tb db f.name t a k cap c u d fs) (hs : f.name.size ≤ 1048576) (hk : k ≤ 1048576) (hus : usedF fs ≤ 1048576) (hc : 0 ≤ c ∧ c ≤ 100000) (q : c - (usedF fs : Int) < (t.size : Int)) :
    Calls Tryd.prog 22 #[.map (some B), .pointer (some ⟨nb, 0, none⟩), .pointer (some ⟨tb, 0, none⟩), .pointer (some ⟨db, 0, none⟩)] W fun e w' => e = .returned (errV A 2) ∧ W.grownBy w' (some B) := by
  have HFO := hide (implFileOf_yes W B n S hm f hf (by omega))
  clear hm
  have HI := hide hin
  have HA := hide hA
  have hnl := hin.nam
  clear hA hin
  go_enter Tryd.func22, Tryd.ntmps22
  go_wp2_with fail
  refine HFO.out.mono ?_
  rintro e w1 ⟨rfl, hb1⟩
  clear hnl
  obtain ⟨X, hX⟩ : ∃ X, X = w1.alloc (.cells #[.string f.name, .string f.text, .int .i64 f.safe] 51) := ⟨_, rfl⟩
  have hbX : Below W.heap.size W X := by rw [hX]; exact hb1.trans (((Below.refl _ _).alloc (Nat.le_refl _) _).mono hb1.size)
  have HX := hide hbX
  have HIX := hide (HI.out.later hbX)
  clear hbX hb1 HFO
  have wf : IntKind.i64.wrap (c - (usedF fs : Int)) = c - (usedF fs : Int) := by rw [IntKind.wrap_i64]; omega
  have t2 : decide (c - (usedF fs : Int) < (t.size : Int)) = true := by simpa using q
  have HLW : Hid (∀ w', Below X.heap.size X w' → w'.cell? ⟨db, 0, none⟩ = some (.slice a k cap) ∧ w'.cell? ⟨db, 1, none⟩ = some (.int .i64 c) ∧ w'.cell? ⟨tb, 0, none⟩ = some (.string t) ∧ Hid (Below X.heap.size X w')) := hide (fun w' h => by
    have hi := HIX.out.later h
    obtain ⟨z0, z1, -⟩ := cells4 hi.dsk
    exact ⟨z0, z1, hi.txt, hide h⟩)
  have HBY : Hid (∀ w', Hid (Below X.heap.size X w') → Calls Tryd.prog 24 #[.slice a k cap] w' fun e w'' => e = .returned (.int .i64 (usedF fs)) ∧ Below X.heap.size X w'') := hide (fun w' h =>
    (implBytes_any w' a k cap fs (HIX.out.later h.out).row (by omega) (by omega)).mono (fun e w'' ⟨h1, h2⟩ => ⟨h1, h.out.trans (h2.mono h.out.size)⟩))
  have S0 := HLW.out X.drew (Below.refl _ _).drew
  have c0 := (cells4 HIX.out.dsk).1
  have c1 := (cells4 HIX.out.dsk).2.1
  have c2 := HIX.out.txt
  go_wp2
  rw [← hX]
  clear c0 c1 c2 hX
  first
    | (go_region_held3 (fun w' => w'.cell? ⟨db, 0, none⟩ = some (.slice a k cap) ∧ w'.cell? ⟨db, 1, none⟩ = some (.int .i64 c) ∧ w'.cell? ⟨tb, 0, none⟩ = some (.string t) ∧ Hid (Below X.heap.size X w')) (assumption) ((go_at_call 24; refine (HBY.out _ (by simp only [*])).mono ?_; rintro e w5 ⟨rfl, hb5⟩; have hS5 := HLW.out w5 hb5)))
    | fail
  have hbw := HX.out.trans (hb5.mono HX.out.size)
  have HBW := hide hbw
  have g2 := (HA.out.later hbw (Nat.le_refl _)).cFull
  clear hbw hb5 hS5 S0 HLW HBY HIX HX
  go_wp2
  go_ret
  refine ⟨rfl, ?_⟩
  exact World.grownBy.but ⟨HBW.out.os, HBW.out.tape, HBW.out.output, HBW.out.size, fun i hi _ => HBW.out.block i hi⟩ _

set_option maxRecDepth 100000 in
set_option maxHeartbeats 2000000 in
theorem appC_yes (W : World) (B n nb tb db : Nat) (S : List FileV) (hm : MOwn W B n S) (hn : n ≤ 500) (f : FileV) (hf : f ∈ S) (t : ByteArray) (a : Option Addr) (k cap : Nat) (c u : Int) (d : Bool) (fs : List FileV) (hin : AppIn W nb tb db f.name t a k cap c u d fs) (hs : f.name.size ≤ 1048576) (hts : f.text.size ≤ 1048576) (ht : t.size ≤ 1048576) (hk : k ≤ 1048576) (hus : usedF fs ≤ 1048576) (hc : 0 ≤ c ∧ c ≤ 100000) (q : ¬ c - (usedF fs : Int) < (t.size : Int)) :
    Calls Tryd.prog 22 #[.map (some B), .pointer (some ⟨nb, 0, none⟩), .pointer (some ⟨tb, 0, none⟩), .pointer (some ⟨db, 0, none⟩)] W fun e w' => e = .returned .nilIface ∧ MOwn w' B (n + 1) (⟨f.name, f.text ++ t, f.safe⟩ :: others S f.name) ∧ W.grownBy w' (some B) := by
  have hB : B < W.heap.size := by obtain ⟨D, h1, h2⟩ := hm; exact h1.lt
  have HFO := hide (implFileOf_yes W B n S hm f hf (by omega))
  obtain ⟨D, hown, hsh⟩ := hm
  have HO := hide hown
  have HSH := hide (hsh.put ⟨f.name, f.text ++ t, f.safe⟩)
  have hkey : keyOf Tryd.prog 9 (.string f.name) = some (litN f) := WideMaps.keyOf_string_mk Tryd.underlying9 (by unfold maxLen; omega)
  clear hown hsh
  have HI := hide hin
  have hnl := hin.nam
  clear hin
  go_enter Tryd.func22, Tryd.ntmps22
  go_wp2_with fail
  refine HFO.out.mono ?_
  rintro e w1 ⟨rfl, hb1⟩
  clear hnl
  obtain ⟨X, hX⟩ : ∃ X, X = w1.alloc (.cells #[.string f.name, .string f.text, .int .i64 f.safe] 51) := ⟨_, rfl⟩
  have hbX : Below W.heap.size W X := by rw [hX]; exact hb1.trans (((Below.refl _ _).alloc (Nat.le_refl _) _).mono hb1.size)
  have HX := hide hbX
  have HIX := hide (HI.out.later hbX)
  have HFX : Hid (X.heap[w1.heap.size]? = some (.cells #[.string f.name, .string f.text, .int .i64 f.safe] 51 (0, 0))) := hide (by rw [hX]; exact heap_alloc_new w1 _)
  have hx1 : W.heap.size ≤ w1.heap.size := hb1.size
  clear hbX hb1 HFO
  have wf : IntKind.i64.wrap (c - (usedF fs : Int)) = c - (usedF fs : Int) := by rw [IntKind.wrap_i64]; omega
  have t2 : decide (c - (usedF fs : Int) < (t.size : Int)) = false := by simpa using q
  have HLW : Hid (∀ w', Below X.heap.size X w' → w'.cell? ⟨db, 0, none⟩ = some (.slice a k cap) ∧ w'.cell? ⟨db, 1, none⟩ = some (.int .i64 c) ∧ w'.cell? ⟨tb, 0, none⟩ = some (.string t) ∧ Hid (Below X.heap.size X w')) := hide (fun w' h => by
    have hi := HIX.out.later h
    obtain ⟨z0, z1, -⟩ := cells4 hi.dsk
    exact ⟨z0, z1, hi.txt, hide h⟩)
  have HBY : Hid (∀ w', Hid (Below X.heap.size X w') → Calls Tryd.prog 24 #[.slice a k cap] w' fun e w'' => e = .returned (.int .i64 (usedF fs)) ∧ Below X.heap.size X w'') := hide (fun w' h =>
    (implBytes_any w' a k cap fs (HIX.out.later h.out).row (by omega) (by omega)).mono (fun e w'' ⟨h1, h2⟩ => ⟨h1, h.out.trans (h2.mono h.out.size)⟩))
  have S0 := HLW.out X.drew (Below.refl _ _).drew
  have c0 := (cells4 HIX.out.dsk).1
  have c1 := (cells4 HIX.out.dsk).2.1
  have c2 := HIX.out.txt
  go_wp2
  rw [← hX]
  clear c0 c1 c2 hX
  first
    | (go_region_held3 (fun w' => w'.cell? ⟨db, 0, none⟩ = some (.slice a k cap) ∧ w'.cell? ⟨db, 1, none⟩ = some (.int .i64 c) ∧ w'.cell? ⟨tb, 0, none⟩ = some (.string t) ∧ Hid (Below X.heap.size X w')) (assumption) ((go_at_call 24; refine (HBY.out _ (by simp only [*])).mono ?_; rintro e w5 ⟨rfl, hb5⟩; have hS5 := HLW.out w5 hb5)))
    | fail
  have hxl : w1.heap.size < X.heap.size := blk_lt HFX.out
  have hbw := HX.out.trans (hb5.mono HX.out.size)
  have HBW := hide hbw
  have hi5 := HIX.out.later hb5
  have c1 := hi5.nam
  have c2 := hi5.txt
  have hf5 := (hb5.block _ hxl).trans HFX.out
  obtain ⟨z0, z1, z2⟩ := cells3 hf5
  have z3 : w5.frozen? ⟨w1.heap.size, 1, none⟩ = false := by simp [World.frozen?, hf5]
  have hnn : nb < W.heap.size := cell_lt HI.out.nam
  have hnt : tb < W.heap.size := cell_lt HI.out.txt
  have n1 : nb ≠ w1.heap.size := by omega
  have n2 : tb ≠ w1.heap.size := by omega
  have n3 : w1.heap.size ≠ nb := by omega
  have n4 : w1.heap.size ≠ tb := by omega
  have HG5 : Hid (W.grownBy w5 none) := hide ⟨hbw.os, hbw.tape, hbw.output, hbw.size, fun i hi _ => hbw.block i hi⟩
  have HO5 := hide (HO.out.kept HG5.out (by simp))
  obtain ⟨x, hx⟩ : ∃ x, w1.heap.size = x := ⟨_, rfl⟩
  rw [hx] at z0 z1 z2 z3 n1 n2 n3 n4 hx1 ⊢
  clear hbw hb5 hS5 S0 HLW HBY HIX HX hi5 hf5 HFX hx hxl HO HI
  go_wp2_with (at_mapUpdate; refine wpList_mapUpdate_own _ rfl _ _ _ 47 rfl 9 51 keyLaw Tryd.underlying47 _ B n _ rfl (HO5.out.setCell (by dsimp only; omega) _) (by unfold maxLen; omega) _ _ _ rfl rfl hkey _ [] (fileElem_mk ⟨f.name, f.text ++ t, f.safe⟩) ?_; intro w6 hown6 hg6)
  go_ret
  refine ⟨rfl, ⟨_, hown6, HSH.out⟩, ?_⟩
  have hb := HBW.out.setCell (p := ⟨x, 1, none⟩) hx1 (.string (f.text ++ t))
  exact (World.grownBy.but ⟨hb.os, hb.tape, hb.output, hb.size, fun i hi _ => hb.block i hi⟩ _).andThen hg6 (fun j hj => Or.inr hj)

end Go.Proofs.YthhjomaccbpnbaaDoor
namespace Go.Proofs.YthhjomaccbpnbaaDoor
open Go.RowKit Go.Maps

/-- Four new blocks. -/
theorem alloc4 (w : World) (o0 o1 o2 o3 : Obj) : ((((w.alloc o0).alloc o1).alloc o2).alloc o3).heap.size = w.heap.size + 4 ∧ Below w.heap.size w ((((w.alloc o0).alloc o1).alloc o2).alloc o3) ∧
    ((((w.alloc o0).alloc o1).alloc o2).alloc o3).heap[w.heap.size]? = some o0 ∧ ((((w.alloc o0).alloc o1).alloc o2).alloc o3).heap[w.heap.size + 1]? = some o1 ∧ ((((w.alloc o0).alloc o1).alloc o2).alloc o3).heap[w.heap.size + 1 + 1]? = some o2 ∧ ((((w.alloc o0).alloc o1).alloc o2).alloc o3).heap[w.heap.size + 3]? = some o3 := by
  obtain ⟨h1, h2, h3, h4, h5⟩ := alloc3 w o0 o1 o2
  generalize ((w.alloc o0).alloc o1).alloc o2 = W at *
  refine ⟨by rw [size_alloc]; omega, h2.alloc (by omega) _, ?_, ?_, ?_, ?_⟩
  · rw [Below.heap_alloc _ _ _ (by omega)]; exact h3
  · rw [Below.heap_alloc _ _ _ (by omega)]; exact h4
  · rw [Below.heap_alloc _ _ _ (by omega)]; exact h5
  · have := heap_alloc_new W o3
    rw [h1] at this
    exact this
/-- A block of cells is not the map's. -/
theorem mown_ne {W : World} {B n : Nat} {S : List FileV} (hm : MOwn W B n S) {p : Addr} {v : Value} (h : W.cell? p = some v) : B ≠ p.block := by
  rintro rfl
  obtain ⟨D, ⟨es, clock, hb, _⟩, _⟩ := hm
  simp [World.cell?, hb] at h

end Go.Proofs.YthhjomaccbpnbaaDoor
namespace Go.Proofs.YthhjomaccbpnbaaDoor
open Go.RowKit Go.Maps
open Plain

theorem append_change (A : SentA) (fs : List FileV) (hap : fs.Pairwise (fun f g => f.name ≠ g.name)) (nm t : ByteArray) (hs : nm.size ≤ 1048576) (ht : t.size ≤ 1048576) (nb tb db : Nat) (a : Option Addr) (k cap : Nat) (c u : Int) (d : Bool) (hk : k ≤ 1048576) (hz : szFs fs ≤ 1048576) (hc : 0 ≤ c ∧ c ≤ 100000) :
    Change 22 #[.pointer (some ⟨nb, 0, none⟩), .pointer (some ⟨tb, 0, none⟩), .pointer (some ⟨db, 0, none⟩)] A fs (appC fs c nm t) (appR fs nm t) (fun W => AppIn W nb tb db nm t a k cap c u d fs) := by
  intro W B n hm hn hA hP
  have hus : usedF fs ≤ 1048576 := Nat.le_trans (usedF_le_sz fs) hz
  by_cases h : findF fs nm < 0
  · have hc : appC fs c nm t = 3 := by unfold appC; rw [if_pos h]
    refine (appC_no W A hA B n nb tb db fs hm nm hP.nam (findF_none h) hs).mono ?_
    rintro e w' ⟨rfl, hg⟩
    exact ⟨by rw [hc], fun e => by rw [hc] at e; omega, hg⟩
  · obtain ⟨j, hj, hjl, hjn⟩ := findF_name h
    have hts : (fs[j]).text.size ≤ 1048576 := Nat.le_trans (text_le fs j hjl) hz
    by_cases h2 : c - (usedF fs : Int) < (t.size : Int)
    · have hc2 : appC fs c nm t = 2 := by unfold appC; rw [if_neg h, if_pos h2]
      refine (appC_full W A hA B n nb tb db fs hm (fs[j]) (List.getElem_mem hjl) t a k cap c u d fs (by rw [hjn]; exact hP) (by rw [hjn]; omega) hk hus hc h2).mono ?_
      rintro e w' ⟨rfl, hg⟩
      exact ⟨by rw [hc2], fun e => by rw [hc2] at e; omega, hg⟩
    · have hc0 : appC fs c nm t = 0 := by unfold appC; rw [if_neg h, if_neg h2]
      have hr : appR fs nm t = fs.set j ⟨(fs[j]).name, (fs[j]).text ++ t, (fs[j]).safe⟩ := by unfold appR; rw [hj, Int.toNat_natCast, getD_of hjl]
      refine (appC_yes W B n nb tb db fs hm hn (fs[j]) (List.getElem_mem hjl) t a k cap c u d fs (by rw [hjn]; exact hP) (by rw [hjn]; omega) hts ht hk hus hc h2).mono ?_
      rintro e w' ⟨rfl, ⟨D, h1, h2⟩, hg⟩
      refine ⟨by rw [hc0]; rfl, fun _ => ⟨_, ?_, D, h1.mono (by omega), h2⟩, hg⟩
      rw [hr]
      exact set_perm_others hap j hjl _
theorem appC_code (fs : List FileV) (c : Int) (nm t : ByteArray) : 0 ≤ appC fs c nm t ∧ appC fs c nm t ≤ 5 := by
  unfold appC
  repeat' split
  all_goals omega
theorem appR_rising {fs : List FileV} (h : Rising fs) (c : Int) (nm t : ByteArray) (hc : appC fs c nm t = 0) : Rising (appR fs nm t) := by
  have hf : ¬ findF fs nm < 0 := fun h2 => by unfold appC at hc; rw [if_pos h2] at hc; omega
  obtain ⟨k, hk, hkl, hkn⟩ := findF_name hf
  unfold appR
  rw [hk, Int.toNat_natCast, getD_of hkl]
  exact rising_set h k hkl _ rfl

set_option maxRecDepth 100000 in
set_option maxHeartbeats 1000000 in
theorem implAppend_any (w : World) (A : SentA) (hA : SentIn w A) (a : Option Addr) (n cap : Nat) (fs : List FileV) (ha : a = none ∨ ∃ g, a = some ⟨g, 0, none⟩) (hr : FRow w 0 a n fs) (hn : n ≤ 1048576) (hz : szFs fs ≤ 1048576) (c u : Int) (d : Bool) (hu : -9223372036854775808 ≤ u) (hu2 : u ≤ 9223372036854775807) (nm t : ByteArray) (hs : nm.size ≤ 1048576) (ht : t.size ≤ 1048576) :
    Calls Tryd.prog 7 #[.agg #[.slice a n cap, .int .i64 c, .int .i64 u, .bool d], .string nm, .string t] w fun e w' => (∃ a' cap', e = .returned (.tuple #[.agg #[.slice a' (appF fs c u d nm t).1.length cap', .int .i64 c, .int .i64 (begU fs c u d), .bool (begD fs c u d)], .int .i64 (appF fs c u d nm t).2]) ∧ FOwn w' w.heap.size (.slice a' (appF fs c u d nm t).1.length cap') (appF fs c u d nm t).1) ∧ Below w.heap.size w w' := by
  obtain ⟨W, hW⟩ : ∃ W, W = (((w.alloc (.cells #[.slice a n cap, .int .i64 c, .int .i64 u, .bool d] 26)).alloc (.cells #[.string nm] 9)).alloc (.cells #[.string t] 9)).alloc (.cells #[.slice none 0 0, .int .i64 0, .int .i64 0, .bool false] 26) := ⟨_, rfl⟩
  have hAL := alloc4 w (.cells #[.slice a n cap, .int .i64 c, .int .i64 u, .bool d] 26) (.cells #[.string nm] 9) (.cells #[.string t] 9) (.cells #[.slice none 0 0, .int .i64 0, .int .i64 0, .bool false] 26)
  rw [← hW] at hAL
  have HSZ := hide hAL.1
  have HB0 := hide hAL.2.1
  have HC0 := hide hAL.2.2.1
  have HC1 := hide hAL.2.2.2.1
  have HC2 := hide hAL.2.2.2.2.1
  have HC3 := hide hAL.2.2.2.2.2
  have HRW := hide (hr.later hAL.2.1 (Nat.le_refl _))
  have HST := hide (implStep_any W A (hA.later hAL.2.1 (Nat.le_refl _)) a n cap fs ha (hr.later hAL.2.1 (Nat.le_refl _)) hn hz c u d hu hu2 22 #[.pointer (some ⟨w.heap.size + 1, 0, none⟩), .pointer (some ⟨w.heap.size + 1 + 1, 0, none⟩), .pointer (some ⟨w.heap.size, 0, none⟩)] (enters_of Tryd.func22 (by kernel_rfl) rfl) (appC fs c nm t) (appC_code fs c nm t) (appR fs nm t)
    (fun q h => appR_rising (rising_of q) c nm t h)
    (fun W' => AppIn W' (w.heap.size + 1) (w.heap.size + 1 + 1) w.heap.size nm t a n cap c u d fs)
    (fun W' hb => ⟨by rw [cell_of_row W' _ _ _ _ _ ((hb.block _ (by have := HSZ.out; omega)).trans HC1.out)]; rfl, by rw [cell_of_row W' _ _ _ _ _ ((hb.block _ (by have := HSZ.out; omega)).trans HC2.out)]; rfl, (hb.block _ (by have := HSZ.out; omega)).trans HC0.out, HRW.out.later hb (Nat.le_refl _)⟩)
    (fun q => append_change A fs (rising_of q).apart nm t hs ht (w.heap.size + 1) (w.heap.size + 1 + 1) w.heap.size a n cap c u d hn hz ⟨(len_of q).2.2.1, (len_of q).2.2.2.1⟩))
  rw [appF_step] at HST
  clear hAL hr hA HRW
  go_enter Tryd.func7, Tryd.ntmps7
  go_wp2_with fail
  rw [← hW]
  clear hW
  refine HST.out.mono ?_
  rintro e w2 ⟨⟨a', cap', rfl, ho⟩, hb⟩
  obtain ⟨r0, r1, r2, r3, k0, k1, k2, k3⟩ := cells4 ((hb.block _ (by have := HSZ.out; omega)).trans HC3.out)
  have HO := hide (ho.mono (base' := w.heap.size + 4) (by have := HSZ.out; omega))
  have HB := hide (HB0.out.trans (hb.mono HB0.out.size))
  clear ho hb HST HC0 HC1 HC2 HC3
  go_wp2
  refine bodyPost_ret (v := .tuple #[.agg #[.slice a' (appF fs c u d nm t).1.length cap', .int .i64 c, .int .i64 (begU fs c u d), .bool (begD fs c u d)], .int .i64 (appF fs c u d nm t).2]) (by simp [results, Tryd.results7, go_sem, *]) rfl ⟨⟨a', cap', rfl, ?_⟩, ?_⟩
  · refine FOwn.mono ?_ (Nat.le_add_right _ 4)
    (repeat (first | with_reducible (refine FOwn.setCell ?_ _ _ (by dsimp only; omega)) | with_reducible (refine FOwn.drewO ?_) | with_reducible (exact HO.out)))
  · (repeat (first | with_reducible (refine Below.setCell ?_ (by dsimp only; omega) _) | with_reducible (refine Below.drew ?_) | with_reducible (exact HB.out)))

end Go.Proofs.YthhjomaccbpnbaaDoor
namespace Go.Proofs.YthhjomaccbpnbaaDoor
open Go.RowKit Go.Maps
open Plain

set_option maxRecDepth 100000 in
set_option maxHeartbeats 1000000 in
theorem remC_yes (W : World) (B n nb : Nat) (S : List FileV) (hm : MOwn W B n S) (f : FileV) (hf : f ∈ S) (hcell : W.cell? ⟨nb, 0, none⟩ = some (.string f.name)) (hs : f.name.size ≤ 1048576) :
    Calls Tryd.prog 29 #[.map (some B), .pointer (some ⟨nb, 0, none⟩)] W fun e w' => e = .returned .nilIface ∧ MOwn w' B n (others S f.name) ∧ W.grownBy w' (some B) := by
  have hnl := cell_lt hcell
  have HFO := hide (implFileOf_yes W B n S hm f hf (by omega))
  obtain ⟨D, hown, hsh⟩ := hm
  have HO := hide hown
  have HSH := hide (hsh.del f.name)
  have hkey : keyOf Tryd.prog 9 (.string f.name) = some (litN f) := WideMaps.keyOf_string_mk Tryd.underlying9 (by unfold maxLen; omega)
  clear hown hsh
  go_enter Tryd.func29, Tryd.ntmps29
  go_wp2_with fail
  refine HFO.out.mono ?_
  rintro e w1 ⟨rfl, hb1⟩
  have c1 : w1.cell? ⟨nb, 0, none⟩ = some (.string f.name) := by rw [hb1.cell hnl]; exact hcell
  have HG1 : Hid (W.grownBy w1 none) := hide ⟨hb1.os, hb1.tape, hb1.output, hb1.size, fun i hi _ => hb1.block i hi⟩
  have HO1 := hide (HO.out.kept HG1.out (by simp))
  have hnl1 : nb < w1.heap.size := Nat.lt_of_lt_of_le hnl hb1.size
  have hne : nb ≠ w1.heap.size := by omega
  clear hb1 hcell HFO HO
  go_wp2_with (at_delete; refine wpList_delete_own _ rfl _ _ 47 9 rfl 51 keyLaw Tryd.underlying47 _ B n _ rfl (HO1.out.alloc _) _ _ rfl hkey ?_; intro w2 hown2 ht2)
  go_ret
  refine ⟨rfl, ⟨_, hown2, HSH.out⟩, ?_⟩
  exact (HG1.out.but _ |>.andThen (World.grownBy_alloc w1 _ none) (fun j hj => by cases hj)).andThen ht2.grown (fun j hj => Or.inr hj)

set_option maxRecDepth 100000 in
set_option maxHeartbeats 1000000 in
theorem remC_no (W : World) (A : SentA) (hA : SentIn W A) (B n nb : Nat) (S : List FileV) (hm : MOwn W B n S) (x : ByteArray) (hcell : W.cell? ⟨nb, 0, none⟩ = some (.string x)) (hx : ∀ g, g ∈ S → g.name ≠ x) (hs : x.size ≤ 1048576) :
    Calls Tryd.prog 29 #[.map (some B), .pointer (some ⟨nb, 0, none⟩)] W fun e w' => e = .returned (errV A 3) ∧ W.grownBy w' (some B) := by
  have hnl := cell_lt hcell
  have HFO := hide (implFileOf_no W A hA B n S hm x hx (by omega))
  obtain ⟨D, hown, hsh⟩ := hm
  have HO := hide hown
  have hkey : keyOf Tryd.prog 9 (.string x) = some (.string x.data.toList) := WideMaps.keyOf_string_mk Tryd.underlying9 (by unfold maxLen; omega)
  clear hown hsh
  go_enter Tryd.func29, Tryd.ntmps29
  go_wp2_with fail
  refine HFO.out.mono ?_
  rintro e w1 ⟨rfl, hb1⟩
  have c1 : w1.cell? ⟨nb, 0, none⟩ = some (.string x) := by rw [hb1.cell hnl]; exact hcell
  have HG1 : Hid (W.grownBy w1 none) := hide ⟨hb1.os, hb1.tape, hb1.output, hb1.size, fun i hi _ => hb1.block i hi⟩
  have HO1 := hide (HO.out.kept HG1.out (by simp))
  have hnl1 : nb < w1.heap.size := Nat.lt_of_lt_of_le hnl hb1.size
  have hne : nb ≠ w1.heap.size := by omega
  clear hb1 hcell HFO HO
  go_wp2_with (at_delete; refine wpList_delete_own _ rfl _ _ 47 9 rfl 51 keyLaw Tryd.underlying47 _ B n _ rfl (HO1.out.alloc _) _ _ rfl hkey ?_; intro w2 hown2 ht2)
  go_ret
  refine ⟨rfl, ?_⟩
  exact (HG1.out.but _ |>.andThen (World.grownBy_alloc w1 _ none) (fun j hj => by cases hj)).andThen ht2.grown (fun j hj => Or.inr hj)

end Go.Proofs.YthhjomaccbpnbaaDoor
namespace Go.Proofs.YthhjomaccbpnbaaDoor
open Go.RowKit Go.Maps
open Plain

theorem remove_change (A : SentA) (fs : List FileV) (hap : fs.Pairwise (fun f g => f.name ≠ g.name)) (nm : ByteArray) (hs : nm.size ≤ 1048576) (nb : Nat) :
    Change 29 #[.pointer (some ⟨nb, 0, none⟩)] A fs (remC fs nm) (remR fs nm) (fun W => W.cell? ⟨nb, 0, none⟩ = some (.string nm)) := by
  intro W B n hm hn hA hP
  by_cases h : findF fs nm < 0
  · refine (remC_no W A hA B n nb fs hm nm hP (findF_none h) hs).mono ?_
    rintro e w' ⟨rfl, hg⟩
    have hc : remC fs nm = 3 := by unfold remC; rw [if_pos h]
    exact ⟨by rw [hc], fun e => by rw [hc] at e; omega, hg⟩
  · have hc : remC fs nm = 0 := by unfold remC; rw [if_neg h]
    have hr := remR_others hap nm h
    obtain ⟨k, hk, hkl, hkn⟩ := findF_name h
    refine (remC_yes W B n nb fs hm (fs[k]) (List.getElem_mem hkl) (by rw [hkn]; exact hP) (by rw [hkn]; omega)).mono ?_
    rintro e w' ⟨rfl, ⟨D, h1, h2⟩, hg⟩
    refine ⟨by rw [hc]; rfl, fun _ => ⟨_, ?_, D, h1.mono (by omega), h2⟩, hg⟩
    rw [hr, hkn]

set_option maxRecDepth 100000 in
set_option maxHeartbeats 1000000 in
theorem implRemove_any (w : World) (A : SentA) (hA : SentIn w A) (a : Option Addr) (n cap : Nat) (fs : List FileV) (ha : a = none ∨ ∃ g, a = some ⟨g, 0, none⟩) (hr : FRow w 0 a n fs) (hn : n ≤ 1048576) (hz : szFs fs ≤ 1048576) (c u : Int) (d : Bool) (hu : -9223372036854775808 ≤ u) (hu2 : u ≤ 9223372036854775807) (nm : ByteArray) (hs : nm.size ≤ 1048576) :
    Calls Tryd.prog 11 #[.agg #[.slice a n cap, .int .i64 c, .int .i64 u, .bool d], .string nm] w fun e w' => (∃ a' cap', e = .returned (.tuple #[.agg #[.slice a' (remF fs c u d nm).1.length cap', .int .i64 c, .int .i64 (begU fs c u d), .bool (begD fs c u d)], .int .i64 (remF fs c u d nm).2]) ∧ FOwn w' w.heap.size (.slice a' (remF fs c u d nm).1.length cap') (remF fs c u d nm).1) ∧ Below w.heap.size w w' := by
  obtain ⟨W, hW⟩ : ∃ W, W = ((w.alloc (.cells #[.slice a n cap, .int .i64 c, .int .i64 u, .bool d] 26)).alloc (.cells #[.string nm] 9)).alloc (.cells #[.slice none 0 0, .int .i64 0, .int .i64 0, .bool false] 26) := ⟨_, rfl⟩
  have hAL := alloc3 w (.cells #[.slice a n cap, .int .i64 c, .int .i64 u, .bool d] 26) (.cells #[.string nm] 9) (.cells #[.slice none 0 0, .int .i64 0, .int .i64 0, .bool false] 26)
  rw [← hW] at hAL
  have HSZ := hide hAL.1
  have HB0 := hide hAL.2.1
  have HC0 := hide hAL.2.2.1
  have HC1 := hide hAL.2.2.2.1
  have HC2 := hide hAL.2.2.2.2
  have HRW := hide (hr.later hAL.2.1 (Nat.le_refl _))
  have HST := hide (implStep_any W A (hA.later hAL.2.1 (Nat.le_refl _)) a n cap fs ha (hr.later hAL.2.1 (Nat.le_refl _)) hn hz c u d hu hu2 29 #[.pointer (some ⟨w.heap.size + 1, 0, none⟩)] (enters_of Tryd.func29 (by kernel_rfl) rfl) (remC fs nm) (by unfold remC; split <;> omega) (remR fs nm)
    (fun q h => remR_rising (rising_of q) nm)
    (fun W' => W'.cell? ⟨w.heap.size + 1, 0, none⟩ = some (.string nm))
    (fun W' hb => by rw [cell_of_row W' _ _ _ _ _ ((hb.block _ (by have := HSZ.out; omega)).trans HC1.out)]; rfl)
    (fun q => remove_change A fs (rising_of q).apart nm hs (w.heap.size + 1)))
  rw [remF_step] at HST
  clear hAL hr hA HRW
  go_enter Tryd.func11, Tryd.ntmps11
  go_wp2_with fail
  rw [← hW]
  clear hW
  refine HST.out.mono ?_
  rintro e w2 ⟨⟨a', cap', rfl, ho⟩, hb⟩
  obtain ⟨r0, r1, r2, r3, k0, k1, k2, k3⟩ := cells4 ((hb.block _ (by have := HSZ.out; omega)).trans HC2.out)
  have HO := hide (ho.mono (base' := w.heap.size + 3) (by have := HSZ.out; omega))
  have HB := hide (HB0.out.trans (hb.mono HB0.out.size))
  clear ho hb HST HC0 HC1 HC2
  go_wp2
  refine bodyPost_ret (v := .tuple #[.agg #[.slice a' (remF fs c u d nm).1.length cap', .int .i64 c, .int .i64 (begU fs c u d), .bool (begD fs c u d)], .int .i64 (remF fs c u d nm).2]) (by simp [results, Tryd.results11, go_sem, *]) rfl ⟨⟨a', cap', rfl, ?_⟩, ?_⟩
  · refine FOwn.mono ?_ (Nat.le_add_right _ 3)
    (repeat (first | with_reducible (refine FOwn.setCell ?_ _ _ (by dsimp only; omega)) | with_reducible (refine FOwn.drewO ?_) | with_reducible (exact HO.out)))
  · (repeat (first | with_reducible (refine Below.setCell ?_ (by dsimp only; omega) _) | with_reducible (refine Below.drew ?_) | with_reducible (exact HB.out)))

end Go.Proofs.YthhjomaccbpnbaaDoor
namespace Go.Proofs.YthhjomaccbpnbaaDoor
open Go.RowKit Go.Maps
open Plain

theorem grown_set1 (w : World) (p : Addr) (v : Value) : w.grownBy (w.setCell p v) (some p.block) := ⟨rfl, rfl, rfl, by simp, fun i _ hr => Below.heap_setCell w p v i (fun e => hr (by rw [e]))⟩

set_option maxRecDepth 100000 in
set_option maxHeartbeats 1000000 in
/-- The new name is none. -/
theorem renC_bad (W : World) (A : SentA) (hA : SentIn W A) (B tb nb : Nat) (x : ByteArray) (hcell : W.cell? ⟨tb, 0, none⟩ = some (.string x)) (hx : ¬ nameOk x = true) (hs : x.size ≤ 1048576) :
    Calls Tryd.prog 28 #[.map (some B), .pointer (some ⟨tb, 0, none⟩), .pointer (some ⟨nb, 0, none⟩)] W fun e w' => e = .returned (errV A 5) ∧ W.grownBy w' (some B) := by
  have HN : Hid (Calls Tryd.prog 26 #[.string x] W fun e w' => e = .returned (.bool false) ∧ W = w') := hide (by
    have h := implName_any x W (by omega)
    rw [Bool.eq_false_iff.2 hx] at h
    exact h)
  have g5 := hA.cArgs
  clear hA
  go_enter Tryd.func28, Tryd.ntmps28
  go_wp2_with fail
  refine HN.out.mono ?_
  rintro e w1 ⟨rfl, rfl⟩
  go_wp2
  go_ret
  exact ⟨rfl, World.grownBy.refl _ _⟩

set_option maxRecDepth 100000 in
set_option maxHeartbeats 1000000 in
/-- There is no such file. -/
theorem renC_no (W : World) (A : SentA) (hA : SentIn W A) (B n tb nb : Nat) (S : List FileV) (hm : MOwn W B n S) (x to : ByteArray) (hto : W.cell? ⟨tb, 0, none⟩ = some (.string to)) (hcell : W.cell? ⟨nb, 0, none⟩ = some (.string x)) (ht : nameOk to = true) (hx : ∀ g, g ∈ S → g.name ≠ x) (hs : x.size ≤ 1048576) (hs2 : to.size ≤ 1048576) :
    Calls Tryd.prog 28 #[.map (some B), .pointer (some ⟨tb, 0, none⟩), .pointer (some ⟨nb, 0, none⟩)] W fun e w' => e = .returned (errV A 3) ∧ W.grownBy w' (some B) := by
  have HN : Hid (Calls Tryd.prog 26 #[.string to] W fun e w' => e = .returned (.bool true) ∧ W = w') := hide (by
    have h := implName_any to W (by omega)
    rw [ht] at h
    exact h)
  have HFO := hide (implFileOf_no W A hA B n S hm x hx (by omega))
  clear hm hA
  go_enter Tryd.func28, Tryd.ntmps28
  go_wp2_with fail
  refine HN.out.mono ?_
  rintro e w0 ⟨rfl, rfl⟩
  go_wp2_with fail
  refine HFO.out.mono ?_
  rintro e w1 ⟨rfl, hb1⟩
  have HB1 := hide hb1
  clear hb1 hcell hto HFO HN
  go_wp2
  go_ret
  refine ⟨rfl, ?_⟩
  exact (World.grownBy.but ⟨HB1.out.os, HB1.out.tape, HB1.out.output, HB1.out.size, fun i hi _ => HB1.out.block i hi⟩ _).andThen (World.grownBy_alloc w1 _ none) (fun j hj => by cases hj)

set_option maxRecDepth 100000 in
set_option maxHeartbeats 1000000 in
theorem renC_yes (W : World) (B n tb nb : Nat) (S : List FileV) (hm : MOwn W B n S) (hn : n ≤ 500) (f : FileV) (hf : f ∈ S) (to : ByteArray) (hto : W.cell? ⟨tb, 0, none⟩ = some (.string to)) (hcell : W.cell? ⟨nb, 0, none⟩ = some (.string f.name)) (ht : nameOk to = true) (hs : f.name.size ≤ 1048576) (hs2 : to.size ≤ 1048576) (hbt : B ≠ tb) :
    Calls Tryd.prog 28 #[.map (some B), .pointer (some ⟨tb, 0, none⟩), .pointer (some ⟨nb, 0, none⟩)] W fun e w' => e = .returned .nilIface ∧ MOwn w' B (n + 1) (⟨to, f.text, f.safe⟩ :: others (others S f.name) to) ∧ W.grownBy w' (some B) := by
  have HN : Hid (Calls Tryd.prog 26 #[.string to] W fun e w' => e = .returned (.bool true) ∧ W = w') := hide (by
    have h := implName_any to W (by omega)
    rw [ht] at h
    exact h)
  have hB : B < W.heap.size := by obtain ⟨D, h1, h2⟩ := hm; exact h1.lt
  have hnl := cell_lt hcell
  have htl := cell_lt hto
  have HFO := hide (implFileOf_yes W B n S hm f hf (by omega))
  obtain ⟨D, hown, hsh⟩ := hm
  have HO := hide hown
  have HSH := hide ((hsh.del f.name).put ⟨to, f.text, f.safe⟩)
  have hkey : keyOf Tryd.prog 9 (.string f.name) = some (litN f) := WideMaps.keyOf_string_mk Tryd.underlying9 (by unfold maxLen; omega)
  have hkey2 : keyOf Tryd.prog 9 (.string to) = some (.string to.data.toList) := WideMaps.keyOf_string_mk Tryd.underlying9 (by unfold maxLen; omega)
  clear hown hsh
  go_enter Tryd.func28, Tryd.ntmps28
  go_wp2_with fail
  refine HN.out.mono ?_
  rintro e w0 ⟨rfl, rfl⟩
  go_wp2_with fail
  refine HFO.out.mono ?_
  rintro e w1 ⟨rfl, hb1⟩
  have c1 : w1.cell? ⟨nb, 0, none⟩ = some (.string f.name) := by rw [hb1.cell hnl]; exact hcell
  have HC2 : Hid (w1.cell? ⟨tb, 0, none⟩ = some (.string to)) := hide (by rw [hb1.cell htl]; exact hto)
  have HG1 : Hid (W.grownBy w1 none) := hide ⟨hb1.os, hb1.tape, hb1.output, hb1.size, fun i hi _ => hb1.block i hi⟩
  have HO1 := hide (HO.out.kept HG1.out (by simp))
  have hnl1 : nb < w1.heap.size := Nat.lt_of_lt_of_le hnl hb1.size
  have htl1 : tb < w1.heap.size := Nat.lt_of_lt_of_le htl hb1.size
  have hBl1 : B < w1.heap.size := Nat.lt_of_lt_of_le hB hb1.size
  have hne : nb ≠ w1.heap.size := by omega
  have hne2 : tb ≠ w1.heap.size := by omega
  clear hb1 hcell hto HFO HO HN
  obtain ⟨X, hX⟩ : ∃ X, X = w1.alloc (.cells #[.string f.name, .string f.text, .int .i64 f.safe] 51) := ⟨_, rfl⟩
  have HFX : Hid (X.heap[w1.heap.size]? = some (.cells #[.string f.name, .string f.text, .int .i64 f.safe] 51 (0, 0))) := hide (by rw [hX]; exact heap_alloc_new w1 _)
  have HXS : Hid (X.heap.size = w1.heap.size + 1) := hide (by rw [hX]; simp)
  have HCX : Hid (X.cell? ⟨tb, 0, none⟩ = some (.string to)) := hide (by
    have hb : Below w1.heap.size w1 X := by rw [hX]; exact (Below.refl _ _).alloc (Nat.le_refl _) _
    rw [hb.cell htl1]
    exact HC2.out)
  have HGX : Hid (W.grownBy X (some B)) := hide (by rw [hX]; exact (HG1.out.but _).andThen (World.grownBy_alloc w1 _ none) (fun j hj => by cases hj))
  have HOX : Hid (X.ownsMap Tryd.prog 9 fileElem B n D) := hide (by rw [hX]; exact HO1.out.alloc _)
  have HSX := hide hX
  clear hX
  have HNX : Hid (some w1.heap.size ≠ some B) := hide (fun e => by injection e with e; omega)
  have HNT : Hid (some tb ≠ some B) := hide (fun e => by injection e with e; exact hbt e.symm)
  have HKX : Hid (∀ w2, (w1.alloc (.cells #[.string f.name, .string f.text, .int .i64 f.safe] 51)).mapTurned w2 B → Hid (X.grownBy w2 (some B)) ∧ w2.cell? ⟨w1.heap.size, 0, none⟩ = some (.string f.name) ∧ w2.cell? ⟨w1.heap.size, 1, none⟩ = some (.string f.text) ∧ w2.cell? ⟨w1.heap.size, 2, none⟩ = some (.int .i64 f.safe) ∧ w2.frozen? ⟨w1.heap.size, 0, none⟩ = false ∧ w2.cell? ⟨tb, 0, none⟩ = some (.string to)) := hide (fun w2 ht2 => by
    have ht3 := ht2.grown
    rw [← HSX.out] at ht3
    have e0 := ht3.block w1.heap.size (by rw [HXS.out]; omega) HNX.out
    have e1 := e0.trans HFX.out
    obtain ⟨z0, z1, z2⟩ := cells3 e1
    exact ⟨hide ht3, z0, z1, z2, by simp [World.frozen?, e1], ht3.cell HCX.out HNT.out⟩)
  have hW1 : W.heap.size ≤ w1.heap.size := HG1.out.size
  have hsx := HXS.out
  go_wp2_with first
    | (at_delete; refine wpList_delete_own _ rfl _ _ 47 9 rfl 51 keyLaw Tryd.underlying47 _ B n _ rfl (HO1.out.alloc _) _ _ rfl hkey ?_; intro w2 hown2 ht2; obtain ⟨HT2, z0, z1, z2, z3, z4⟩ := HKX.out w2 ht2; have HO2 := hide hown2; clear ht2 hown2 c1 HKX)
    | (at_mapUpdate; refine wpList_mapUpdate_own _ rfl _ _ _ 47 rfl 9 51 keyLaw Tryd.underlying47 _ B n _ rfl (HO2.out.setCell (by dsimp only; omega) _) (by unfold maxLen; omega) _ _ _ rfl rfl hkey2 _ [] (fileElem_mk ⟨to, f.text, f.safe⟩) ?_; intro w3 hown3 hg3)
  go_ret
  refine ⟨rfl, ⟨_, hown3, HSH.out⟩, ?_⟩
  have h1 := HGX.out.andThen HT2.out (fun j hj => Or.inr hj)
  have h2 := h1.andThen (grown_set1 w2 ⟨w1.heap.size, 0, none⟩ (.string to)) (fun j hj => by injection hj with hj; subst hj; exact Or.inl hW1)
  exact h2.andThen hg3 (fun j hj => Or.inr hj)

end Go.Proofs.YthhjomaccbpnbaaDoor
namespace Go.Proofs.YthhjomaccbpnbaaDoor
open Go.RowKit Go.Maps
open Plain

theorem rename_change (A : SentA) (fs : List FileV) (hri : Rising fs) (nm to : ByteArray) (hs : nm.size ≤ 1048576) (ht : to.size ≤ 1048576) (tb nb : Nat) :
    Change 28 #[.pointer (some ⟨tb, 0, none⟩), .pointer (some ⟨nb, 0, none⟩)] A fs (renC fs nm to) (renR fs nm to) (fun W => W.cell? ⟨tb, 0, none⟩ = some (.string to) ∧ W.cell? ⟨nb, 0, none⟩ = some (.string nm)) := by
  intro W B n hm hn hA hP
  by_cases h1 : nameOk to = true
  · by_cases h2 : findF fs nm < 0
    · have hc : renC fs nm to = 3 := by unfold renC; rw [if_pos h1, if_pos h2]
      refine (renC_no W A hA B n tb nb fs hm nm to hP.1 hP.2 h1 (findF_none h2) hs ht).mono ?_
      rintro e w' ⟨rfl, hg⟩
      exact ⟨by rw [hc], fun e => by rw [hc] at e; omega, hg⟩
    · have hc : renC fs nm to = 0 := by unfold renC; rw [if_pos h1, if_neg h2]
      obtain ⟨k, hk, hkl, hkn⟩ := findF_name h2
      have hp := renR_perm hri nm to k hk hkl hkn
      refine (renC_yes W B n tb nb fs hm hn (fs[k]) (List.getElem_mem hkl) to hP.1 (by rw [hkn]; exact hP.2) h1 (by rw [hkn]; omega) ht (mown_ne hm hP.1)).mono ?_
      rintro e w' ⟨rfl, ⟨D, h1, h2⟩, hg⟩
      refine ⟨by rw [hc]; rfl, fun _ => ⟨_, ?_, D, h1.mono (by omega), h2⟩, hg⟩
      rw [hkn]
      exact hp
  · have hc : renC fs nm to = 5 := by unfold renC; rw [if_neg h1]
    refine (renC_bad W A hA B tb nb to hP.1 h1 ht).mono ?_
    rintro e w' ⟨rfl, hg⟩
    exact ⟨by rw [hc], fun e => by rw [hc] at e; omega, hg⟩
theorem renC_code (fs : List FileV) (nm to : ByteArray) : 0 ≤ renC fs nm to ∧ renC fs nm to ≤ 5 := by
  unfold renC
  repeat' split
  all_goals omega

set_option maxRecDepth 100000 in
set_option maxHeartbeats 1000000 in
theorem implRename_any (w : World) (A : SentA) (hA : SentIn w A) (a : Option Addr) (n cap : Nat) (fs : List FileV) (ha : a = none ∨ ∃ g, a = some ⟨g, 0, none⟩) (hr : FRow w 0 a n fs) (hn : n ≤ 1048576) (hz : szFs fs ≤ 1048576) (c u : Int) (d : Bool) (hu : -9223372036854775808 ≤ u) (hu2 : u ≤ 9223372036854775807) (nm t : ByteArray) (hs : nm.size ≤ 1048576) (ht : t.size ≤ 1048576) :
    Calls Tryd.prog 10 #[.agg #[.slice a n cap, .int .i64 c, .int .i64 u, .bool d], .string nm, .string t] w fun e w' => (∃ a' cap', e = .returned (.tuple #[.agg #[.slice a' (renF fs c u d nm t).1.length cap', .int .i64 c, .int .i64 (begU fs c u d), .bool (begD fs c u d)], .int .i64 (renF fs c u d nm t).2]) ∧ FOwn w' w.heap.size (.slice a' (renF fs c u d nm t).1.length cap') (renF fs c u d nm t).1) ∧ Below w.heap.size w w' := by
  obtain ⟨W, hW⟩ : ∃ W, W = (((w.alloc (.cells #[.slice a n cap, .int .i64 c, .int .i64 u, .bool d] 26)).alloc (.cells #[.string nm] 9)).alloc (.cells #[.string t] 9)).alloc (.cells #[.slice none 0 0, .int .i64 0, .int .i64 0, .bool false] 26) := ⟨_, rfl⟩
  have hAL := alloc4 w (.cells #[.slice a n cap, .int .i64 c, .int .i64 u, .bool d] 26) (.cells #[.string nm] 9) (.cells #[.string t] 9) (.cells #[.slice none 0 0, .int .i64 0, .int .i64 0, .bool false] 26)
  rw [← hW] at hAL
  have HSZ := hide hAL.1
  have HB0 := hide hAL.2.1
  have HC0 := hide hAL.2.2.1
  have HC1 := hide hAL.2.2.2.1
  have HC2 := hide hAL.2.2.2.2.1
  have HC3 := hide hAL.2.2.2.2.2
  have HRW := hide (hr.later hAL.2.1 (Nat.le_refl _))
  have HST := hide (implStep_any W A (hA.later hAL.2.1 (Nat.le_refl _)) a n cap fs ha (hr.later hAL.2.1 (Nat.le_refl _)) hn hz c u d hu hu2 28 #[.pointer (some ⟨w.heap.size + 1 + 1, 0, none⟩), .pointer (some ⟨w.heap.size + 1, 0, none⟩)] (enters_of Tryd.func28 (by kernel_rfl) rfl) (renC fs nm t) (renC_code fs nm t) (renR fs nm t)
    (fun q h => renR_rising (rising_of q) nm t h)
    (fun W' => W'.cell? ⟨w.heap.size + 1 + 1, 0, none⟩ = some (.string t) ∧ W'.cell? ⟨w.heap.size + 1, 0, none⟩ = some (.string nm))
    (fun W' hb => ⟨by rw [cell_of_row W' _ _ _ _ _ ((hb.block _ (by have := HSZ.out; omega)).trans HC2.out)]; rfl, by rw [cell_of_row W' _ _ _ _ _ ((hb.block _ (by have := HSZ.out; omega)).trans HC1.out)]; rfl⟩)
    (fun q => rename_change A fs (rising_of q) nm t hs ht (w.heap.size + 1 + 1) (w.heap.size + 1)))
  rw [renF_step] at HST
  clear hAL hr hA HRW
  go_enter Tryd.func10, Tryd.ntmps10
  go_wp2_with fail
  rw [← hW]
  clear hW
  refine HST.out.mono ?_
  rintro e w2 ⟨⟨a', cap', rfl, ho⟩, hb⟩
  obtain ⟨r0, r1, r2, r3, k0, k1, k2, k3⟩ := cells4 ((hb.block _ (by have := HSZ.out; omega)).trans HC3.out)
  have HO := hide (ho.mono (base' := w.heap.size + 4) (by have := HSZ.out; omega))
  have HB := hide (HB0.out.trans (hb.mono HB0.out.size))
  clear ho hb HST HC0 HC1 HC2 HC3
  go_wp2
  refine bodyPost_ret (v := .tuple #[.agg #[.slice a' (renF fs c u d nm t).1.length cap', .int .i64 c, .int .i64 (begU fs c u d), .bool (begD fs c u d)], .int .i64 (renF fs c u d nm t).2]) (by simp [results, Tryd.results10, go_sem, *]) rfl ⟨⟨a', cap', rfl, ?_⟩, ?_⟩
  · refine FOwn.mono ?_ (Nat.le_add_right _ 4)
    (repeat (first | with_reducible (refine FOwn.setCell ?_ _ _ (by dsimp only; omega)) | with_reducible (refine FOwn.drewO ?_) | with_reducible (exact HO.out)))
  · (repeat (first | with_reducible (refine Below.setCell ?_ (by dsimp only; omega) _) | with_reducible (refine Below.drew ?_) | with_reducible (exact HB.out)))

end Go.Proofs.YthhjomaccbpnbaaDoor
namespace Go.Proofs.YthhjomaccbpnbaaDoor
open Go.RowKit Go.Maps
open Plain

set_option maxRecDepth 100000 in
set_option maxHeartbeats 1000000 in
theorem truC_no (W : World) (A : SentA) (hA : SentIn W A) (B n nb mb : Nat) (S : List FileV) (hm : MOwn W B n S) (x : ByteArray) (hcell : W.cell? ⟨nb, 0, none⟩ = some (.string x)) (hx : ∀ g, g ∈ S → g.name ≠ x) (hs : x.size ≤ 1048576) :
    Calls Tryd.prog 30 #[.map (some B), .pointer (some ⟨nb, 0, none⟩), .pointer (some ⟨mb, 0, none⟩)] W fun e w' => e = .returned (errV A 3) ∧ W.grownBy w' (some B) := by
  have HFO := hide (implFileOf_no W A hA B n S hm x hx (by omega))
  clear hm
  go_enter Tryd.func30, Tryd.ntmps30
  go_wp2_with fail
  refine HFO.out.mono ?_
  rintro e w1 ⟨rfl, hb1⟩
  have HB1 := hide hb1
  clear hb1 hcell HFO
  go_wp2
  go_ret
  refine ⟨rfl, ?_⟩
  exact (World.grownBy.but ⟨HB1.out.os, HB1.out.tape, HB1.out.output, HB1.out.size, fun i hi _ => HB1.out.block i hi⟩ _).andThen (World.grownBy_alloc w1 _ none) (fun j hj => by cases hj)

set_option maxRecDepth 100000 in
set_option maxHeartbeats 1000000 in
theorem truC_low (W : World) (A : SentA) (hA : SentIn W A) (B n nb mb : Nat) (S : List FileV) (hm : MOwn W B n S) (f : FileV) (hf : f ∈ S) (m : Int) (hcell : W.cell? ⟨nb, 0, none⟩ = some (.string f.name)) (hmc : W.cell? ⟨mb, 0, none⟩ = some (.int .i64 m)) (hs : f.name.size ≤ 1048576) (q : m < 0) :
    Calls Tryd.prog 30 #[.map (some B), .pointer (some ⟨nb, 0, none⟩), .pointer (some ⟨mb, 0, none⟩)] W fun e w' => e = .returned (errV A 5) ∧ W.grownBy w' (some B) := by
  have HFO := hide (implFileOf_yes W B n S hm f hf (by omega))
  have hml := cell_lt hmc
  have t1 : decide (m < 0) = true := by simpa using q
  have HA := hide hA
  clear hm hA
  go_enter Tryd.func30, Tryd.ntmps30
  go_wp2_with fail
  refine HFO.out.mono ?_
  rintro e w1 ⟨rfl, hb1⟩
  have HB1 := hide hb1
  have c1 : w1.cell? ⟨mb, 0, none⟩ = some (.int .i64 m) := by rw [hb1.cell hml]; exact hmc
  have hml1 : mb < w1.heap.size := Nat.lt_of_lt_of_le hml hb1.size
  have hne : mb ≠ w1.heap.size := by omega
  have g5 := (HA.out.later hb1 (Nat.le_refl _)).cArgs
  have hg5 := cell_lt g5
  have hne5 : 1 ≠ w1.heap.size := by dsimp only at hg5; omega
  clear hb1 hcell HFO hmc
  go_wp2
  go_ret
  refine ⟨rfl, ?_⟩
  exact (World.grownBy.but ⟨HB1.out.os, HB1.out.tape, HB1.out.output, HB1.out.size, fun i hi _ => HB1.out.block i hi⟩ _).andThen (World.grownBy_alloc w1 _ none) (fun j hj => by cases hj)

set_option maxRecDepth 100000 in
set_option maxHeartbeats 1000000 in
theorem truC_high (W : World) (A : SentA) (hA : SentIn W A) (B n nb mb : Nat) (S : List FileV) (hm : MOwn W B n S) (f : FileV) (hf : f ∈ S) (m : Int) (hcell : W.cell? ⟨nb, 0, none⟩ = some (.string f.name)) (hmc : W.cell? ⟨mb, 0, none⟩ = some (.int .i64 m)) (hs : f.name.size ≤ 1048576) (q : ¬ m < 0) (q2 : (f.text.size : Int) < m) :
    Calls Tryd.prog 30 #[.map (some B), .pointer (some ⟨nb, 0, none⟩), .pointer (some ⟨mb, 0, none⟩)] W fun e w' => e = .returned (errV A 5) ∧ W.grownBy w' (some B) := by
  have HFO := hide (implFileOf_yes W B n S hm f hf (by omega))
  have hml := cell_lt hmc
  have t1 : decide (m < 0) = false := by simpa using q
  have t2 : decide ((f.text.size : Int) < m) = true := by simpa using q2
  have HA := hide hA
  clear hm hA
  go_enter Tryd.func30, Tryd.ntmps30
  go_wp2_with fail
  refine HFO.out.mono ?_
  rintro e w1 ⟨rfl, hb1⟩
  have HB1 := hide hb1
  have c1 : w1.cell? ⟨mb, 0, none⟩ = some (.int .i64 m) := by rw [hb1.cell hml]; exact hmc
  have hml1 : mb < w1.heap.size := Nat.lt_of_lt_of_le hml hb1.size
  have hne : mb ≠ w1.heap.size := by omega
  have g5 := (HA.out.later hb1 (Nat.le_refl _)).cArgs
  have hg5 := cell_lt g5
  have hne5 : 1 ≠ w1.heap.size := by dsimp only at hg5; omega
  clear hb1 hcell HFO hmc
  go_wp2
  go_ret
  refine ⟨rfl, ?_⟩
  exact (World.grownBy.but ⟨HB1.out.os, HB1.out.tape, HB1.out.output, HB1.out.size, fun i hi _ => HB1.out.block i hi⟩ _).andThen (World.grownBy_alloc w1 _ none) (fun j hj => by cases hj)

set_option maxRecDepth 100000 in
set_option maxHeartbeats 1000000 in
theorem truC_yes (W : World) (B n nb mb : Nat) (S : List FileV) (hm : MOwn W B n S) (hn : n ≤ 500) (f : FileV) (hf : f ∈ S) (m : Nat) (hcell : W.cell? ⟨nb, 0, none⟩ = some (.string f.name)) (hmc : W.cell? ⟨mb, 0, none⟩ = some (.int .i64 (m : Int))) (hs : f.name.size ≤ 1048576) (q : m ≤ f.text.size) (_hts : f.text.size ≤ 1048576) :
    Calls Tryd.prog 30 #[.map (some B), .pointer (some ⟨nb, 0, none⟩), .pointer (some ⟨mb, 0, none⟩)] W fun e w' => e = .returned .nilIface ∧ MOwn w' B (n + 1) (⟨f.name, f.text.extract 0 m, min f.safe (m : Int)⟩ :: others S f.name) ∧ W.grownBy w' (some B) := by
  have hB : B < W.heap.size := by obtain ⟨D, h1, h2⟩ := hm; exact h1.lt
  have hnl := cell_lt hcell
  have hml := cell_lt hmc
  have HFO := hide (implFileOf_yes W B n S hm f hf (by omega))
  obtain ⟨D, hown, hsh⟩ := hm
  have HO := hide hown
  have HSH := hide (hsh.put ⟨f.name, f.text.extract 0 m, min f.safe (m : Int)⟩)
  have hkey : keyOf Tryd.prog 9 (.string f.name) = some (litN f) := WideMaps.keyOf_string_mk Tryd.underlying9 (by unfold maxLen; omega)
  have t1 : decide ((m : Int) < 0) = false := by simp
  have t2 : decide ((f.text.size : Int) < (m : Int)) = false := by simp; omega
  clear hown hsh
  go_enter Tryd.func30, Tryd.ntmps30
  go_wp2_with fail
  refine HFO.out.mono ?_
  rintro e w1 ⟨rfl, hb1⟩
  have c1 : w1.cell? ⟨nb, 0, none⟩ = some (.string f.name) := by rw [hb1.cell hnl]; exact hcell
  have c2 : w1.cell? ⟨mb, 0, none⟩ = some (.int .i64 (m : Int)) := by rw [hb1.cell hml]; exact hmc
  have HG1 : Hid (W.grownBy w1 none) := hide ⟨hb1.os, hb1.tape, hb1.output, hb1.size, fun i hi _ => hb1.block i hi⟩
  have HO1 := hide (HO.out.kept HG1.out (by simp))
  have hnl1 : nb < w1.heap.size := Nat.lt_of_lt_of_le hnl hb1.size
  have hne : nb ≠ w1.heap.size := by omega
  have hml1 : mb < w1.heap.size := Nat.lt_of_lt_of_le hml hb1.size
  have hne2 : mb ≠ w1.heap.size := by omega
  have HS1 := hide hb1.size
  have hM : (m : Int) ≤ (f.text.size : Int) := by omega
  clear hb1 hcell hmc HFO HO
  go_wp2_with (at_mapUpdate; refine wpList_mapUpdate_own _ rfl _ _ _ 47 rfl 9 51 keyLaw Tryd.underlying47 _ B n _ rfl (HO1.out.alloc _) (by unfold maxLen; omega) _ _ _ rfl rfl hkey _ [] (fileElem_mk ⟨f.name, f.text.extract 0 m, min f.safe (m : Int)⟩) ?_; intro w2 hown2 hg2)
  go_ret
  refine ⟨rfl, ⟨_, hown2, HSH.out⟩, ?_⟩
  exact (HG1.out.but _ |>.andThen (World.grownBy_alloc w1 _ none) (fun j hj => by cases hj)).andThen hg2 (fun j hj => Or.inr hj)

end Go.Proofs.YthhjomaccbpnbaaDoor
namespace Go.Proofs.YthhjomaccbpnbaaDoor
open Go.RowKit Go.Maps
open Plain

theorem trunc_change (A : SentA) (fs : List FileV) (hap : fs.Pairwise (fun f g => f.name ≠ g.name)) (nm : ByteArray) (m : Int) (hs : nm.size ≤ 1048576) (hz : szFs fs ≤ 1048576) (nb mb : Nat) :
    Change 30 #[.pointer (some ⟨nb, 0, none⟩), .pointer (some ⟨mb, 0, none⟩)] A fs (truC fs nm m) (truR fs nm m) (fun W => W.cell? ⟨nb, 0, none⟩ = some (.string nm) ∧ W.cell? ⟨mb, 0, none⟩ = some (.int .i64 m)) := by
  intro W B n hm hn hA hP
  by_cases h : findF fs nm < 0
  · have hc : truC fs nm m = 3 := by unfold truC; rw [if_pos h]
    refine (truC_no W A hA B n nb mb fs hm nm hP.1 (findF_none h) hs).mono ?_
    rintro e w' ⟨rfl, hg⟩
    exact ⟨by rw [hc], fun e => by rw [hc] at e; omega, hg⟩
  · obtain ⟨j, hj, hjl, hjn⟩ := findF_name h
    have hts : (fs[j]).text.size ≤ 1048576 := Nat.le_trans (text_le fs j hjl) hz
    have hgd : (fs.getD (findF fs nm).toNat zeroF) = fs[j] := by rw [hj, Int.toNat_natCast, getD_of hjl]
    by_cases h1 : m < 0
    · have hc : truC fs nm m = 5 := by unfold truC; rw [if_neg h, if_neg (by unfold inB; simp; omega)]
      refine (truC_low W A hA B n nb mb fs hm (fs[j]) (List.getElem_mem hjl) m (by rw [hjn]; exact hP.1) hP.2 (by rw [hjn]; omega) h1).mono ?_
      rintro e w' ⟨rfl, hg⟩
      exact ⟨by rw [hc], fun e => by rw [hc] at e; omega, hg⟩
    · by_cases h2 : ((fs[j]).text.size : Int) < m
      · have hc : truC fs nm m = 5 := by unfold truC; rw [if_neg h, hgd, if_neg (by unfold inB; simp; omega)]
        refine (truC_high W A hA B n nb mb fs hm (fs[j]) (List.getElem_mem hjl) m (by rw [hjn]; exact hP.1) hP.2 (by rw [hjn]; omega) h1 h2).mono ?_
        rintro e w' ⟨rfl, hg⟩
        exact ⟨by rw [hc], fun e => by rw [hc] at e; omega, hg⟩
      · have hc : truC fs nm m = 0 := by unfold truC; rw [if_neg h, hgd, if_pos (by unfold inB; simp; omega)]
        obtain ⟨M, rfl⟩ := Int.eq_ofNat_of_zero_le (show 0 ≤ m by omega)
        have hr : truR fs nm (M : Int) = fs.set j ⟨(fs[j]).name, (fs[j]).text.extract 0 M, min (fs[j]).safe (M : Int)⟩ := by unfold truR; rw [hgd, hj, Int.toNat_natCast, Int.toNat_natCast]
        refine (truC_yes W B n nb mb fs hm hn (fs[j]) (List.getElem_mem hjl) M (by rw [hjn]; exact hP.1) hP.2 (by rw [hjn]; omega) (by omega) hts).mono ?_
        rintro e w' ⟨rfl, ⟨D, h1, h2⟩, hg⟩
        refine ⟨by rw [hc]; rfl, fun _ => ⟨_, ?_, D, h1.mono (by omega), h2⟩, hg⟩
        rw [hr]
        exact set_perm_others hap j hjl _
theorem truC_code (fs : List FileV) (nm : ByteArray) (m : Int) : 0 ≤ truC fs nm m ∧ truC fs nm m ≤ 5 := by
  unfold truC
  repeat' split
  all_goals omega
theorem truR_rising {fs : List FileV} (h : Rising fs) (nm : ByteArray) (m : Int) (hc : truC fs nm m = 0) : Rising (truR fs nm m) := by
  have hf : ¬ findF fs nm < 0 := fun h2 => by unfold truC at hc; rw [if_pos h2] at hc; omega
  obtain ⟨k, hk, hkl, hkn⟩ := findF_name hf
  unfold truR
  rw [hk, Int.toNat_natCast, getD_of hkl]
  exact rising_set h k hkl _ rfl

set_option maxRecDepth 100000 in
set_option maxHeartbeats 1000000 in
theorem implTrunc_any (w : World) (A : SentA) (hA : SentIn w A) (a : Option Addr) (n cap : Nat) (fs : List FileV) (ha : a = none ∨ ∃ g, a = some ⟨g, 0, none⟩) (hr : FRow w 0 a n fs) (hn : n ≤ 1048576) (hz : szFs fs ≤ 1048576) (c u : Int) (d : Bool) (hu : -9223372036854775808 ≤ u) (hu2 : u ≤ 9223372036854775807) (nm : ByteArray) (m : Int) (hs : nm.size ≤ 1048576) :
    Calls Tryd.prog 12 #[.agg #[.slice a n cap, .int .i64 c, .int .i64 u, .bool d], .string nm, .int .i64 m] w fun e w' => (∃ a' cap', e = .returned (.tuple #[.agg #[.slice a' (truF fs c u d nm m).1.length cap', .int .i64 c, .int .i64 (begU fs c u d), .bool (begD fs c u d)], .int .i64 (truF fs c u d nm m).2]) ∧ FOwn w' w.heap.size (.slice a' (truF fs c u d nm m).1.length cap') (truF fs c u d nm m).1) ∧ Below w.heap.size w w' := by
  obtain ⟨W, hW⟩ : ∃ W, W = (((w.alloc (.cells #[.slice a n cap, .int .i64 c, .int .i64 u, .bool d] 26)).alloc (.cells #[.string nm] 9)).alloc (.cells #[.int .i64 m] 3)).alloc (.cells #[.slice none 0 0, .int .i64 0, .int .i64 0, .bool false] 26) := ⟨_, rfl⟩
  have hAL := alloc4 w (.cells #[.slice a n cap, .int .i64 c, .int .i64 u, .bool d] 26) (.cells #[.string nm] 9) (.cells #[.int .i64 m] 3) (.cells #[.slice none 0 0, .int .i64 0, .int .i64 0, .bool false] 26)
  rw [← hW] at hAL
  have HSZ := hide hAL.1
  have HB0 := hide hAL.2.1
  have HC0 := hide hAL.2.2.1
  have HC1 := hide hAL.2.2.2.1
  have HC2 := hide hAL.2.2.2.2.1
  have HC3 := hide hAL.2.2.2.2.2
  have HRW := hide (hr.later hAL.2.1 (Nat.le_refl _))
  have HST := hide (implStep_any W A (hA.later hAL.2.1 (Nat.le_refl _)) a n cap fs ha (hr.later hAL.2.1 (Nat.le_refl _)) hn hz c u d hu hu2 30 #[.pointer (some ⟨w.heap.size + 1, 0, none⟩), .pointer (some ⟨w.heap.size + 1 + 1, 0, none⟩)] (enters_of Tryd.func30 (by kernel_rfl) rfl) (truC fs nm m) (truC_code fs nm m) (truR fs nm m)
    (fun q h => truR_rising (rising_of q) nm m h)
    (fun W' => W'.cell? ⟨w.heap.size + 1, 0, none⟩ = some (.string nm) ∧ W'.cell? ⟨w.heap.size + 1 + 1, 0, none⟩ = some (.int .i64 m))
    (fun W' hb => ⟨by rw [cell_of_row W' _ _ _ _ _ ((hb.block _ (by have := HSZ.out; omega)).trans HC1.out)]; rfl, by rw [cell_of_row W' _ _ _ _ _ ((hb.block _ (by have := HSZ.out; omega)).trans HC2.out)]; rfl⟩)
    (fun q => trunc_change A fs (rising_of q).apart nm m hs hz (w.heap.size + 1) (w.heap.size + 1 + 1)))
  rw [truF_step] at HST
  clear hAL hr hA HRW
  go_enter Tryd.func12, Tryd.ntmps12
  go_wp2_with fail
  rw [← hW]
  clear hW
  refine HST.out.mono ?_
  rintro e w2 ⟨⟨a', cap', rfl, ho⟩, hb⟩
  obtain ⟨r0, r1, r2, r3, k0, k1, k2, k3⟩ := cells4 ((hb.block _ (by have := HSZ.out; omega)).trans HC3.out)
  have HO := hide (ho.mono (base' := w.heap.size + 4) (by have := HSZ.out; omega))
  have HB := hide (HB0.out.trans (hb.mono HB0.out.size))
  clear ho hb HST HC0 HC1 HC2 HC3
  go_wp2
  refine bodyPost_ret (v := .tuple #[.agg #[.slice a' (truF fs c u d nm m).1.length cap', .int .i64 c, .int .i64 (begU fs c u d), .bool (begD fs c u d)], .int .i64 (truF fs c u d nm m).2]) (by simp [results, Tryd.results12, go_sem, *]) rfl ⟨⟨a', cap', rfl, ?_⟩, ?_⟩
  · refine FOwn.mono ?_ (Nat.le_add_right _ 4)
    (repeat (first | with_reducible (refine FOwn.setCell ?_ _ _ (by dsimp only; omega)) | with_reducible (refine FOwn.drewO ?_) | with_reducible (exact HO.out)))
  · (repeat (first | with_reducible (refine Below.setCell ?_ (by dsimp only; omega) _) | with_reducible (refine Below.drew ?_) | with_reducible (exact HB.out)))

end Go.Proofs.YthhjomaccbpnbaaDoor
