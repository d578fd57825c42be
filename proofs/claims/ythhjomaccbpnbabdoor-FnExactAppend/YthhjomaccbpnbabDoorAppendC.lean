/-
  The closure of impl.Append.
-/
import Derived.Test.YthhjomaccbpnbabDoorStepBase
import Derived.Test.YthhjomaccbpnbabDoorBytesImpl
import Derived.Deep.RegionHeld3
namespace Go.Proofs.YthhjomaccbpnbabDoor
open Go.RowKit Go.Maps
open Plain

/-- What the closure has captured: the name, the text, the disk. -/
structure AppIn (W : World) (nb tb db : Nat) (x t : ByteArray) (a : Option Addr) (n cap : Nat) (c u : Int) (d : Bool) (fs : List FileV) : Prop where
  nam : W.cell? ⟨nb, 0, none⟩ = some (.string x)
  txt : W.cell? ⟨tb, 0, none⟩ = some (.string t)
  dsk : W.heap[db]? = some (.cells #[.slice a n cap, .int .i64 c, .int .i64 u, .bool d] 28 (0, 0))
  row : FRow W 0 a n fs
theorem AppIn.later {W W' : World} {nb tb db : Nat} {x t : ByteArray} {a : Option Addr} {n cap : Nat} {c u : Int} {d : Bool} {fs : List FileV} (h : AppIn W nb tb db x t a n cap c u d fs) (hb : Below W.heap.size W W') : AppIn W' nb tb db x t a n cap c u d fs where
  nam := by rw [hb.cell (cell_lt h.nam)]; exact h.nam
  txt := by rw [hb.cell (cell_lt h.txt)]; exact h.txt
  dsk := (hb.block _ (blk_lt h.dsk)).trans h.dsk
  row := h.row.later hb (Nat.le_refl _)

set_option maxRecDepth 100000 in
set_option maxHeartbeats 1000000 in
theorem appC_no (W : World) (A : SentA) (hA : SentIn W A) (B n nb tb db : Nat) (S : List FileV) (hm : MOwn W B n S) (x : ByteArray) (hcell : W.cell? ⟨nb, 0, none⟩ = some (.string x)) (hx : ∀ g, g ∈ S → g.name ≠ x) (hs : x.size ≤ 1048576) :
    Calls Tryd.prog 39 #[.map (some B), .pointer (some ⟨nb, 0, none⟩), .pointer (some ⟨tb, 0, none⟩), .pointer (some ⟨db, 0, none⟩)] W fun e w' => e = .returned (errV A 3) ∧ W.grownBy w' (some B) := by
  have HFO := hide (implFileOf_no W A hA B n S hm x hx (by omega))
  clear hm
  go_enter Tryd.func39, Tryd.ntmps39
  go_wp2_with fail
  refine HFO.out.mono ?_
  rintro e w1 ⟨rfl, hb1⟩
  have HB1 := hide hb1
  clear hb1 hcell HFO
  go_wp2
  go_ret
  refine ⟨rfl, ?_⟩
  exact (World.grownBy.but ⟨HB1.out.os, HB1.out.tape, HB1.out.output, HB1.out.size, fun i hi _ => HB1.out.block i hi⟩ _).andThen (World.grownBy_alloc w1 _ none) (fun j hj => by cases hj)

set_option maxRecDepth 100000 in
set_option maxHeartbeats 2000000 in
theorem appC_full (W : World) (A : SentA) (hA : SentIn W A) (B n nb tb db : Nat) (S : List FileV) (hm : MOwn W B n S) (f : FileV) (hf : f ∈ S) (t : ByteArray) (a : Option Addr) (k cap : Nat) (c u : Int) (d : Bool) (fs : List FileV) (hin : AppIn W nb tb db f.name t a k cap c u d fs) (hs : f.name.size ≤ 1048576) (hk : k ≤ 1048576) (hus : usedF fs ≤ 1048576) (hc : 0 ≤ c ∧ c ≤ 100000) (q : c - (usedF fs : Int) < (t.size : Int)) :
    Calls Tryd.prog 39 #[.map (some B), .pointer (some ⟨nb, 0, none⟩), .pointer (some ⟨tb, 0, none⟩), .pointer (some ⟨db, 0, none⟩)] W fun e w' => e = .returned (errV A 2) ∧ W.grownBy w' (some B) := by
  have HFO := hide (implFileOf_yes W B n S hm f hf (by omega))
  clear hm
  have HI := hide hin
  have HA := hide hA
  have hnl := hin.nam
  clear hA hin
  go_enter Tryd.func39, Tryd.ntmps39
  go_wp2_with fail
  refine HFO.out.mono ?_
  rintro e w1 ⟨rfl, hb1⟩
  clear hnl
  obtain ⟨X, hX⟩ : ∃ X, X = w1.alloc (.cells #[.string f.name, .string f.text, .int .i64 f.safe] 45) := ⟨_, rfl⟩
  have hbX : Below W.heap.size W X := by rw [hX]; exact hb1.trans (((Below.refl _ _).alloc (Nat.le_refl _) _).mono hb1.size)
  have HX := hide hbX
  have HIX := hide (HI.out.later hbX)
  clear hbX hb1 HFO
  have wf : IntKind.i64.wrap (c - (usedF fs : Int)) = c - (usedF fs : Int) := by rw [IntKind.wrap_i64]; omega
  have t2 : decide (c - (usedF fs : Int) < (t.size : Int)) = true := by simpa using q
  have HLW : Hid (∀ w', Below X.heap.size X w' → w'.cell? ⟨db, 0, none⟩ = some (.slice a k cap) ∧ w'.cell? ⟨db, 1, none⟩ = some (.int .i64 c) ∧ w'.cell? ⟨tb, 0, none⟩ = some (.string t) ∧ Hid (Below X.heap.size X w')) := hide (fun w' h => by
    have hi := HIX.out.later h
    obtain ⟨z0, z1, -⟩ := cells4 hi.dsk
    exact ⟨z0, z1, hi.txt, hide h⟩)
  have HBY : Hid (∀ w', Hid (Below X.heap.size X w') → Calls Tryd.prog 41 #[.slice a k cap] w' fun e w'' => e = .returned (.int .i64 (usedF fs)) ∧ Below X.heap.size X w'') := hide (fun w' h =>
    (implBytes_any w' a k cap fs (HIX.out.later h.out).row (by omega) (by omega)).mono (fun e w'' ⟨h1, h2⟩ => ⟨h1, h.out.trans (h2.mono h.out.size)⟩))
  have S0 := HLW.out X.drew (Below.refl _ _).drew
  have c0 := (cells4 HIX.out.dsk).1
  have c1 := (cells4 HIX.out.dsk).2.1
  have c2 := HIX.out.txt
  go_wp2
  rw [← hX]
  clear c0 c1 c2 hX
  first
    | (go_region_held3 (fun w' => w'.cell? ⟨db, 0, none⟩ = some (.slice a k cap) ∧ w'.cell? ⟨db, 1, none⟩ = some (.int .i64 c) ∧ w'.cell? ⟨tb, 0, none⟩ = some (.string t) ∧ Hid (Below X.heap.size X w')) (assumption) ((go_at_call 41; refine (HBY.out _ (by simp only [*])).mono ?_; rintro e w5 ⟨rfl, hb5⟩; have hS5 := HLW.out w5 hb5)))
    | fail
  have hbw := HX.out.trans (hb5.mono HX.out.size)
  have HBW := hide hbw
  have g2 := (HA.out.later hbw (Nat.le_refl _)).cFull
  clear hbw hb5 hS5 S0 HLW HBY HIX HX
  go_wp2
  go_ret
  refine ⟨rfl, ?_⟩
  exact World.grownBy.but ⟨HBW.out.os, HBW.out.tape, HBW.out.output, HBW.out.size, fun i hi _ => HBW.out.block i hi⟩ _

set_option maxRecDepth 100000 in
set_option maxHeartbeats 2000000 in
theorem appC_yes (W : World) (B n nb tb db : Nat) (S : List FileV) (hm : MOwn W B n S) (hn : n ≤ 500) (f : FileV) (hf : f ∈ S) (t : ByteArray) (a : Option Addr) (k cap : Nat) (c u : Int) (d : Bool) (fs : List FileV) (hin : AppIn W nb tb db f.name t a k cap c u d fs) (hs : f.name.size ≤ 1048576) (hts : f.text.size ≤ 1048576) (ht : t.size ≤ 1048576) (hk : k ≤ 1048576) (hus : usedF fs ≤ 1048576) (hc : 0 ≤ c ∧ c ≤ 100000) (q : ¬ c - (usedF fs : Int) < (t.size : Int)) :
    Calls Tryd.prog 39 #[.map (some B), .pointer (some ⟨nb, 0, none⟩), .pointer (some ⟨tb, 0, none⟩), .pointer (some ⟨db, 0, none⟩)] W fun e w' => e = .returned .nilIface ∧ MOwn w' B (n + 1) (⟨f.name, f.text ++ t, f.safe⟩ :: others S f.name) ∧ W.grownBy w' (some B) := by
  have hB : B < W.heap.size := by obtain ⟨D, h1, h2⟩ := hm; exact h1.lt
  have HFO := hide (implFileOf_yes W B n S hm f hf (by omega))
  obtain ⟨D, hown, hsh⟩ := hm
  have HO := hide hown
  have HSH := hide (hsh.put ⟨f.name, f.text ++ t, f.safe⟩)
  have hkey : keyOf Tryd.prog 9 (.string f.name) = some (litN f) := WideMaps.keyOf_string_mk Tryd.underlying9 (by unfold maxLen; omega)
  clear hown hsh
  have HI := hide hin
  have hnl := hin.nam
  clear hin
  go_enter Tryd.func39, Tryd.ntmps39
  go_wp2_with fail
  refine HFO.out.mono ?_
  rintro e w1 ⟨rfl, hb1⟩
  clear hnl
  obtain ⟨X, hX⟩ : ∃ X, X = w1.alloc (.cells #[.string f.name, .string f.text, .int .i64 f.safe] 45) := ⟨_, rfl⟩
  have hbX : Below W.heap.size W X := by rw [hX]; exact hb1.trans (((Below.refl _ _).alloc (Nat.le_refl _) _).mono hb1.size)
  have HX := hide hbX
  have HIX := hide (HI.out.later hbX)
  have HFX : Hid (X.heap[w1.heap.size]? = some (.cells #[.string f.name, .string f.text, .int .i64 f.safe] 45 (0, 0))) := hide (by rw [hX]; exact heap_alloc_new w1 _)
  have hx1 : W.heap.size ≤ w1.heap.size := hb1.size
  clear hbX hb1 HFO
  have wf : IntKind.i64.wrap (c - (usedF fs : Int)) = c - (usedF fs : Int) := by rw [IntKind.wrap_i64]; omega
  have t2 : decide (c - (usedF fs : Int) < (t.size : Int)) = false := by simpa using q
  have HLW : Hid (∀ w', Below X.heap.size X w' → w'.cell? ⟨db, 0, none⟩ = some (.slice a k cap) ∧ w'.cell? ⟨db, 1, none⟩ = some (.int .i64 c) ∧ w'.cell? ⟨tb, 0, none⟩ = some (.string t) ∧ Hid (Below X.heap.size X w')) := hide (fun w' h => by
    have hi := HIX.out.later h
    obtain ⟨z0, z1, -⟩ := cells4 hi.dsk
    exact ⟨z0, z1, hi.txt, hide h⟩)
  have HBY : Hid (∀ w', Hid (Below X.heap.size X w') → Calls Tryd.prog 41 #[.slice a k cap] w' fun e w'' => e = .returned (.int .i64 (usedF fs)) ∧ Below X.heap.size X w'') := hide (fun w' h =>
    (implBytes_any w' a k cap fs (HIX.out.later h.out).row (by omega) (by omega)).mono (fun e w'' ⟨h1, h2⟩ => ⟨h1, h.out.trans (h2.mono h.out.size)⟩))
  have S0 := HLW.out X.drew (Below.refl _ _).drew
  have c0 := (cells4 HIX.out.dsk).1
  have c1 := (cells4 HIX.out.dsk).2.1
  have c2 := HIX.out.txt
  go_wp2
  rw [← hX]
  clear c0 c1 c2 hX
  first
    | (go_region_held3 (fun w' => w'.cell? ⟨db, 0, none⟩ = some (.slice a k cap) ∧ w'.cell? ⟨db, 1, none⟩ = some (.int .i64 c) ∧ w'.cell? ⟨tb, 0, none⟩ = some (.string t) ∧ Hid (Below X.heap.size X w')) (assumption) ((go_at_call 41; refine (HBY.out _ (by simp only [*])).mono ?_; rintro e w5 ⟨rfl, hb5⟩; have hS5 := HLW.out w5 hb5)))
    | fail
  have hxl : w1.heap.size < X.heap.size := blk_lt HFX.out
  have hbw := HX.out.trans (hb5.mono HX.out.size)
  have HBW := hide hbw
  have hi5 := HIX.out.later hb5
  have c1 := hi5.nam
  have c2 := hi5.txt
  have hf5 := (hb5.block _ hxl).trans HFX.out
  obtain ⟨z0, z1, z2⟩ := cells3 hf5
  have z3 : w5.frozen? ⟨w1.heap.size, 1, none⟩ = false := by simp [World.frozen?, hf5]
  have hnn : nb < W.heap.size := cell_lt HI.out.nam
  have hnt : tb < W.heap.size := cell_lt HI.out.txt
  have n1 : nb ≠ w1.heap.size := by omega
  have n2 : tb ≠ w1.heap.size := by omega
  have n3 : w1.heap.size ≠ nb := by omega
  have n4 : w1.heap.size ≠ tb := by omega
  have HG5 : Hid (W.grownBy w5 none) := hide ⟨hbw.os, hbw.tape, hbw.output, hbw.size, fun i hi _ => hbw.block i hi⟩
  have HO5 := hide (HO.out.kept HG5.out (by simp))
  obtain ⟨x, hx⟩ : ∃ x, w1.heap.size = x := ⟨_, rfl⟩
  rw [hx] at z0 z1 z2 z3 n1 n2 n3 n4 hx1 ⊢
  clear hbw hb5 hS5 S0 HLW HBY HIX HX hi5 hf5 HFX hx hxl HO HI
  go_wp2_with (at_mapUpdate; refine wpList_mapUpdate_own _ rfl _ _ _ 48 rfl 9 45 keyLaw Tryd.underlying48 _ B n _ rfl (HO5.out.setCell (by dsimp only; omega) _) (by unfold maxLen; omega) _ _ _ rfl rfl hkey _ [] (fileElem_mk ⟨f.name, f.text ++ t, f.safe⟩) ?_; intro w6 hown6 hg6)
  go_ret
  refine ⟨rfl, ⟨_, hown6, HSH.out⟩, ?_⟩
  have hb := HBW.out.setCell (p := ⟨x, 1, none⟩) hx1 (.string (f.text ++ t))
  exact (World.grownBy.but ⟨hb.os, hb.tape, hb.output, hb.size, fun i hi _ => hb.block i hi⟩ _).andThen hg6 (fun j hj => Or.inr hj)

end Go.Proofs.YthhjomaccbpnbabDoor
