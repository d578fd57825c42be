/-
  strings.Builder at this seat: its copyCheck and its WriteString, walked; its String by the library's contract.
-/
import Derived.Test.YtimpokbcfjgdaaaDoorCore
import Derived.Test.YtimpokbcfjgdaaaDoorShelf
import Derived.Lib.Builder
import Derived.Lib.AppendStr
import Derived.Lib.UnsafeStr
import Derived.Laws.Externs
namespace Go.Proofs.YtimpokbcfjgdaaaDoor
open Go.RowKit
open Plain

theorem bldSize : (Tryd.prog.info? 48).map (·.size) = some 2 := by kernel_rfl
theorem bldLies : liesAt Tryd.prog Tryd.prog.depth 48 (2 / Tryd.prog.cellsOf 48) 0 48 1 = true := by kernel_rfl
theorem bldByte : (Tryd.prog.info? 5).map (fun i => (i.zero, i.size, i.bytes)) = some (some (.int .u8 0), 1, 1) := by kernel_rfl

set_option maxHeartbeats 1000000 in
set_option maxRecDepth 100000 in
/-- copyCheck leaves a builder that knows its own place, with what it held. -/
theorem bldCheck_any (B b : Nat) (bs : List Value) (w : World) (h : Lib.IsBuilder 48 5 B b bs w) :
    Calls Tryd.prog 39 #[.pointer (some ⟨b, 0, none⟩)] w fun e w' => e = .returned (.tuple #[]) ∧ Lib.BuilderAt 48 5 B b (.pointer (some ⟨b, 0, none⟩)) bs w' ∧ Below B w w' := by
  obtain ⟨j, hj, hjs⟩ := Option.map_eq_some_iff.1 bldSize
  rcases h with h | h
  · have HE := hide (h.used (.pointer (some ⟨b, 0, none⟩)))
    have HB := hide ((Below.refl B w).setCell (p := ⟨b, 0, none⟩) h.1 (.pointer (some ⟨b, 0, none⟩)))
    have d0 := h.cell0
    have f0 := h.frozen0
    have c1 := Lib.run_to_unsafe (P := Tryd.prog) w ⟨b, 0, none⟩ Tryd.underlying45 Tryd.underlying83 hj (by rw [hjs]; decide) h.shape (Nat.zero_lt_succ 1)
    have c2 := @run_callFunc_extern Tryd.prog 50 _ Extern.AbiNoEscape.same Tryd.func50 (by kernel_rfl) (by kernel_rfl) (by kernel_rfl) (by kernel_rfl)
    have c3 : ∀ x, (Extern.AbiNoEscape.same #[x]).run Tryd.prog w = .ok x w := fun x => Lib.run_noEscape w x
    have c4 := Lib.run_from_unsafe (P := Tryd.prog) w ⟨b, 0, none⟩ Tryd.underlying83 Tryd.underlying45 hj h.shape bldLies
    clear h
    go_enter Tryd.func39, Tryd.ntmps39
    go_wp2
    go_end0
    exact ⟨rfl, HE.out, HB.out⟩
  · have HE := hide h
    have d0 := h.cell0
    have c1 := Lib.run_neq_ptr_same (P := Tryd.prog) w ⟨b, 0, none⟩ Tryd.underlying45 hj
    clear h
    go_enter Tryd.func39, Tryd.ntmps39
    go_wp2
    go_end0
    exact ⟨rfl, HE.out, Below.refl B _⟩

/-- A row of bytes of the call's own, grown, is put into the builder's block. -/
theorem bld_grown {B b : Nat} {v v' : Value} {bs cs : List Value} {w1 w2 : World} (hB : B ≤ b) (hbk : w1.heap[b]? = some (.cells #[.pointer (some ⟨b, 0, none⟩), v] 48 (0, 0))) (hown : w1.ownsRow B 5 1 v bs.length bs) (hne : v.ownBlock ≠ some b) (hown' : w2.ownsRow B 5 1 v' cs.length cs) (hg : w1.grownBy w2 v.ownBlock) (hBw : B ≤ w1.heap.size) :
    w2.heap[b]? = some (.cells #[.pointer (some ⟨b, 0, none⟩), v] 48 (0, 0)) ∧ Lib.BuilderAt 48 5 B b (.pointer (some ⟨b, 0, none⟩)) cs (w2.setCell ⟨b, 1, none⟩ v') ∧ Below B w1 (w2.setCell ⟨b, 1, none⟩ v') := by
  have h2 := (hg.block b (Array.getElem?_eq_some_iff.1 hbk).1 (fun e => hne e.symm)).trans hbk
  exact ⟨h2, Lib.BuilderAt.put hB h2 hown' (by decide), ((Below.refl B w1).grown hg hBw (fun k hk => (hown.lt k hk).1)).setCell (p := ⟨b, 1, none⟩) hB _⟩

set_option maxHeartbeats 2000000 in
set_option maxRecDepth 100000 in
/-- WriteString puts a text behind what the builder holds. -/
theorem bldWrite_any (B b : Nat) (bs : List Value) (s : ByteArray) (w : World) (h : Lib.IsBuilder 48 5 B b bs w) (hlen : bs.length + s.size ≤ 140737488355328) (hBw : B ≤ w.heap.size) :
    Calls Tryd.prog 21 #[.pointer (some ⟨b, 0, none⟩), .string s] w fun e w' => e = .returned (.tuple #[.int .i64 s.size, .nilIface]) ∧ (Lib.BuilderAt 48 5 B b (.pointer (some ⟨b, 0, none⟩)) (bs ++ Lib.strCells s) w' ∧ Below B w w') := by
  obtain ⟨i0, hi, hz0, hz1, hz2⟩ := info_parts bldByte
  have HC := hide (bldCheck_any B b bs w h)
  clear h
  go_enter Tryd.func21, Tryd.ntmps21
  go_wp2_with fail
  refine HC.out.mono ?_
  rintro e w1 ⟨rfl, ⟨hB, v, hbk, hown, hne⟩, hb1⟩
  have HK := hide hbk
  have HO := hide hown
  have HN := hide hne
  have HB1 := hide hb1
  have hs1 : B ≤ w1.heap.size := Nat.le_trans hBw hb1.size
  have d0 : w1.cell? ⟨b, 0, none⟩ = _ := cell_of_row w1 _ 0 _ _ _ hbk
  have d1 : w1.cell? ⟨b, 1, none⟩ = _ := cell_of_row w1 _ 1 _ _ _ hbk
  clear hbk hown hne hb1 HC
  go_wp2_with (at_builtin; refine Lib.wpList_append_own_string _ rfl _ _ 46 9 rfl B 5 i0 Tryd.underlying46 Tryd.underlying9 hi hz0 hz1 hz2 _ _ _ rfl HO.out s rfl (by unfold maxLen; omega) hlen hs1 ?_; intro v' w2 ho2 hg2 _; have HG := hide (bld_grown (cs := bs ++ Lib.strCells s) hB HK.out HO.out HN.out (by simpa [Lib.strCells_length] using ho2) hg2 hs1); obtain ⟨ao, n', cap, rfl⟩ : ∃ ao n' cap, v' = .slice ao n' cap := (by rcases ho2.2 with ⟨e, _⟩ | ⟨_, _, _, e, _⟩ <;> exact ⟨_, _, _, e⟩); have y0 : w2.cell? ⟨b, 0, none⟩ = _ := cell_of_row w2 _ 0 _ _ _ HG.out.1; have y1 : w2.cell? ⟨b, 1, none⟩ = _ := cell_of_row w2 _ 1 _ _ _ HG.out.1; have g1 := Lib.frozen_of_heap HG.out.1 1; clear ho2 hg2)
  go_ret2
  exact ⟨rfl, HG.out.2.1, HB1.out.trans HG.out.2.2⟩

/-- What it holds, as a text. -/
theorem bldString_any (B b : Nat) (t : ByteArray) (w : World) (h : Lib.IsBuilder 48 5 B b (Lib.strCells t) w) (hBw : B ≤ w.heap.size) :
    Calls Tryd.prog 26 #[.pointer (some ⟨b, 0, none⟩)] w fun e w' => e = .returned (.string t) ∧ Below B w w' := Tryd.Builder_String_any B b t.data.toList w h hBw

theorem bld_later {B b : Nat} {p : Value} {bs : List Value} {w w' : World} (h : Lib.BuilderAt 48 5 B b p bs w) (hb : Below w.heap.size w w') : Lib.BuilderAt 48 5 B b p bs w' := by
  have hlt := h.lt
  obtain ⟨hB, v, hbk, hown, hne⟩ := h
  refine ⟨hB, v, (hb.block b hlt).trans hbk, ⟨hown.1, ?_⟩, hne⟩
  rcases hown.2 with h | ⟨g, c, cur, e, hbg, hg, h1⟩
  · exact .inl h
  · exact .inr ⟨g, c, cur, e, hbg, (hb.block g (Array.getElem?_eq_some_iff.1 hg).1).trans hg, h1⟩

end Go.Proofs.YtimpokbcfjgdaaaDoor
