/-
  What copyCheck and WriteString of strings.Builder leave alone: each block that is not the builder's, and is no row of bytes.
-/
import Derived.Test.YtimpokbcfjgdaaaDoorBuilderI
namespace Go.Proofs.YtimpokbcfjgdaaaDoor
open Go.RowKit
open Plain

/-- All blocks but b and the rows of bytes stand. -/
def KeepB (b : Nat) (w w' : World) : Prop := ∀ k cs T fr, k ≠ b → T ≠ 5 → w.heap[k]? = some (.cells cs T fr) → w'.heap[k]? = some (.cells cs T fr)
theorem KeepB.refl (b : Nat) (w : World) : KeepB b w w := fun _ _ _ _ _ _ h => h
theorem KeepB.set (b : Nat) (w : World) (j : Nat) (v : Value) : KeepB b w (w.setCell ⟨b, j, none⟩ v) := fun k _ _ _ hk _ h => (Below.heap_setCell w ⟨b, j, none⟩ v k (fun e => hk e)).trans h
theorem KeepB.trans {b : Nat} {w w' w'' : World} (h : KeepB b w w') (h2 : KeepB b w' w'') : KeepB b w w'' := fun k cs T fr hk hT h3 => h2 k cs T fr hk hT (h k cs T fr hk hT h3)
theorem KeepB.grown {b B n : Nat} {w w' : World} {v : Value} {xs : List Value} (hown : w.ownsRow B 5 1 v n xs) (hg : w.grownBy w' v.ownBlock) : KeepB b w w' := fun k cs T fr _ hT h => by
  refine (hg.block k (Array.getElem?_eq_some_iff.1 h).1 (fun e => ?_)).trans h
  rcases hown.2 with h1 | ⟨g, c, cur, e1, hbg, hg1, h2⟩
  · rw [h1.1] at e; cases e
  · rw [e1] at e
    obtain rfl : k = g := Option.some.inj e
    rw [hg1] at h
    injection h with h
    injection h with h3 h4 h5
    exact hT h4.symm

set_option maxHeartbeats 1000000 in
set_option maxRecDepth 100000 in
/-- copyCheck leaves a builder that knows its own place, with what it held. -/
theorem bldCheckK (B b : Nat) (bs : List Value) (w : World) (h : Lib.IsBuilder 48 5 B b bs w) :
    Calls Tryd.prog 39 #[.pointer (some ⟨b, 0, none⟩)] w fun e w' => e = .returned (.tuple #[]) ∧ Lib.BuilderAt 48 5 B b (.pointer (some ⟨b, 0, none⟩)) bs w' ∧ Below B w w' ∧ KeepB b w w' := by
  obtain ⟨j, hj, hjs⟩ := Option.map_eq_some_iff.1 bldSize
  rcases h with h | h
  · have HE := hide (h.used (.pointer (some ⟨b, 0, none⟩)))
    have HB := hide ((Below.refl B w).setCell (p := ⟨b, 0, none⟩) h.1 (.pointer (some ⟨b, 0, none⟩)))
    have d0 := h.cell0
    have f0 := h.frozen0
    have c1 := Lib.run_to_unsafe (P := Tryd.prog) w ⟨b, 0, none⟩ Tryd.underlying45 Tryd.underlying83 hj (by rw [hjs]; decide) h.shape (Nat.zero_lt_succ 1)
    have c2 := @run_callFunc_extern Tryd.prog 50 _ Extern.AbiNoEscape.same Tryd.func50 (by kernel_rfl) (by kernel_rfl) (by kernel_rfl) (by kernel_rfl)
    have c3 : ∀ x, (Extern.AbiNoEscape.same #[x]).run Tryd.prog w = .ok x w := fun x => Lib.run_noEscape w x
    have c4 := Lib.run_from_unsafe (P := Tryd.prog) w ⟨b, 0, none⟩ Tryd.underlying83 Tryd.underlying45 hj h.shape bldLies
    clear h
    go_enter Tryd.func39, Tryd.ntmps39
    go_wp2
    go_end0
    exact ⟨rfl, HE.out, HB.out, KeepB.set _ _ _ _⟩
  · have HE := hide h
    have d0 := h.cell0
    have c1 := Lib.run_neq_ptr_same (P := Tryd.prog) w ⟨b, 0, none⟩ Tryd.underlying45 hj
    clear h
    go_enter Tryd.func39, Tryd.ntmps39
    go_wp2
    go_end0
    exact ⟨rfl, HE.out, Below.refl B _, KeepB.refl _ _⟩

set_option maxHeartbeats 2000000 in
set_option maxRecDepth 100000 in
/-- WriteString puts a text behind what the builder holds. -/
theorem bldWriteK (B b : Nat) (bs : List Value) (s : ByteArray) (w : World) (h : Lib.IsBuilder 48 5 B b bs w) (hlen : bs.length + s.size ≤ 140737488355328) (hBw : B ≤ w.heap.size) :
    Calls Tryd.prog 21 #[.pointer (some ⟨b, 0, none⟩), .string s] w fun e w' => e = .returned (.tuple #[.int .i64 s.size, .nilIface]) ∧ (Lib.BuilderAt 48 5 B b (.pointer (some ⟨b, 0, none⟩)) (bs ++ Lib.strCells s) w' ∧ Below B w w' ∧ KeepB b w w') := by
  obtain ⟨i0, hi, hz0, hz1, hz2⟩ := info_parts bldByte
  have HC := hide (bldCheckK B b bs w h)
  clear h
  go_enter Tryd.func21, Tryd.ntmps21
  go_wp2_with fail
  refine HC.out.mono ?_
  rintro e w1 ⟨rfl, ⟨hB, v, hbk, hown, hne⟩, hb1, hk1⟩
  have HK := hide hbk
  have HO := hide hown
  have HN := hide hne
  have HB1 := hide hb1
  have HK1 := hide hk1
  have hs1 : B ≤ w1.heap.size := Nat.le_trans hBw hb1.size
  have d0 : w1.cell? ⟨b, 0, none⟩ = _ := cell_of_row w1 _ 0 _ _ _ hbk
  have d1 : w1.cell? ⟨b, 1, none⟩ = _ := cell_of_row w1 _ 1 _ _ _ hbk
  clear hbk hown hne hb1 hk1 HC
  go_wp2_with (at_builtin; refine Lib.wpList_append_own_string _ rfl _ _ 46 9 rfl B 5 i0 Tryd.underlying46 Tryd.underlying9 hi hz0 hz1 hz2 _ _ _ rfl HO.out s rfl (by unfold maxLen; omega) hlen hs1 ?_; intro v' w2 ho2 hg2 _; have HG := hide (bld_grown (cs := bs ++ Lib.strCells s) hB HK.out HO.out HN.out (by simpa [Lib.strCells_length] using ho2) hg2 hs1); obtain ⟨ao, n', cap, rfl⟩ : ∃ ao n' cap, v' = .slice ao n' cap := (by rcases ho2.2 with ⟨e, _⟩ | ⟨_, _, _, e, _⟩ <;> exact ⟨_, _, _, e⟩); have y0 : w2.cell? ⟨b, 0, none⟩ = _ := cell_of_row w2 _ 0 _ _ _ HG.out.1; have y1 : w2.cell? ⟨b, 1, none⟩ = _ := cell_of_row w2 _ 1 _ _ _ HG.out.1; have g1 := Lib.frozen_of_heap HG.out.1 1; have HK2 := hide (KeepB.grown (b := b) HO.out hg2); clear ho2 hg2)
  go_ret2
  exact ⟨rfl, HG.out.2.1, HB1.out.trans HG.out.2.2, (HK1.out.trans HK2.out).trans (KeepB.set _ _ _ _)⟩

end Go.Proofs.YtimpokbcfjgdaaaDoor
