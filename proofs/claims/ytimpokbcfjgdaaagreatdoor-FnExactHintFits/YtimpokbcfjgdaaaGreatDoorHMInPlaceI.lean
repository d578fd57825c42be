/-
  impl.inPlace: the entries of a map in the order of their places; impl.DirDrop.
-/
import Derived.Test.YtimpokbcfjgdaaaGreatDoorHMPlaceMap
import Derived.Test.YtimpokbcfjgdaaaGreatDoorHG19
import Derived.Maps.OwnOps
import Derived.Lib.Walk
namespace Go.Proofs.YtimpokbcfjgdaaaGreatDoor
open Go.RowKit Go.Maps Go.Sort Go.Shelf
open Plain

/-- The places that are kept, in order. -/
def alive (n : Nat) (s : Nat → Bool) : List Nat := (List.range n).filter s
def aliveZ (n : Nat) (s : Nat → Bool) : List Int := (alive n s).map (fun i : Nat => (i : Int))
theorem aliveZ_len (n : Nat) (s : Nat → Bool) : (aliveZ n s).length = (alive n s).length := by unfold aliveZ; rw [List.length_map]
theorem alive_len (n : Nat) (s : Nat → Bool) : (alive n s).length ≤ n := by
  have := List.length_filter_le s (List.range n)
  rw [List.length_range] at this
  exact this
theorem alive_lt {n : Nat} {s : Nat → Bool} {i : Nat} (h : i ∈ alive n s) : i < n ∧ s i = true := by
  unfold alive at h
  rw [List.mem_filter, List.mem_range] at h
  exact h
theorem alive_rise (n : Nat) (s : Nat → Bool) : (alive n s).Pairwise (· < ·) := (List.pairwise_lt_range).sublist List.filter_sublist
theorem aliveZ_sorted (n : Nat) (s : Nat → Bool) : (aliveZ n s).mergeSort leI = aliveZ n s := by
  refine List.mergeSort_of_pairwise ?_
  unfold aliveZ
  rw [List.pairwise_map]
  exact (alive_rise n s).imp (fun {a b} h => by simp only [leI, decide_eq_true_eq]; omega)
theorem aliveZ_perm {D : DataW Unit} {xs : List EntV} {s : Nat → Bool} {w : World} {B n : Nat} (h : PShows D xs s) (hown : w.ownsMap Tryz.prog 3 entElem B n D) : (aliveZ xs.length s).Perm (intKeys D) := by
  refine CollectedI.perm (left := fun _ => false) ⟨?_, fun x => ?_⟩ hown keyLawP Tryz.underlying3 (fun _ => rfl)
  · unfold aliveZ
    exact List.pairwise_map.2 ((alive_rise _ _).imp (fun {a b} h e => by omega))
  · rw [h.has_ x]
    unfold aliveZ
    rw [List.mem_map]
    constructor
    · rintro ⟨i, hi, rfl⟩
      obtain ⟨h1, h2⟩ := alive_lt hi
      exact ⟨⟨i, rfl, h1, h2⟩, rfl⟩
    · rintro ⟨⟨i, rfl, h1, h2⟩, -⟩
      exact ⟨i, by unfold alive; rw [List.mem_filter, List.mem_range]; exact ⟨h1, h2⟩, rfl⟩
/-- The entries that are kept. -/
def keptE (xs : List EntV) (s : Nat → Bool) : List EntV := (alive xs.length s).map (fun i => xs.getD i zeroE)
theorem list_as (xs : List EntV) : xs = (List.range xs.length).map (fun i => xs.getD i zeroE) := by
  apply List.ext_getElem
  · simp
  · intro i h1 h2
    simp [List.getD, h1]
theorem keptE_drop (xs : List EntV) (key : ByteArray) (s : Nat → Bool) (hs : ∀ i, i < xs.length → s i = decide (¬ (xs.getD i zeroE).key = key)) : keptE xs s = dropE xs key := by
  unfold keptE dropE alive
  have e : (List.range xs.length).filter s = (List.range xs.length).filter ((fun e : EntV => decide (¬ e.key = key)) ∘ (fun i => xs.getD i zeroE)) := by
    apply List.filter_congr
    intro i hi
    rw [List.mem_range] at hi
    rw [hs i hi]
    rfl
  rw [e, ← List.filter_map, ← list_as]

/-- slices.Sort's two contracts at this dump, at the fence that asks nothing. -/
theorem sortsP (m : Nat) : AnyZI.SortsIn Tryz.prog Tryz.laysSorted_ren Fence.wide m :=
  ⟨fun blk off cap ss W hH hblk hsz => callsIn_wide.2 (AnyM.slices_Sort_int Tryz.laysSort blk off cap ss W hH hblk hsz),
   fun p cap W => callsIn_wide.2 (AnyM.slices_Sort_int_none Tryz.laysSort p cap W)⟩
theorem keysP (B : Nat) (W : World) : Calls Tryz.prog 133 #[.map (some B)] W fun e w' => e = .returned (.func (.func 142) #[] #[.pointer (some ⟨W.heap.size, 0, none⟩)]) ∧ w' = W.alloc (.cells #[.map (some B)] 179) :=
  callsIn_wide.1 (AnyZI.keys_in Tryz.laysKeys Fence.wide 5 trivial rfl (some B) W)
theorem sortedP (B nn : Nat) (xs : List EntV) (s : Nat → Bool) (W : World) (h : POwn W B nn xs s) (hn : nn ≤ 1099511627776) :
    Calls Tryz.prog 132 #[.func (.func 142) #[] #[.pointer (some ⟨W.heap.size, 0, none⟩)]] (W.alloc (.cells #[.map (some B)] 179)) fun e w' => ∃ v, e = .returned v ∧ w'.ownsRow (W.heap.size + 1) 3 1 v (alive xs.length s).length ((aliveZ xs.length s).map (Value.int .i64)) ∧ Below (W.heap.size + 1) (W.alloc (.cells #[.map (some B)] 179)) w' := by
  obtain ⟨D, hown, hsh⟩ := h
  have hsz := hown.size_le
  have hbl := hown.lt
  have hseq : SeqGives Fence.wide 2 Tryz.prog 142 #[.pointer (some ⟨W.heap.size, 0, none⟩)] encZ (fun ss => ss.Perm (intKeys D)) (Maps.size D) (W.alloc (.cells #[.map (some B)] 179)) :=
    AnyZI.keys_gives (ρ := Tryz.laysKeys_ren) { Tryz.laysKeys with } Fence.wide _ trivial rfl (by omega) W.heap.size B nn D _ (by simp) (by simp) (hown.alloc _)
  have cS := AnyZI.sorted_in Tryz.laysSorted Fence.wide 5 trivial trivial trivial trivial rfl (by omega) (sortsP _) (enters_of Tryz.func141 (by kernel_rfl) rfl) 142 #[.pointer (some ⟨W.heap.size, 0, none⟩)] trivial (enters_of Tryz.func142 (by kernel_rfl) rfl) _ _ (by unfold maxLen; omega) (by omega) _ hseq
  change CallsIn _ _ Tryz.prog 132 _ _ _ at cS
  refine (callsIn_wide.1 cS).mono ?_
  rintro e w' ⟨v, ss, rfl, hS, hrow, -, hb⟩
  have hp := aliveZ_perm hsh hown
  have hpp : ss.Perm (aliveZ xs.length s) := hS.trans hp.symm
  have e1 : ss.mergeSort (fun x y => decide (x ≤ y)) = aliveZ xs.length s := by
    have := mergeSort_of_perm_i hpp
    rw [aliveZ_sorted] at this
    exact this
  have e2 : ss.length = (alive xs.length s).length := by rw [hpp.length_eq, aliveZ_len]
  rw [e1, e2, World.size_alloc] at hrow
  rw [World.size_alloc] at hb
  exact ⟨v, rfl, hrow, hb⟩

end Go.Proofs.YtimpokbcfjgdaaaGreatDoor
