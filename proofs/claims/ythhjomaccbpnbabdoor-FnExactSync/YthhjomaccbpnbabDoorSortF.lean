/-
  Files sorted by their names with slices.SortFunc: cmp.Compare at texts, the closure of impl.inOrder, and what the row holds behind the sort.
-/
import Derived.Test.YthhjomaccbpnbabDoorShelf
import Derived.Test.YthhjomaccbpnbabDoorSpecs
import Derived.Test.YthhjomaccbpnbabDoorMapFiles
import Derived.Test.YthhjomaccbpnbabDoorCmpS
namespace Go.Proofs.YthhjomaccbpnbabDoor
open Go.RowKit Go.Maps Go.Shelf Go.Lib
open Go.Sort hiding Below
open Plain

set_option maxRecDepth 100000 in
set_option maxHeartbeats 1000000 in
theorem ordC_any (x y : FileV) (W : World) : Calls Tryd.prog 65 #[.agg #[.string x.name, .string x.text, .int .i64 x.safe], .agg #[.string y.name, .string y.text, .int .i64 y.safe]] W fun e w' => e = .returned (.int .i64 (cmpB x.name y.name)) ∧ ∃ q os', w' = grow (W.drewN q) os' := by
  have hcon := fun W' => cmpS_any x.name y.name W'
  generalize cmpB x.name y.name = r at hcon ⊢
  go_enter Tryd.func65, Tryd.ntmps65
  go_wp2_with (go_at_call 66; refine (hcon _).mono ?_; rintro e w' ⟨rfl, rfl⟩)
  go_ret
  exact ⟨rfl, 0, _, by rw [alloc_eq_grow, alloc_eq_grow, grow_grow]; rfl⟩

theorem lt_names (x y : FileV) : ltOf (fun x y : FileV => cmpB x.name y.name) x y = decide (x.name.data.toList < y.name.data.toList) := by
  unfold ltOf cmpB
  simp only [bytesLess_lt, tl]
  by_cases h1 : x.name.data.toList < y.name.data.toList
  · simp [h1]
  · by_cases h2 : y.name.data.toList < x.name.data.toList <;> simp [h1, h2]
theorem swo_names : SWO (ltOf fun x y : FileV => cmpB x.name y.name) where
  irrefl x := by rw [lt_names]; simp [List.lt_irrefl]
  trans x y z h1 h2 := by
    rw [lt_names] at *
    exact decide_eq_true (List.lt_trans (of_decide_eq_true h1) (of_decide_eq_true h2))
  ntrans x y z h1 h2 := by
    rw [lt_names] at *
    exact decide_eq_false (List.not_lt.2 (List.le_trans (List.not_lt.1 (of_decide_eq_false h2)) (List.not_lt.1 (of_decide_eq_false h1))))

theorem flat_fcells [Inhabited FileV] (d : Array FileV) : (flatK FileV.cells 3 d).toList = fcells d.toList := by
  apply List.ext_getElem?
  intro j
  by_cases hj : j < d.size * 3
  · have hi : j / 3 < d.toList.length := by simp; omega
    have hg := fcells_get d.toList (j / 3) hi
    have hd : d[j / 3]! = d.toList[j / 3] := by rw [getElem!_pos d (j / 3) (by simpa using hi)]; simp
    have e1 : (flatK FileV.cells 3 d).toList[j]? = some ((FileV.cells d[j / 3]!)[j % 3]!) := by simp [flatK, hj]
    rw [e1, hd]
    have h3 : j % 3 < 3 := Nat.mod_lt _ (by omega)
    rcases (by omega : j % 3 = 0 ∨ j % 3 = 1 ∨ j % 3 = 2) with h | h | h
    · have e : j = j / 3 * 3 := by omega
      rw [h, show (fcells d.toList)[j]? = (fcells d.toList)[j / 3 * 3]? by rw [← e], hg.1]
      rfl
    · have e : j = j / 3 * 3 + 1 := by omega
      rw [h, show (fcells d.toList)[j]? = (fcells d.toList)[j / 3 * 3 + 1]? by rw [← e], hg.2.1]
      rfl
    · have e : j = j / 3 * 3 + 2 := by omega
      rw [h, show (fcells d.toList)[j]? = (fcells d.toList)[j / 3 * 3 + 2]? by rw [← e], hg.2.2]
      rfl
  · rw [List.getElem?_eq_none (by simp; omega), List.getElem?_eq_none (by rw [fcells_length]; simp; omega)]
theorem holds_own [Inhabited FileV] {w : World} {base g n cap : Nat} {fs : List FileV} (h : FOwn w base (.slice (some ⟨g, 0, none⟩) n cap) fs) : HoldsK FileV.cells 3 w g 0 fs.toArray := by
  have hn := h.len
  intro j hj
  rw [size_flatK] at hj
  have hj' : j < fs.length * 3 := by simpa using hj
  unfold FOwn at h
  rw [hn] at h
  have hf := flat_fcells fs.toArray
  have e : (flatK FileV.cells 3 fs.toArray)[j]! = (fcells fs)[j]! := by
    rw [← Array.getElem!_toList, hf]
  refine ⟨?_, ?_⟩
  · rw [Nat.zero_add, h.cellAt j (by omega), id, e, List.getElem!_eq_getElem?_getD, List.getElem?_eq_getElem (by rw [fcells_length]; exact hj')]
    rfl
  · rw [Nat.zero_add]
    exact h.frozenAt j
theorem own_sorted [Inhabited FileV] {w : World} {base g n cap q : Nat} {os : Array Obj} {fs gs : List FileV} (h : FOwn w base (.slice (some ⟨g, 0, none⟩) n cap) fs) (hl : gs.length = fs.length) :
    FOwn (sortWorldK FileV.cells 3 w g 0 q gs.toArray os) base (.slice (some ⟨g, 0, none⟩) n cap) gs ∧ w.grownBy (sortWorldK FileV.cells 3 w g 0 q gs.toArray os) (some g) := by
  have hn := h.len
  refine ⟨⟨by rw [fcells_length], ?_⟩, ?_⟩
  · rcases h.2 with ⟨e, _⟩ | ⟨g', c', cur, e, h1, h2, h3, h4, h5, h6⟩
    · cases e
    · simp only [Value.slice.injEq, Option.some.injEq, Addr.mk.injEq] at e
      obtain ⟨⟨rfl, _⟩, _, rfl⟩ := e
      refine .inr ⟨g, cap, putCells id 0 (flatK FileV.cells 3 gs.toArray) cur, by rw [hl, hn], h1, ?_, by omega, h4, by simp [putCells, h5], ?_⟩
      · have hg : g < w.heap.size := (Array.getElem?_eq_some_iff.1 h2).1
        unfold sortWorldK putRowK
        rw [heap_grow_old _ _ (by simpa [putRow, mapBlock] using hg)]
        simp [putRow, mapBlock, Sort.ahead, Array.getElem?_modify, h2, onCells]
      · rw [← flat_fcells gs.toArray]
        apply List.ext_getElem?
        intro j
        by_cases hj : j < gs.length * 3
        · rw [List.getElem?_take_of_lt hj, Array.getElem?_toList, Array.getElem?_toList]
          have hc : j < cur.size := by rw [h5]; omega
          have hf : j < (flatK FileV.cells 3 gs.toArray).size := by rw [size_flatK]; simpa using hj
          rw [Array.getElem?_eq_getElem hf, ← getElem!_pos (flatK FileV.cells 3 gs.toArray) j hf]
          simp [putCells, hc, hj]
        · rw [List.getElem?_take_eq_none (by omega), List.getElem?_eq_none (by simp; omega)]
  · refine ⟨rfl, rfl, rfl, by simp [sortWorldK, putRowK, putRow, mapBlock], fun k hk hne => ?_⟩
    unfold sortWorldK putRowK
    rw [heap_grow_old _ _ (by simpa [putRow, mapBlock] using hk)]
    have : g ≠ k := fun e => hne (by rw [e])
    simp [putRow, mapBlock, Sort.ahead, Array.getElem?_modify, this]

theorem cmpLays [Inhabited FileV] (blk off size : Nat) (w : World) : CmpLays Tryd.prog 65 #[] FileV.cells 3 (fun x y => cmpB x.name y.name) blk off size w := fun _ _ _ _ x y => ordC_any x y _

/-- slices.SortFunc by the names, over a row of the call's own. -/
theorem sort_any (w : World) (base : Nat) (a : Option Addr) (n cap : Nat) (fs : List FileV) (h : FOwn w base (.slice a n cap) fs) (hn : n ≤ 1048576) :
    Calls Tryd.prog 64 #[.slice a n cap, .func (.func 65) #[] #[]] w fun e w' => e = .returned (.tuple #[]) ∧ (∃ gs : List FileV, gs.Perm fs ∧ gs.Pairwise (fun f g => ¬ g.name.data.toList < f.name.data.toList) ∧ FOwn w' base (.slice a n cap) gs) ∧ w.grownBy w' (Value.slice a n cap).ownBlock := by
  haveI : Inhabited FileV := ⟨zeroF⟩
  have hl := h.len
  by_cases h0 : n = 0
  · subst h0
    have hfs : fs = [] := List.length_eq_zero_iff.1 hl
    subst hfs
    refine (AnyF.slices_SortFunc_none Tryd.laysSort a cap (.func (.func 65) #[] #[]) w).mono ?_
    rintro e w' ⟨rfl, rfl⟩
    exact ⟨rfl, ⟨[], List.Perm.nil, List.Pairwise.nil, h⟩, ⟨rfl, rfl, rfl, Nat.le_refl _, fun _ _ _ => rfl⟩⟩
  · obtain ⟨g, rfl⟩ : ∃ g, a = some ⟨g, 0, none⟩ := by
      rcases h.2 with ⟨e, h1⟩ | ⟨g, c, cur, e, _⟩
      · simp only [Value.slice.injEq] at e; omega
      · simp only [Value.slice.injEq] at e
        exact ⟨g, e.1⟩
    have hblk : g < w.heap.size := (h.blk g rfl).2
    have hcon := AnyQ.slices_SortFunc Tryd.laysSort 3 Tryd.isAgg45 Tryd.sizeOf45 FileV.cells (fun _ => rfl) (fun x v hv => by simp [FileV.cells] at hv; rcases hv with rfl | rfl | rfl <;> rfl) (fun x y => cmpB x.name y.name) swo_names 65 #[] g 0 cap fs.toArray w (enters_of Tryd.func65 (by kernel_rfl) rfl) (cmpLays g 0 _ w) (holds_own h) hblk (by simp; omega)
    simp only [List.size_toArray, hl] at hcon
    refine Calls.mono hcon ?_
    rintro e w' ⟨rfl, d', q, os, hp, hs, rfl⟩
    have hd : d'.size = n := by rw [hp.1]; simpa using hl
    have he : d' = d'.toList.toArray := by simp
    have ho := own_sorted (q := q) (os := os) (gs := d'.toList) h (by simp [hd, hl])
    rw [← he] at ho
    refine ⟨rfl, ⟨d'.toList, ?_, ?_, ho.1⟩, ho.2⟩
    · have h2 := hp.2.2
      rw [Array.extract_eq_self_of_le (by omega), Array.extract_eq_self_of_le (by simp; omega)] at h2
      simpa using h2
    · rw [List.pairwise_iff_getElem]
      intro i j hi hj hij hlt
      have h3 := hs i j (Nat.zero_le _) hij (by simpa [hd] using hj)
      rw [lt_names, getElem!_pos d' j (by simpa using hj), getElem!_pos d' i (by simpa using hi)] at h3
      exact absurd (by simpa using hlt) (of_decide_eq_false h3)

end Go.Proofs.YthhjomaccbpnbabDoor
