/-
  What the other five changes answer, as lists of files and codes, and how their answers come to those of spec's steps. What Used and FileText answer, as Lean functions alone. What the six steps keep: a right disk stays right; what the files' texts are behind Append, Remove and Rename. spec.DiskNew: an empty disk of that room, or the zero disk. spec.l3Disk: a right disk of 200 bytes, drawn by up to eleven steps.
-/
import Derived.Test.YthnealhaleccpaaGreatDoorG02
import Derived.Test.YthnealhaleccpaaGreatDoorMSpecs
import Derived.Test.YthnealhaleccpaaGreatDoorG00
namespace Go.Proofs.YthnealhaleccpaaGreatDoor
open Go.RowKit Go.Maps
open Plain

theorem insF_perm : ∀ (fs : List FileV) (f : FileV), (insF fs f).Perm (f :: fs)
  | [], f => List.Perm.refl _
  | g :: r, f => by
    unfold insF
    split
    · exact ((insF_perm r f).cons g).trans (List.Perm.swap f g r)
    · exact List.Perm.refl _
theorem sle_lt {a b : ByteArray} (h : sle a b = true) (hn : a ≠ b) : a.data.toList < b.data.toList := by
  rw [sle_less, bytesLess_lt] at h
  have h3 : ¬ b.toList < a.toList := by simpa using h
  rw [tl, tl] at h3
  rcases List.le_iff_lt_or_eq.1 (List.not_lt.1 h3) with h4 | h4
  · exact h4
  · exact absurd (name_of_data h4) hn
theorem sle_gt {a b : ByteArray} (h : ¬ sle a b = true) : b.data.toList < a.data.toList := by
  rw [sle_less, bytesLess_lt] at h
  have h3 : b.toList < a.toList := by simpa using h
  rw [tl, tl] at h3
  exact h3
theorem insF_rising {fs : List FileV} {f : FileV} (h : Rising fs) (hn : ∀ g, g ∈ fs → g.name ≠ f.name) : Rising (insF fs f) := by
  induction fs with
  | nil => exact List.pairwise_cons.2 ⟨fun x hx => by simp at hx, List.Pairwise.nil⟩
  | cons g r ih =>
    obtain ⟨h1, h2⟩ := List.pairwise_cons.1 h
    unfold insF
    split
    · rename_i hs
      refine List.pairwise_cons.2 ⟨fun x hx => ?_, ih h2 (fun x hx => hn x (List.mem_cons_of_mem _ hx))⟩
      rcases List.mem_cons.1 ((insF_perm r f).mem_iff.1 hx) with rfl | hx
      · exact sle_lt hs (hn g List.mem_cons_self)
      · exact h1 x hx
    · rename_i hs
      refine List.pairwise_cons.2 ⟨fun x hx => ?_, h⟩
      rcases List.mem_cons.1 hx with rfl | hx
      · exact sle_gt hs
      · exact List.lt_trans (sle_gt hs) (h1 x hx)
theorem dropF_others {fs : List FileV} (h : fs.Pairwise (fun f g => f.name ≠ g.name)) (x : ByteArray) : dropF fs x = others fs x := by
  unfold dropF
  by_cases hf : findF fs x < 0
  · rw [if_pos hf, others_none (findF_none hf)]
  · rw [if_neg hf]
    obtain ⟨k, hk, hkl, rfl⟩ := findF_name hf
    rw [hk, Int.toNat_natCast, others_erase h k hkl]
theorem rising_others {fs : List FileV} (h : Rising fs) (x : ByteArray) : Rising (others fs x) := rising_sub h List.filter_sublist
theorem set_same (fs : List FileV) (k : Nat) (hk : k < fs.length) : fs.set k (fs[k]) = fs := by
  apply set_get_self
  rw [List.getElem?_eq_getElem hk]
theorem others_twice (fs : List FileV) (x : ByteArray) : others (others fs x) x = others fs x := others_none (fun _ hg => (mem_others.1 hg).2)

/-! ### Remove -/
def remC (fs : List FileV) (nm : ByteArray) : Int := if findF fs nm < 0 then 3 else 0
def remR (fs : List FileV) (nm : ByteArray) : List FileV := fs.eraseIdx (findF fs nm).toNat
theorem remF_step (fs : List FileV) (c u : Int) (d : Bool) (nm : ByteArray) : stepF fs c u d (remC fs nm) (remR fs nm) = remF fs c u d nm := by
  unfold stepF remF remC remR
  by_cases h : begC fs c u d = 0
  · rw [if_pos h, if_pos h]
    by_cases h2 : findF fs nm < 0
    · simp [h2]
    · simp [h2]
  · rw [if_neg h, if_neg h]
theorem remR_rising {fs : List FileV} (h : Rising fs) (nm : ByteArray) : Rising (remR fs nm) := rising_sub h (List.eraseIdx_sublist _ _)
theorem remR_others {fs : List FileV} (h : fs.Pairwise (fun f g => f.name ≠ g.name)) (nm : ByteArray) (hf : ¬ findF fs nm < 0) : remR fs nm = others fs nm := by
  obtain ⟨k, hk, hkl, rfl⟩ := findF_name hf
  unfold remR
  rw [hk, Int.toNat_natCast, others_erase h k hkl]

/-! ### Create -/
def creC (fs : List FileV) (nm : ByteArray) : Int := if nameOk nm = true then (if findF fs nm < 0 then (if 130 ≤ fs.length then 2 else 0) else 4) else 5
def creR (fs : List FileV) (nm : ByteArray) : List FileV := insF fs ⟨nm, ⟨#[]⟩, 0⟩
theorem creF_step (fs : List FileV) (c u : Int) (d : Bool) (nm : ByteArray) : stepF fs c u d (creC fs nm) (creR fs nm) = creF fs c u d nm := by
  unfold stepF creF creC creR
  by_cases h : begC fs c u d = 0
  · rw [if_pos h, if_pos h]
    by_cases h1 : nameOk nm = true
    · by_cases h2 : findF fs nm < 0
      · by_cases h3 : 130 ≤ fs.length
        · simp [h1, h2, h3]
        · simp [h1, h2, h3]
      · simp [h1, h2]
    · simp [h1]
  · rw [if_neg h, if_neg h]
theorem creC_ok {fs : List FileV} {nm : ByteArray} (h : creC fs nm = 0) : nameOk nm = true ∧ findF fs nm < 0 ∧ ¬ 130 ≤ fs.length := by
  unfold creC at h
  by_cases h1 : nameOk nm = true
  · by_cases h2 : findF fs nm < 0
    · by_cases h3 : 130 ≤ fs.length
      · simp [h1, h2, h3] at h
      · exact ⟨h1, h2, h3⟩
    · simp [h1, h2] at h
  · simp [h1] at h
theorem creR_rising {fs : List FileV} (h : Rising fs) (nm : ByteArray) (hc : creC fs nm = 0) : Rising (creR fs nm) := insF_rising h (findF_none (creC_ok hc).2.1)
theorem creF_len (fs : List FileV) (c u : Int) (d : Bool) (nm : ByteArray) : (creF fs c u d nm).1.length ≤ fs.length + 1 := by
  unfold creF
  repeat' split
  all_goals first | (rw [insF_length]; exact Nat.le_refl _) | exact Nat.le_succ _

/-! ### Append -/
def appC (fs : List FileV) (c : Int) (nm t : ByteArray) : Int := if findF fs nm < 0 then 3 else if c - (usedF fs : Int) < (t.size : Int) then 2 else 0
def appR (fs : List FileV) (nm t : ByteArray) : List FileV := fs.set (findF fs nm).toNat ⟨(fs.getD (findF fs nm).toNat zeroF).name, (fs.getD (findF fs nm).toNat zeroF).text ++ t, (fs.getD (findF fs nm).toNat zeroF).safe⟩
theorem appF_step (fs : List FileV) (c u : Int) (d : Bool) (nm t : ByteArray) : stepF fs c u d (appC fs c nm t) (appR fs nm t) = appF fs c u d nm t := by
  unfold stepF appF appC appR
  by_cases h : begC fs c u d = 0
  · rw [if_pos h, if_pos h]
    by_cases h2 : findF fs nm < 0
    · simp [h2]
    · by_cases h3 : c - (usedF fs : Int) < (t.size : Int)
      · simp [h2, h3]
      · simp [h2, h3]
  · rw [if_neg h, if_neg h]
theorem appF_len (fs : List FileV) (c u : Int) (d : Bool) (nm t : ByteArray) : (appF fs c u d nm t).1.length = fs.length := by
  unfold appF
  repeat' split
  all_goals simp

/-! ### Truncate -/
def truC (fs : List FileV) (nm : ByteArray) (m : Int) : Int := if findF fs nm < 0 then 3 else if inB 0 m ((fs.getD (findF fs nm).toNat zeroF).text.size : Int) = true then 0 else 5
def truR (fs : List FileV) (nm : ByteArray) (m : Int) : List FileV := fs.set (findF fs nm).toNat ⟨(fs.getD (findF fs nm).toNat zeroF).name, (fs.getD (findF fs nm).toNat zeroF).text.extract 0 m.toNat, min (fs.getD (findF fs nm).toNat zeroF).safe m⟩
theorem truF_step (fs : List FileV) (c u : Int) (d : Bool) (nm : ByteArray) (m : Int) : stepF fs c u d (truC fs nm m) (truR fs nm m) = truF fs c u d nm m := by
  unfold stepF truF truC truR
  by_cases h : begC fs c u d = 0
  · rw [if_pos h, if_pos h]
    by_cases h2 : findF fs nm < 0
    · simp [h2]
    · by_cases h3 : inB 0 m ((fs.getD (findF fs nm).toNat zeroF).text.size : Int) = true
      · rw [if_neg h2, if_pos h3, if_neg h2, if_pos h3]
        rfl
      · rw [if_neg h2, if_neg h3, if_neg h2, if_neg h3]
        rfl
  · rw [if_neg h, if_neg h]
theorem truF_len (fs : List FileV) (c u : Int) (d : Bool) (nm : ByteArray) (m : Int) : (truF fs c u d nm m).1.length = fs.length := by
  unfold truF
  repeat' split
  all_goals simp

/-! ### Rename -/
def renC (fs : List FileV) (nm to : ByteArray) : Int := if nameOk to = true then (if findF fs nm < 0 then 3 else 0) else 5
def renN (fs : List FileV) (nm to : ByteArray) : FileV := ⟨to, (fs.getD (findF fs nm).toNat zeroF).text, (fs.getD (findF fs nm).toNat zeroF).safe⟩
def renR (fs : List FileV) (nm to : ByteArray) : List FileV := if nm = to then fs else ren2 fs (findF fs nm).toNat (renN fs nm to)
theorem renF_step (fs : List FileV) (c u : Int) (d : Bool) (nm to : ByteArray) : stepF fs c u d (renC fs nm to) (renR fs nm to) = renF fs c u d nm to := by
  unfold stepF renF renC renR
  by_cases h : begC fs c u d = 0
  · rw [if_pos h, if_pos h]
    by_cases h1 : nameOk to = true
    · by_cases h2 : findF fs nm < 0
      · simp [h1, h2]
      · by_cases h3 : nm = to
        · subst h3
          simp [h1, h2]
        · simp [h1, h2, h3, renN]
    · simp [h1]
  · rw [if_neg h, if_neg h]
theorem renC_ok {fs : List FileV} {nm to : ByteArray} (h : renC fs nm to = 0) : nameOk to = true ∧ ¬ findF fs nm < 0 := by
  unfold renC at h
  by_cases h1 : nameOk to = true
  · by_cases h2 : findF fs nm < 0
    · simp [h1, h2] at h
    · exact ⟨h1, h2⟩
  · simp [h1] at h
theorem ren2_eq {fs : List FileV} (h : Rising fs) (nm to : ByteArray) (hf : ¬ findF fs nm < 0) : ren2 fs (findF fs nm).toNat (renN fs nm to) = insF (others (others fs nm) to) (renN fs nm to) := by
  unfold ren2
  have e : fs.eraseIdx (findF fs nm).toNat = others fs nm := remR_others h.apart nm hf
  rw [e, dropF_others (rising_others h nm).apart]
  rfl
theorem renR_rising {fs : List FileV} (h : Rising fs) (nm to : ByteArray) (hc : renC fs nm to = 0) : Rising (renR fs nm to) := by
  unfold renR
  split
  · exact h
  · rw [ren2_eq h nm to (renC_ok hc).2]
    exact insF_rising (rising_others (rising_others h nm) to) (fun g hg => (mem_others.1 hg).2)
theorem renR_perm {fs : List FileV} (h : Rising fs) (nm to : ByteArray) (k : Nat) (hk : findF fs nm = (k : Int)) (hkl : k < fs.length) (hkn : (fs[k]).name = nm) : (renR fs nm to).Perm (⟨to, (fs[k]).text, (fs[k]).safe⟩ :: others (others fs nm) to) := by
  have hf : ¬ findF fs nm < 0 := by rw [hk]; omega
  have hN : renN fs nm to = ⟨to, (fs[k]).text, (fs[k]).safe⟩ := by unfold renN; rw [hk, Int.toNat_natCast, getD_of hkl]
  unfold renR
  split
  · rename_i e
    subst e
    rw [others_twice]
    have h1 := set_perm_others h.apart k hkl (fs[k])
    rw [set_same, hkn] at h1
    have e2 : (⟨nm, (fs[k]).text, (fs[k]).safe⟩ : FileV) = fs[k] := by rw [← hkn]
    rw [e2]
    exact h1
  · rw [ren2_eq h nm to hf, hN]
    exact insF_perm _ _
theorem dropF_len (fs : List FileV) (nm : ByteArray) : (dropF fs nm).length ≤ fs.length := by
  unfold dropF
  split
  · exact Nat.le_refl _
  · exact List.length_eraseIdx_le _ _
theorem renF_len (fs : List FileV) (c u : Int) (d : Bool) (nm to : ByteArray) : (renF fs c u d nm to).1.length ≤ fs.length + 1 := by
  unfold renF ren2
  repeat' split
  all_goals first
    | exact Nat.le_succ _
    | (rw [insF_length]; dsimp only
       have h1 := dropF_len (fs.eraseIdx (findF fs nm).toNat) to
       have h2 := List.length_eraseIdx_le fs (findF fs nm).toNat
       omega)
theorem remF_len (fs : List FileV) (c u : Int) (d : Bool) (nm : ByteArray) : (remF fs c u d nm).1.length ≤ fs.length := by
  unfold remF
  repeat' split
  all_goals first | exact List.length_eraseIdx_le _ _ | exact Nat.le_refl _

end Go.Proofs.YthnealhaleccpaaGreatDoor
namespace Go.Proofs.YthnealhaleccpaaGreatDoor
open Go.RowKit
open Plain

def usedA (fs : List FileV) (c u : Int) : Int := if diskOk fs c u = true then (usedF fs : Int) else 0
/-- What FileText answers. -/
def textA (fs : List FileV) (c u : Int) (nm : ByteArray) : ByteArray × Bool := if diskOk fs c u = true then (if findF fs nm < 0 then (⟨#[]⟩, false) else ((fs.getD (findF fs nm).toNat zeroF).text, true)) else (⟨#[]⟩, false)
theorem findF_at (fs : List FileV) (nm : ByteArray) (h : ¬ findF fs nm < 0) : ∃ k : Nat, findF fs nm = (k : Int) ∧ k < fs.length := by
  unfold findF at *
  cases hf : fs.findIdx? (fun f => decide (f.name = nm)) with
  | none => rw [hf] at h; simp at h
  | some i =>
    refine ⟨i, rfl, ?_⟩
    rw [List.findIdx?_eq_some_iff_getElem] at hf
    exact hf.1

end Go.Proofs.YthnealhaleccpaaGreatDoor
namespace Go.Proofs.YthnealhaleccpaaGreatDoor
open Go.RowKit Go.Maps
open Plain

/-- The files of a right disk of this capacity. -/
structure GoodF (fs : List FileV) (c : Int) : Prop where
  len : fs.length ≤ 130
  used : (usedF fs : Int) ≤ c
  ris : Rising fs
  ok : ∀ f, f ∈ fs → okF f = true
theorem goodF_of {fs : List FileV} {c u : Int} (h : diskOk fs c u = true) : GoodF fs c where
  len := (len_of h).1
  used := (len_of h).2.2.2.2
  ris := rising_of h
  ok := fun f hf => by
    obtain ⟨i, hi, rfl⟩ := List.mem_iff_getElem.1 hf
    have h1 := okAt_of h i hi
    unfold okAt at h1
    rw [getD_of hi, Bool.and_eq_true] at h1
    exact h1.1
theorem GoodF.diskOk {fs : List FileV} {c u : Int} (h : GoodF fs c) (hc : 0 ≤ c ∧ c ≤ 100000) (hu : -1 ≤ u ∧ u ≤ 100000) : diskOk fs c u = true := by
  unfold Proofs.YthnealhaleccpaaGreatDoor.diskOk headOk
  rw [Bool.and_eq_true, Bool.and_eq_true, Bool.and_eq_true, Bool.and_eq_true]
  refine ⟨⟨decide_eq_true h.len, inB_yes hc, inB_yes hu, decide_eq_true h.used⟩, okAll_good fs (fun i hi => ?_)⟩
  unfold okAt
  rw [getD_of hi, h.ok _ (List.getElem_mem hi), Bool.true_and]
  rcases Nat.eq_zero_or_pos i with h0 | h0
  · simp [h0]
  · have h1 : i - 1 < fs.length := by omega
    rw [getD_of h1]
    have h2 := List.pairwise_iff_getElem.1 h.ris (i - 1) i h1 hi (by omega)
    have h3 : sle (fs[i]).name (fs[i - 1]).name = false := by
      rw [sle_less, bytesLess_lt, tl, tl]
      simpa using h2
    rw [h3]
    simp
theorem usedF_perm {fs gs : List FileV} (h : fs.Perm gs) : usedF fs = usedF gs := by
  induction h with
  | nil => rfl
  | cons a _ ih => simp [usedF, ih]
  | swap a b l => simp [usedF]; omega
  | trans _ _ ih1 ih2 => rw [ih1, ih2]
theorem usedF_sub {fs gs : List FileV} (h : gs.Sublist fs) : usedF gs ≤ usedF fs := by
  induction h with
  | slnil => exact Nat.le_refl _
  | cons a _ ih => simp [usedF]; omega
  | cons_cons a _ ih => simp [usedF]; omega
theorem usedF_set (fs : List FileV) : ∀ k g, (hk : k < fs.length) → usedF (fs.set k g) + (fs[k]).text.size = usedF fs + g.text.size := by
  induction fs with
  | nil => intro k g hk; simp at hk
  | cons a r ih =>
    intro k g hk
    cases k with
    | zero => simp [usedF]; omega
    | succ k =>
      have := ih k g (by simpa using hk)
      simp [usedF] at this ⊢
      omega
theorem okF_parts {f : FileV} (h : okF f = true) : nameOk f.name = true ∧ 0 ≤ f.safe ∧ f.safe ≤ (f.text.size : Int) := by
  unfold okF inB at h
  rw [Bool.and_eq_true, decide_eq_true_eq] at h
  exact ⟨h.1, h.2.1, h.2.2⟩
theorem okF_mk {f : FileV} (h1 : nameOk f.name = true) (h2 : 0 ≤ f.safe) (h3 : f.safe ≤ (f.text.size : Int)) : okF f = true := by
  unfold okF
  rw [Bool.and_eq_true]
  exact ⟨h1, inB_yes ⟨h2, h3⟩⟩
theorem GoodF.set {fs : List FileV} {c : Int} (h : GoodF fs c) (k : Nat) (hk : k < fs.length) (g : FileV) (hn : g.name = (fs[k]).name) (hg : okF g = true) (hu : (usedF fs : Int) + (g.text.size : Int) - ((fs[k]).text.size : Int) ≤ c) : GoodF (fs.set k g) c where
  len := by rw [List.length_set]; exact h.len
  used := by have := usedF_set fs k g hk; omega
  ris := rising_set h.ris k hk g hn
  ok := fun f hf => by
    rcases List.mem_or_eq_of_mem_set hf with h1 | h1
    · exact h.ok f h1
    · rw [h1]; exact hg
theorem GoodF.sub {fs gs : List FileV} {c : Int} (h : GoodF fs c) (hs : gs.Sublist fs) : GoodF gs c where
  len := Nat.le_trans hs.length_le h.len
  used := by have := usedF_sub hs; have := h.used; omega
  ris := rising_sub h.ris hs
  ok := fun f hf => h.ok f (hs.mem hf)
theorem GoodF.ins {fs : List FileV} {c : Int} (h : GoodF fs c) (f : FileV) (hl : fs.length < 130) (hn : ∀ g, g ∈ fs → g.name ≠ f.name) (hf : okF f = true) (hu : (usedF fs : Int) + (f.text.size : Int) ≤ c) : GoodF (insF fs f) c where
  len := by rw [insF_length]; omega
  used := by rw [usedF_perm (insF_perm fs f)]; simp [usedF]; omega
  ris := insF_rising h.ris hn
  ok := fun g hg => by
    rcases List.mem_cons.1 ((insF_perm fs f).mem_iff.1 hg) with h1 | h1
    · rw [h1]; exact hf
    · exact h.ok g h1

theorem good_app {fs : List FileV} {c : Int} (h : GoodF fs c) (nm t : ByteArray) (hc : appC fs c nm t = 0) : GoodF (appR fs nm t) c := by
  unfold appC at hc
  by_cases hf : findF fs nm < 0
  · rw [if_pos hf] at hc; omega
  · rw [if_neg hf] at hc
    by_cases h2 : c - (usedF fs : Int) < (t.size : Int)
    · rw [if_pos h2] at hc; omega
    · obtain ⟨k, hk, hkl, hkn⟩ := findF_name hf
      unfold appR
      rw [hk, Int.toNat_natCast, getD_of hkl]
      obtain ⟨o1, o2, o3⟩ := okF_parts (h.ok _ (List.getElem_mem hkl))
      refine h.set k hkl _ rfl (okF_mk o1 o2 ?_) ?_
      · simp [ByteArray.size_append]; omega
      · simp [ByteArray.size_append]; omega
theorem good_syn {fs : List FileV} {c : Int} (h : GoodF fs c) (nm : ByteArray) (hf : ¬ findF fs nm < 0) : GoodF (fs.set (findF fs nm).toNat ⟨(fs.getD (findF fs nm).toNat zeroF).name, (fs.getD (findF fs nm).toNat zeroF).text, ((fs.getD (findF fs nm).toNat zeroF).text.size : Int)⟩) c := by
  obtain ⟨k, hk, hkl, hkn⟩ := findF_name hf
  rw [hk, Int.toNat_natCast, getD_of hkl]
  obtain ⟨o1, o2, o3⟩ := okF_parts (h.ok _ (List.getElem_mem hkl))
  have hu := h.used
  exact h.set k hkl _ rfl (okF_mk o1 (by simp) (by simp)) (by simp; omega)
theorem good_cre {fs : List FileV} {c : Int} (h : GoodF fs c) (nm : ByteArray) (hc : creC fs nm = 0) : GoodF (creR fs nm) c := by
  obtain ⟨h1, h2, h3⟩ := creC_ok hc
  have hu := h.used
  exact h.ins _ (by omega) (findF_none h2) (okF_mk h1 (by simp) (by simp)) (by show ((usedF fs : Nat) : Int) + ((0 : Nat) : Int) ≤ c; omega)
theorem good_rem {fs : List FileV} {c : Int} (h : GoodF fs c) (nm : ByteArray) : GoodF (remR fs nm) c := h.sub (List.eraseIdx_sublist _ _)
theorem good_tru {fs : List FileV} {c : Int} (h : GoodF fs c) (nm : ByteArray) (m : Int) (hc : truC fs nm m = 0) : GoodF (truR fs nm m) c := by
  unfold truC at hc
  by_cases hf : findF fs nm < 0
  · rw [if_pos hf] at hc; omega
  · rw [if_neg hf] at hc
    obtain ⟨k, hk, hkl, hkn⟩ := findF_name hf
    unfold truR
    rw [hk, Int.toNat_natCast, getD_of hkl] at hc ⊢
    by_cases h2 : inB 0 m ((fs[k]).text.size : Int) = true
    · unfold inB at h2
      rw [decide_eq_true_eq] at h2
      obtain ⟨M, rfl⟩ := Int.eq_ofNat_of_zero_le h2.1
      obtain ⟨o1, o2, o3⟩ := okF_parts (h.ok _ (List.getElem_mem hkl))
      have hu := h.used
      have hs : ((fs[k]).text.extract 0 M).size = M := by rw [ByteArray.size_extract]; omega
      rw [Int.toNat_natCast]
      exact h.set k hkl _ rfl (okF_mk o1 (by simp; omega) (by simp only; rw [hs]; omega)) (by simp only; rw [hs]; omega)
    · rw [if_neg h2] at hc; omega
theorem used_others {fs : List FileV} (h : fs.Pairwise (fun f g => f.name ≠ g.name)) (k : Nat) (hk : k < fs.length) : usedF (others fs (fs[k]).name) + (fs[k]).text.size = usedF fs := by
  have h1 := set_perm_others h k hk (fs[k])
  rw [set_same] at h1
  rw [usedF_perm h1]
  simp [usedF]
  omega
theorem good_ren {fs : List FileV} {c : Int} (h : GoodF fs c) (nm to : ByteArray) (hc : renC fs nm to = 0) : GoodF (renR fs nm to) c := by
  obtain ⟨h1, h2⟩ := renC_ok hc
  unfold renR
  split
  · exact h
  · rw [ren2_eq h.ris nm to h2]
    obtain ⟨k, hk, hkl, hkn⟩ := findF_name h2
    have hN : renN fs nm to = ⟨to, (fs[k]).text, (fs[k]).safe⟩ := by unfold renN; rw [hk, Int.toNat_natCast, getD_of hkl]
    rw [hN]
    obtain ⟨o1, o2, o3⟩ := okF_parts (h.ok _ (List.getElem_mem hkl))
    have hs : (others (others fs nm) to).Sublist fs := List.filter_sublist.trans List.filter_sublist
    have hu := h.used
    have hu2 := used_others h.ris.apart k hkl
    rw [hkn] at hu2
    have hu3 := usedF_sub (List.filter_sublist (p := fun g => decide (g.name ≠ to)) (l := others fs nm))
    have hl : (others fs nm).length + 1 = fs.length := by
      have := length_others h.ris.apart (List.getElem_mem hkl)
      rw [hkn] at this
      exact this
    have hl2 := (List.filter_sublist (p := fun g => decide (g.name ≠ to)) (l := others fs nm)).length_le
    refine (h.sub hs).ins _ ?_ (fun g hg => (mem_others.1 hg).2) (okF_mk h1 o2 o3) ?_
    · have := h.len
      show (List.filter (fun g => decide (g.name ≠ to)) (others fs nm)).length < 130
      omega
    · show ((usedF (List.filter (fun g => decide (g.name ≠ to)) (others fs nm)) : Nat) : Int) + ((fs[k]).text.size : Int) ≤ c
      omega

/-- What the law asks of one step's answer. -/
structure StepLaw (fs : List FileV) (c u : Int) (d : Bool) (r : List FileV × Int) : Prop where
  good : r.2 = 0 → diskOk r.1 c (begU fs c u d) = true ∧ d = false ∧ u ≠ 0 ∧ (0 < u → begU fs c u d = u - 1)
  bad : r.2 ≠ 0 → r.1 = fs ∧ (diskOk fs c u = true → (d = true ∨ u = 0) → r.2 = 1)
theorem stepF_law {fs : List FileV} {c u : Int} {d : Bool} {code : Int} {R : List FileV} (h : GoodF fs c → code = 0 → GoodF R c) : StepLaw fs c u d (stepF fs c u d code R) := by
  unfold stepF
  by_cases hb : begC fs c u d = 0
  · rw [if_pos hb]
    have hq : diskOk fs c u = true ∧ d = false ∧ u ≠ 0 := by
      unfold begC at hb
      by_cases h1 : diskOk fs c u = true
      · rw [if_pos h1] at hb
        by_cases h2 : d = true ∨ u = 0
        · rw [if_pos h2] at hb; omega
        · refine ⟨h1, ?_, fun e => h2 (Or.inr e)⟩
          cases d
          · rfl
          · exact absurd (Or.inl rfl) h2
      · rw [if_neg h1] at hb; omega
    have hl := len_of hq.1
    refine ⟨fun h0 => ?_, fun h0 => ?_⟩
    · have h0' : code = 0 := h0
      have hU : begU fs c u d = (if 0 < u then u - 1 else u) := by
        unfold begU
        by_cases h3 : 0 < u
        · rw [if_pos ⟨hq.1, hq.2.1, h3⟩, if_pos h3]
        · rw [if_neg (fun h => h3 h.2.2), if_neg h3]
      have hu2 : u ≤ 100000 := by
        have := hq.1
        unfold diskOk headOk at this
        simp only [Bool.and_eq_true, decide_eq_true_eq] at this
        have h4 := this.1.2.2.1
        unfold inB at h4
        rw [decide_eq_true_eq] at h4
        exact h4.2
      refine ⟨?_, hq.2.1, hq.2.2, fun h3 => by rw [hU, if_pos h3]⟩
      simp only [h0', if_true]
      refine (h (goodF_of hq.1) h0').diskOk ⟨hl.2.2.1, hl.2.2.2.1⟩ ?_
      rw [hU]
      split
      · omega
      · omega
    · have h0' : code ≠ 0 := h0
      refine ⟨by simp only [h0', if_false], fun _ h5 => ?_⟩
      rcases h5 with h5 | h5
      · rw [hq.2.1] at h5; cases h5
      · exact absurd h5 hq.2.2
  · rw [if_neg hb]
    refine ⟨fun h0 => absurd h0 hb, fun _ => ⟨rfl, fun h1 h2 => ?_⟩⟩
    show begC fs c u d = 1
    unfold begC
    rw [if_pos h1, if_pos h2]

theorem law_app (fs : List FileV) (c u : Int) (d : Bool) (nm t : ByteArray) : StepLaw fs c u d (appF fs c u d nm t) := by
  rw [← appF_step]; exact stepF_law (fun h hc => good_app h nm t hc)
theorem law_cre (fs : List FileV) (c u : Int) (d : Bool) (nm : ByteArray) : StepLaw fs c u d (creF fs c u d nm) := by
  rw [← creF_step]; exact stepF_law (fun h hc => good_cre h nm hc)
theorem law_rem (fs : List FileV) (c u : Int) (d : Bool) (nm : ByteArray) : StepLaw fs c u d (remF fs c u d nm) := by
  rw [← remF_step]; exact stepF_law (fun h _ => good_rem h nm)
theorem law_ren (fs : List FileV) (c u : Int) (d : Bool) (nm t : ByteArray) : StepLaw fs c u d (renF fs c u d nm t) := by
  rw [← renF_step]; exact stepF_law (fun h hc => good_ren h nm t hc)
theorem law_tru (fs : List FileV) (c u : Int) (d : Bool) (nm : ByteArray) (m : Int) : StepLaw fs c u d (truF fs c u d nm m) := by
  rw [← truF_step]; exact stepF_law (fun h hc => good_tru h nm m hc)

/-- A file of this name is there: its text is told. -/
theorem textA_of {R : List FileV} {c u : Int} (hok : diskOk R c u = true) {f : FileV} (hf : f ∈ R) {x : ByteArray} (hn : f.name = x) : textA R c u x = (f.text, true) := by
  have h1 : ¬ findF R x < 0 := fun h => findF_none h f hf hn
  obtain ⟨k, hk, hkl, hkn⟩ := findF_name h1
  have e : R[k] = f := apart_eq (rising_of hok).apart (List.getElem_mem hkl) hf (by rw [hkn, hn])
  unfold textA
  rw [if_pos hok, if_neg h1, hk, Int.toNat_natCast, getD_of hkl, e]
/-- Where a step has gone well: how it came to its answer. -/
theorem stepF_ok {fs : List FileV} {c u : Int} {d : Bool} {code : Int} {R : List FileV} (h : (stepF fs c u d code R).2 = 0) : begC fs c u d = 0 ∧ code = 0 ∧ (stepF fs c u d code R).1 = R := by
  unfold stepF at h ⊢
  by_cases hb : begC fs c u d = 0
  · rw [if_pos hb] at h ⊢
    have h' : code = 0 := h
    exact ⟨hb, h', by simp [h']⟩
  · rw [if_neg hb] at h
    exact absurd h hb
theorem text_app {fs : List FileV} {c u : Int} {d : Bool} {nm t : ByteArray} (h : (appF fs c u d nm t).2 = 0) : (textA fs c u nm).2 = true ∧ (textA (appF fs c u d nm t).1 c (begU fs c u d) nm) = ((textA fs c u nm).1 ++ t, true) := by
  have hL := (law_app fs c u d nm t).good h
  rw [← appF_step] at h hL ⊢
  obtain ⟨hb, hc, hR⟩ := stepF_ok h
  rw [hR] at hL ⊢
  have hf : ¬ findF fs nm < 0 := fun h2 => by unfold appC at hc; rw [if_pos h2] at hc; omega
  obtain ⟨k, hk, hkl, hkn⟩ := findF_name hf
  have h0 : textA fs c u nm = ((fs[k]).text, true) := textA_of (begC_ok hb) (List.getElem_mem hkl) hkn
  have h1 : (⟨(fs[k]).name, (fs[k]).text ++ t, (fs[k]).safe⟩ : FileV) ∈ appR fs nm t := by
    unfold appR
    rw [hk, Int.toNat_natCast, getD_of hkl]
    exact List.mem_set hkl _
  rw [h0]
  exact ⟨rfl, textA_of hL.1 h1 hkn⟩
theorem text_rem {fs : List FileV} {c u : Int} {d : Bool} {nm : ByteArray} (h : (remF fs c u d nm).2 = 0) : (textA (remF fs c u d nm).1 c (begU fs c u d) nm).2 = false := by
  rw [← remF_step] at h ⊢
  obtain ⟨hb, hc, hR⟩ := stepF_ok h
  rw [hR]
  have hf : ¬ findF fs nm < 0 := fun h2 => by unfold remC at hc; rw [if_pos h2] at hc; omega
  rw [remR_others (rising_of (begC_ok hb)).apart nm hf]
  have h1 : findF (others fs nm) nm < 0 := by
    rcases Int.lt_or_le (findF (others fs nm) nm) 0 with h2 | h2
    · exact h2
    · obtain ⟨k, hk, hkl, hkn⟩ := findF_name (Int.not_lt.2 h2)
      exact absurd hkn (mem_others.1 (List.getElem_mem hkl)).2
  unfold textA
  split
  · rfl
  · rfl
theorem text_ren {fs : List FileV} {c u : Int} {d : Bool} {nm t : ByteArray} (h : (renF fs c u d nm t).2 = 0) : textA (renF fs c u d nm t).1 c (begU fs c u d) t = ((textA fs c u nm).1, true) := by
  have hL := (law_ren fs c u d nm t).good h
  rw [← renF_step] at h hL ⊢
  obtain ⟨hb, hc, hR⟩ := stepF_ok h
  rw [hR] at hL ⊢
  obtain ⟨h1, hf⟩ := renC_ok hc
  obtain ⟨k, hk, hkl, hkn⟩ := findF_name hf
  have h0 : textA fs c u nm = ((fs[k]).text, true) := textA_of (begC_ok hb) (List.getElem_mem hkl) hkn
  have hp := renR_perm (rising_of (begC_ok hb)) nm t k hk hkl hkn
  rw [h0]
  exact textA_of hL.1 (hp.mem_iff.2 List.mem_cons_self) rfl

/-- How much the files of a right disk weigh. -/
theorem GoodF.size {fs : List FileV} {c : Int} (h : GoodF fs c) : szFs fs ≤ usedF fs + 12 * fs.length := by
  have hk := h.ok
  clear h
  induction fs with
  | nil => simp [szFs]
  | cons f r ih =>
    have h1 := (okF_parts (hk f List.mem_cons_self)).1
    have h2 : f.name.size ≤ 12 := by
      unfold nameOk at h1
      rw [Bool.and_eq_true, decide_eq_true_eq] at h1
      exact h1.2.2
    have h3 := ih (fun g hg => hk g (List.mem_cons_of_mem _ hg))
    simp [szFs, szF, usedF]
    omega

end Go.Proofs.YthnealhaleccpaaGreatDoor
namespace Go.Proofs.YthnealhaleccpaaGreatDoor
open Go.RowKit
open Plain

def newC (x : Int) : Int := if 0 ≤ x ∧ x ≤ 100000 then x else 0
def newU (x : Int) : Int := if 0 ≤ x ∧ x ≤ 100000 then -1 else 0

set_option maxRecDepth 100000 in
set_option maxHeartbeats 1000000 in
theorem specNew_any (x : Int) (w : World) :
    Calls Tryz.prog 81 #[.int .i64 x] w fun e w' => e = .returned (.agg #[.slice none 0 0, .int .i64 (newC x), .int .i64 (newU x), .bool false]) ∧ Below w.heap.size w w' := by
  go_enter Tryz.func81, Tryz.ntmps81
  go_wp2_with fail
  refine (in_any x 0 100000 _).mono ?_
  rintro e w2 ⟨rfl, rfl⟩
  by_cases h : 0 ≤ x ∧ x ≤ 100000
  · have HC : Hid (newC x = x ∧ newU x = -1) := hide (by unfold newC newU; rw [if_pos h, if_pos h]; exact ⟨rfl, rfl⟩)
    have hd : decide (0 ≤ x ∧ x ≤ 100000) = true := by simpa using h
    rw [hd]
    clear h hd
    go_wp2
    refine bodyPost_ret (v := .agg #[.slice none 0 0, .int .i64 x, .int .i64 (-1), .bool false]) (by simp [results, Tryz.results81, go_sem]) rfl ⟨by rw [HC.out.1, HC.out.2], ?_⟩
    exact (Below.refl _ _).alloc (Nat.le_refl _) _
  · have HC : Hid (newC x = 0 ∧ newU x = 0) := hide (by unfold newC newU; rw [if_neg h, if_neg h]; exact ⟨rfl, rfl⟩)
    have hd : decide (0 ≤ x ∧ x ≤ 100000) = false := by simpa using h
    rw [hd]
    clear h hd
    go_wp2
    refine bodyPost_ret (v := .agg #[.slice none 0 0, .int .i64 0, .int .i64 0, .bool false]) (by simp [results, Tryz.results81, go_sem]) rfl ⟨by rw [HC.out.1, HC.out.2], ?_⟩
    exact (Below.refl _ _).alloc (Nat.le_refl _) _

end Go.Proofs.YthnealhaleccpaaGreatDoor
namespace Go.Proofs.YthnealhaleccpaaGreatDoor
open Go.RowKit Go.Maps
open Plain

theorem beg_good {fs : List FileV} (h : GoodF fs 200) : begC fs 200 (-1) false = 0 ∧ begU fs 200 (-1) false = -1 ∧ begD fs 200 (-1) false = false := by
  have h1 : diskOk fs 200 (-1) = true := h.diskOk (by omega) (by omega)
  refine ⟨by unfold begC; rw [if_pos h1, if_neg (by simp)], by unfold begU; rw [if_neg (by rintro ⟨-, -, h⟩; omega)], by unfold begD; rw [if_pos h1, if_neg (by omega)]⟩
/-- What a step makes of right files. -/
theorem good_stepF {fs : List FileV} {code : Int} {R : List FileV} (h : GoodF fs 200) (hR : code = 0 → GoodF R 200) : GoodF (stepF fs 200 (-1) false code R).1 200 := by
  unfold stepF
  rw [if_pos (beg_good h).1]
  show GoodF (if code = 0 then R else fs) 200
  split
  · rename_i h0; exact hR h0
  · exact h
theorem good_creF {fs : List FileV} (h : GoodF fs 200) (nm : ByteArray) : GoodF (creF fs 200 (-1) false nm).1 200 := by rw [← creF_step]; exact good_stepF h (fun hc => good_cre h nm hc)
theorem good_appF {fs : List FileV} (h : GoodF fs 200) (nm t : ByteArray) : GoodF (appF fs 200 (-1) false nm t).1 200 := by rw [← appF_step]; exact good_stepF h (fun hc => good_app h nm t hc)
theorem good_renF {fs : List FileV} (h : GoodF fs 200) (nm t : ByteArray) : GoodF (renF fs 200 (-1) false nm t).1 200 := by rw [← renF_step]; exact good_stepF h (fun hc => good_ren h nm t hc)
theorem good_synF {fs : List FileV} (h : GoodF fs 200) (nm : ByteArray) : GoodF (synF fs 200 (-1) false nm).1 200 := by
  unfold synF
  rw [if_pos (beg_good h).1]
  split
  · exact h
  · rename_i hf; exact good_syn h nm hf
theorem good_nil : GoodF [] 200 := ⟨by simp, by simp [usedF], List.Pairwise.nil, fun f hf => by simp at hf⟩
theorem synF_len' (fs : List FileV) (c u : Int) (d : Bool) (nm : ByteArray) : (synF fs c u d nm).1.length = fs.length := by
  unfold synF
  split
  · split
    · rfl
    · simp
  · rfl

/-- Where a row's first cell is. -/
theorem FOwn.at0 {w : World} {base : Nat} {a : Option Addr} {n cap : Nat} {fs : List FileV} (h : FOwn w base (.slice a n cap) fs) : (a = none ∧ n = 0 ∧ cap = 0) ∨ ∃ g, a = some ⟨g, 0, none⟩ := by
  rcases h.2 with ⟨e, h0⟩ | ⟨g, c, cur, e, _⟩
  · simp only [Value.slice.injEq] at e
    exact .inl ⟨e.1, e.2.1, e.2.2⟩
  · simp only [Value.slice.injEq] at e
    exact .inr ⟨g, e.1⟩
theorem FOwn.cap0 {w : World} {base : Nat} {a : Option Addr} {n cap : Nat} {fs : List FileV} (h : FOwn w base (.slice a n cap) fs) : a = none → cap = 0 := by
  rcases h.at0 with ⟨_, _, h3⟩ | ⟨g, rfl⟩
  · exact fun _ => h3
  · intro e; cases e
theorem FOwn.rowZ {w : World} {base : Nat} {a : Option Addr} {n cap : Nat} {fs : List FileV} (h : FOwn w base (.slice a n cap) fs) : FRow w 0 a n fs where
  len := h.row.len
  cells := fun i hi => by
    obtain ⟨b, off, h1, _, h3⟩ := h.row.cells i hi
    exact ⟨b, off, h1, Nat.zero_le _, h3⟩
/-- A block that holds a disk is none that holds files. -/
theorem FOwn.blkNe {w : World} {base : Nat} {v : Value} {fs : List FileV} (h : FOwn w base v fs) {b : Nat} {cs : Array Value} {t : TypeId} (hb : w.heap[b]? = some (.cells cs t (0, 0))) (ht : t ≠ 73) : v.ownBlock ≠ some b := by
  intro e
  rcases h.2 with ⟨rfl, _⟩ | ⟨g, c, cur, rfl, _, hg, _⟩
  · cases e
  · simp only [Value.ownBlock, Option.some.injEq] at e
    subst e
    rw [hg] at hb
    simp only [Option.some.injEq, Obj.cells.injEq] at hb
    exact ht hb.2.1.symm
/-- What is drawn from the cursor leaves rows behind it alone. -/
theorem FOwn.grownB {w w' : World} {base B : Nat} {v : Value} {fs : List FileV} (h : FOwn w base v fs) (hg : w.grownBy w' (some B)) (hB : B < base) : FOwn w' base v fs := by
  refine World.ownsRow.kept h hg ?_
  cases e : v.ownBlock with
  | none => exact .inl rfl
  | some g => exact .inr (fun q => by injection q with q; have := (h.blk g e).1; omega)

/-- A world in the midst of l3Disk: the answer's block, the disk's block bd. -/
structure DMid (w wr : World) (B : Nat) (a : Option Addr) (len cap : Nat) (zs : List Int) (bd : Nat) (a' : Option Addr) (k cap' : Nat) (fs : List FileV) : Prop where
  cur : CurX wr B a len cap zs
  res : wr.heap[w.heap.size]? = some (.cells #[.slice none 0 0, .int .i64 0, .int .i64 0, .bool false] 39 (0, 0))
  dsk : wr.heap[bd]? = some (.cells #[.slice a' k cap', .int .i64 200, .int .i64 (-1), .bool false] 39 (0, 0))
  own : FOwn wr (w.heap.size + 1) (.slice a' k cap') fs
  good : GoodF fs 200
  gro : w.grownBy wr (some B)
  lo : w.heap.size < bd
  hB : B < w.heap.size
theorem DMid.grown {w wr wr' : World} {B : Nat} {a : Option Addr} {len cap : Nat} {zs : List Int} {bd : Nat} {a' : Option Addr} {k cap' : Nat} {fs : List FileV} (h : DMid w wr B a len cap zs bd a' k cap' fs) (hg : wr.grownBy wr' (some B)) (hc : CurX wr' B a len cap zs) : DMid w wr' B a len cap zs bd a' k cap' fs where
  cur := hc
  res := by have := h.hB; rw [hg.block _ (lt_of_block h.res) (fun e => by injection e with e; omega)]; exact h.res
  dsk := by have := h.hB; have := h.lo; rw [hg.block _ (lt_of_block h.dsk) (fun e => by injection e with e; omega)]; exact h.dsk
  own := h.own.grownB hg (by have := h.hB; omega)
  good := h.good
  gro := grown_trans h.gro hg
  lo := h.lo
  hB := h.hB
theorem DMid.later {w wr wr' : World} {B : Nat} {a : Option Addr} {len cap : Nat} {zs : List Int} {bd : Nat} {a' : Option Addr} {k cap' : Nat} {fs : List FileV} (h : DMid w wr B a len cap zs bd a' k cap' fs) (hb : Below wr.heap.size wr wr') : DMid w wr' B a len cap zs bd a' k cap' fs :=
  h.grown ⟨hb.os, hb.tape, hb.output, hb.size, fun i hi _ => hb.block i hi⟩ (h.cur.below hb h.cur.lt)

/-- Four cells of a block written. -/
def set4 (w : World) (b : Nat) (v0 v1 v2 v3 : Value) : World := (((w.setCell ⟨b, 0, none⟩ v0).setCell ⟨b, 1, none⟩ v1).setCell ⟨b, 2, none⟩ v2).setCell ⟨b, 3, none⟩ v3
theorem set4_other (w : World) (b i : Nat) (v0 v1 v2 v3 : Value) (h : i ≠ b) : (set4 w b v0 v1 v2 v3).heap[i]? = w.heap[i]? := by
  unfold set4
  rw [Below.heap_setCell _ _ _ _ h, Below.heap_setCell _ _ _ _ h, Below.heap_setCell _ _ _ _ h, Below.heap_setCell _ _ _ _ h]
theorem set4_size (w : World) (b : Nat) (v0 v1 v2 v3 : Value) : (set4 w b v0 v1 v2 v3).heap.size = w.heap.size := by simp [set4, World.setCell]
theorem set4_heap {w : World} {b : Nat} {x0 x1 x2 x3 : Value} {t : TypeId} (h : w.heap[b]? = some (.cells #[x0, x1, x2, x3] t (0, 0))) (v0 v1 v2 v3 : Value) : (set4 w b v0 v1 v2 v3).heap[b]? = some (.cells #[v0, v1, v2, v3] t (0, 0)) := by
  unfold set4
  rw [heap_setCell_cells (heap_setCell_cells (heap_setCell_cells (heap_setCell_cells h _) _) _) _]
  rfl
theorem FOwn.set4 {w : World} {base : Nat} {v : Value} {fs : List FileV} (h : FOwn w base v fs) {b : Nat} (hb : v.ownBlock ≠ some b) (v0 v1 v2 v3 : Value) : FOwn (set4 w b v0 v1 v2 v3) base v fs :=
  (((h.setNe _ _ hb).setNe _ _ hb).setNe _ _ hb).setNe _ _ hb
theorem grown_set4 {w wr : World} {B b : Nat} (h : w.grownBy wr (some B)) (hb : w.heap.size ≤ b) (v0 v1 v2 v3 : Value) : w.grownBy (set4 wr b v0 v1 v2 v3) (some B) :=
  ⟨h.os, h.tape, h.output, by rw [set4_size]; exact h.size, fun i hi hr => by rw [set4_other _ _ _ _ _ _ _ (by omega)]; exact h.block i hi hr⟩
theorem CurX.set4 {w : World} {B : Nat} {a : Option Addr} {len cap : Nat} {zs : List Int} (h : CurX w B a len cap zs) {b : Nat} (hb : B < b) (v0 v1 v2 v3 : Value) : CurX (set4 w b v0 v1 v2 v3) B a len cap zs :=
  (((h.set ⟨b, 0, none⟩ v0 hb).set ⟨b, 1, none⟩ v1 hb).set ⟨b, 2, none⟩ v2 hb).set ⟨b, 3, none⟩ v3 hb
/-- A step's answer goes into x, and from there into the disk. -/
theorem DMid.put {w wr : World} {B : Nat} {a : Option Addr} {len cap : Nat} {zs : List Int} {bd : Nat} {a' : Option Addr} {k cap' : Nat} {fs : List FileV} (h : DMid w wr B a len cap zs bd a' k cap' fs) {xb : Nat} {x0 x1 x2 x3 : Value} (hx : wr.heap[xb]? = some (.cells #[x0, x1, x2, x3] 39 (0, 0))) (hlt : bd < xb)
    {a2 : Option Addr} {m cap2 : Nat} {R : List FileV} (ho : FOwn wr (w.heap.size + 1) (.slice a2 m cap2) R) (hg : GoodF R 200) :
    DMid w (set4 (set4 wr xb (.slice a2 m cap2) (.int .i64 200) (.int .i64 (-1)) (.bool false)) bd (.slice a2 m cap2) (.int .i64 200) (.int .i64 (-1)) (.bool false)) B a len cap zs bd a2 m cap2 R where
  cur := (h.cur.set4 (by have := h.hB; have := h.lo; omega) _ _ _ _).set4 (by have := h.hB; have := h.lo; omega) _ _ _ _
  res := by have := h.lo; rw [set4_other _ _ _ _ _ _ _ (by omega), set4_other _ _ _ _ _ _ _ (by omega)]; exact h.res
  dsk := by
    have h1 := h.dsk
    rw [← set4_other wr xb bd (.slice a2 m cap2) (.int .i64 200) (.int .i64 (-1)) (.bool false) (by omega)] at h1
    exact set4_heap h1 _ _ _ _
  own := (ho.set4 (ho.blkNe hx (by decide)) _ _ _ _).set4 (ho.blkNe h.dsk (by decide)) _ _ _ _
  good := hg
  gro := grown_set4 (grown_set4 h.gro (by have := h.lo; omega) _ _ _ _) (by have := h.lo; omega) _ _ _ _
  lo := h.lo
  hB := h.hB

end Go.Proofs.YthnealhaleccpaaGreatDoor
