/-
  What the other five changes answer, as lists of files and codes, and how their answers come to those of spec's steps.
-/
import Derived.Test.YthfpcjamlbkgfaaStepPlain
import Derived.Test.YthfpcjamlbkgfaaSpecs
namespace Go.Proofs.Ythfpcjamlbkgfaa
open Go.RowKit Go.Maps
open Plain

theorem insF_perm : ∀ (fs : List FileV) (f : FileV), (insF fs f).Perm (f :: fs)
  | [], f => List.Perm.refl _
  | g :: r, f => by
    unfold insF
    split
    · exact ((insF_perm r f).cons g).trans (List.Perm.swap f g r)
    · exact List.Perm.refl _
theorem sle_lt {a b : ByteArray} (h : sle a b = true) (hn : a ≠ b) : a.data.toList < b.data.toList := by
  rw [sle_less, bytesLess_lt] at h
  have h3 : ¬ b.toList < a.toList := by simpa using h
  rw [tl, tl] at h3
  rcases List.le_iff_lt_or_eq.1 (List.not_lt.1 h3) with h4 | h4
  · exact h4
  · exact absurd (name_of_data h4) hn
theorem sle_gt {a b : ByteArray} (h : ¬ sle a b = true) : b.data.toList < a.data.toList := by
  rw [sle_less, bytesLess_lt] at h
  have h3 : b.toList < a.toList := by simpa using h
  rw [tl, tl] at h3
  exact h3
theorem insF_rising {fs : List FileV} {f : FileV} (h : Rising fs) (hn : ∀ g, g ∈ fs → g.name ≠ f.name) : Rising (insF fs f) := by
  induction fs with
  | nil => exact List.pairwise_cons.2 ⟨fun x hx => by simp at hx, List.Pairwise.nil⟩
  | cons g r ih =>
    obtain ⟨h1, h2⟩ := List.pairwise_cons.1 h
    unfold insF
    split
    · rename_i hs
      refine List.pairwise_cons.2 ⟨fun x hx => ?_, ih h2 (fun x hx => hn x (List.mem_cons_of_mem _ hx))⟩
      rcases List.mem_cons.1 ((insF_perm r f).mem_iff.1 hx) with rfl | hx
      · exact sle_lt hs (hn g List.mem_cons_self)
      · exact h1 x hx
    · rename_i hs
      refine List.pairwise_cons.2 ⟨fun x hx => ?_, h⟩
      rcases List.mem_cons.1 hx with rfl | hx
      · exact sle_gt hs
      · exact List.lt_trans (sle_gt hs) (h1 x hx)
theorem dropF_others {fs : List FileV} (h : fs.Pairwise (fun f g => f.name ≠ g.name)) (x : ByteArray) : dropF fs x = others fs x := by
  unfold dropF
  by_cases hf : findF fs x < 0
  · rw [if_pos hf, others_none (findF_none hf)]
  · rw [if_neg hf]
    obtain ⟨k, hk, hkl, rfl⟩ := findF_name hf
    rw [hk, Int.toNat_natCast, others_erase h k hkl]
theorem rising_others {fs : List FileV} (h : Rising fs) (x : ByteArray) : Rising (others fs x) := rising_sub h List.filter_sublist
theorem set_same (fs : List FileV) (k : Nat) (hk : k < fs.length) : fs.set k (fs[k]) = fs := by
  apply set_get_self
  rw [List.getElem?_eq_getElem hk]
theorem others_twice (fs : List FileV) (x : ByteArray) : others (others fs x) x = others fs x := others_none (fun _ hg => (mem_others.1 hg).2)

/-! ### Remove -/
def remC (fs : List FileV) (nm : ByteArray) : Int := if findF fs nm < 0 then 3 else 0
def remR (fs : List FileV) (nm : ByteArray) : List FileV := fs.eraseIdx (findF fs nm).toNat
theorem remF_step (fs : List FileV) (c u : Int) (d : Bool) (nm : ByteArray) : stepF fs c u d (remC fs nm) (remR fs nm) = remF fs c u d nm := by
  unfold stepF remF remC remR
  by_cases h : begC fs c u d = 0
  · rw [if_pos h, if_pos h]
    by_cases h2 : findF fs nm < 0
    · simp [h2]
    · simp [h2]
  · rw [if_neg h, if_neg h]
theorem remR_rising {fs : List FileV} (h : Rising fs) (nm : ByteArray) : Rising (remR fs nm) := rising_sub h (List.eraseIdx_sublist _ _)
theorem remR_others {fs : List FileV} (h : fs.Pairwise (fun f g => f.name ≠ g.name)) (nm : ByteArray) (hf : ¬ findF fs nm < 0) : remR fs nm = others fs nm := by
  obtain ⟨k, hk, hkl, rfl⟩ := findF_name hf
  unfold remR
  rw [hk, Int.toNat_natCast, others_erase h k hkl]

/-! ### Create -/
def creC (fs : List FileV) (nm : ByteArray) : Int := if nameOk nm = true then (if findF fs nm < 0 then (if 130 ≤ fs.length then 2 else 0) else 4) else 5
def creR (fs : List FileV) (nm : ByteArray) : List FileV := insF fs ⟨nm, ⟨#[]⟩, 0⟩
theorem creF_step (fs : List FileV) (c u : Int) (d : Bool) (nm : ByteArray) : stepF fs c u d (creC fs nm) (creR fs nm) = creF fs c u d nm := by
  unfold stepF creF creC creR
  by_cases h : begC fs c u d = 0
  · rw [if_pos h, if_pos h]
    by_cases h1 : nameOk nm = true
    · by_cases h2 : findF fs nm < 0
      · by_cases h3 : 130 ≤ fs.length
        · simp [h1, h2, h3]
        · simp [h1, h2, h3]
      · simp [h1, h2]
    · simp [h1]
  · rw [if_neg h, if_neg h]
theorem creC_ok {fs : List FileV} {nm : ByteArray} (h : creC fs nm = 0) : nameOk nm = true ∧ findF fs nm < 0 ∧ ¬ 130 ≤ fs.length := by
  unfold creC at h
  by_cases h1 : nameOk nm = true
  · by_cases h2 : findF fs nm < 0
    · by_cases h3 : 130 ≤ fs.length
      · simp [h1, h2, h3] at h
      · exact ⟨h1, h2, h3⟩
    · simp [h1, h2] at h
  · simp [h1] at h
theorem creR_rising {fs : List FileV} (h : Rising fs) (nm : ByteArray) (hc : creC fs nm = 0) : Rising (creR fs nm) := insF_rising h (findF_none (creC_ok hc).2.1)
theorem creF_len (fs : List FileV) (c u : Int) (d : Bool) (nm : ByteArray) : (creF fs c u d nm).1.length ≤ fs.length + 1 := by
  unfold creF
  repeat' split
  all_goals first | (rw [insF_length]; exact Nat.le_refl _) | exact Nat.le_succ _

/-! ### Append -/
def appC (fs : List FileV) (c : Int) (nm t : ByteArray) : Int := if findF fs nm < 0 then 3 else if c - (usedF fs : Int) < (t.size : Int) then 2 else 0
def appR (fs : List FileV) (nm t : ByteArray) : List FileV := fs.set (findF fs nm).toNat ⟨(fs.getD (findF fs nm).toNat zeroF).name, (fs.getD (findF fs nm).toNat zeroF).text ++ t, (fs.getD (findF fs nm).toNat zeroF).safe⟩
theorem appF_step (fs : List FileV) (c u : Int) (d : Bool) (nm t : ByteArray) : stepF fs c u d (appC fs c nm t) (appR fs nm t) = appF fs c u d nm t := by
  unfold stepF appF appC appR
  by_cases h : begC fs c u d = 0
  · rw [if_pos h, if_pos h]
    by_cases h2 : findF fs nm < 0
    · simp [h2]
    · by_cases h3 : c - (usedF fs : Int) < (t.size : Int)
      · simp [h2, h3]
      · simp [h2, h3]
  · rw [if_neg h, if_neg h]
theorem appF_len (fs : List FileV) (c u : Int) (d : Bool) (nm t : ByteArray) : (appF fs c u d nm t).1.length = fs.length := by
  unfold appF
  repeat' split
  all_goals simp

/-! ### Truncate -/
def truC (fs : List FileV) (nm : ByteArray) (m : Int) : Int := if findF fs nm < 0 then 3 else if inB 0 m ((fs.getD (findF fs nm).toNat zeroF).text.size : Int) = true then 0 else 5
def truR (fs : List FileV) (nm : ByteArray) (m : Int) : List FileV := fs.set (findF fs nm).toNat ⟨(fs.getD (findF fs nm).toNat zeroF).name, (fs.getD (findF fs nm).toNat zeroF).text.extract 0 m.toNat, min (fs.getD (findF fs nm).toNat zeroF).safe m⟩
theorem truF_step (fs : List FileV) (c u : Int) (d : Bool) (nm : ByteArray) (m : Int) : stepF fs c u d (truC fs nm m) (truR fs nm m) = truF fs c u d nm m := by
  unfold stepF truF truC truR
  by_cases h : begC fs c u d = 0
  · rw [if_pos h, if_pos h]
    by_cases h2 : findF fs nm < 0
    · simp [h2]
    · by_cases h3 : inB 0 m ((fs.getD (findF fs nm).toNat zeroF).text.size : Int) = true
      · rw [if_neg h2, if_pos h3, if_neg h2, if_pos h3]
        rfl
      · rw [if_neg h2, if_neg h3, if_neg h2, if_neg h3]
        rfl
  · rw [if_neg h, if_neg h]
theorem truF_len (fs : List FileV) (c u : Int) (d : Bool) (nm : ByteArray) (m : Int) : (truF fs c u d nm m).1.length = fs.length := by
  unfold truF
  repeat' split
  all_goals simp

/-! ### Rename -/
def renC (fs : List FileV) (nm to : ByteArray) : Int := if nameOk to = true then (if findF fs nm < 0 then 3 else 0) else 5
def renN (fs : List FileV) (nm to : ByteArray) : FileV := ⟨to, (fs.getD (findF fs nm).toNat zeroF).text, (fs.getD (findF fs nm).toNat zeroF).safe⟩
def renR (fs : List FileV) (nm to : ByteArray) : List FileV := if nm = to then fs else ren2 fs (findF fs nm).toNat (renN fs nm to)
theorem renF_step (fs : List FileV) (c u : Int) (d : Bool) (nm to : ByteArray) : stepF fs c u d (renC fs nm to) (renR fs nm to) = renF fs c u d nm to := by
  unfold stepF renF renC renR
  by_cases h : begC fs c u d = 0
  · rw [if_pos h, if_pos h]
    by_cases h1 : nameOk to = true
    · by_cases h2 : findF fs nm < 0
      · simp [h1, h2]
      · by_cases h3 : nm = to
        · subst h3
          simp [h1, h2]
        · simp [h1, h2, h3, renN]
    · simp [h1]
  · rw [if_neg h, if_neg h]
theorem renC_ok {fs : List FileV} {nm to : ByteArray} (h : renC fs nm to = 0) : nameOk to = true ∧ ¬ findF fs nm < 0 := by
  unfold renC at h
  by_cases h1 : nameOk to = true
  · by_cases h2 : findF fs nm < 0
    · simp [h1, h2] at h
    · exact ⟨h1, h2⟩
  · simp [h1] at h
theorem ren2_eq {fs : List FileV} (h : Rising fs) (nm to : ByteArray) (hf : ¬ findF fs nm < 0) : ren2 fs (findF fs nm).toNat (renN fs nm to) = insF (others (others fs nm) to) (renN fs nm to) := by
  unfold ren2
  have e : fs.eraseIdx (findF fs nm).toNat = others fs nm := remR_others h.apart nm hf
  rw [e, dropF_others (rising_others h nm).apart]
  rfl
theorem renR_rising {fs : List FileV} (h : Rising fs) (nm to : ByteArray) (hc : renC fs nm to = 0) : Rising (renR fs nm to) := by
  unfold renR
  split
  · exact h
  · rw [ren2_eq h nm to (renC_ok hc).2]
    exact insF_rising (rising_others (rising_others h nm) to) (fun g hg => (mem_others.1 hg).2)
theorem renR_perm {fs : List FileV} (h : Rising fs) (nm to : ByteArray) (k : Nat) (hk : findF fs nm = (k : Int)) (hkl : k < fs.length) (hkn : (fs[k]).name = nm) : (renR fs nm to).Perm (⟨to, (fs[k]).text, (fs[k]).safe⟩ :: others (others fs nm) to) := by
  have hf : ¬ findF fs nm < 0 := by rw [hk]; omega
  have hN : renN fs nm to = ⟨to, (fs[k]).text, (fs[k]).safe⟩ := by unfold renN; rw [hk, Int.toNat_natCast, getD_of hkl]
  unfold renR
  split
  · rename_i e
    subst e
    rw [others_twice]
    have h1 := set_perm_others h.apart k hkl (fs[k])
    rw [set_same, hkn] at h1
    have e2 : (⟨nm, (fs[k]).text, (fs[k]).safe⟩ : FileV) = fs[k] := by rw [← hkn]
    rw [e2]
    exact h1
  · rw [ren2_eq h nm to hf, hN]
    exact insF_perm _ _
theorem dropF_len (fs : List FileV) (nm : ByteArray) : (dropF fs nm).length ≤ fs.length := by
  unfold dropF
  split
  · exact Nat.le_refl _
  · exact List.length_eraseIdx_le _ _
theorem renF_len (fs : List FileV) (c u : Int) (d : Bool) (nm to : ByteArray) : (renF fs c u d nm to).1.length ≤ fs.length + 1 := by
  unfold renF ren2
  repeat' split
  all_goals first
    | exact Nat.le_succ _
    | (rw [insF_length]; dsimp only
       have h1 := dropF_len (fs.eraseIdx (findF fs nm).toNat) to
       have h2 := List.length_eraseIdx_le fs (findF fs nm).toNat
       omega)
theorem remF_len (fs : List FileV) (c u : Int) (d : Bool) (nm : ByteArray) : (remF fs c u d nm).1.length ≤ fs.length := by
  unfold remF
  repeat' split
  all_goals first | exact List.length_eraseIdx_le _ _ | exact Nat.le_refl _

end Go.Proofs.Ythfpcjamlbkgfaa
