/-
  What the six steps keep: a right disk stays right; what the files' texts are behind Append, Remove and Rename.
-/
import Derived.Test.YthfpcjamlbkgfaaStepMore
import Derived.Test.YthfpcjamlbkgfaaAskSpec
namespace Go.Proofs.Ythfpcjamlbkgfaa
open Go.RowKit Go.Maps
open Plain

/-- The files of a right disk of this capacity. -/
structure GoodF (fs : List FileV) (c : Int) : Prop where
  len : fs.length ≤ 130
  used : (usedF fs : Int) ≤ c
  ris : Rising fs
  ok : ∀ f, f ∈ fs → okF f = true
theorem goodF_of {fs : List FileV} {c u : Int} (h : diskOk fs c u = true) : GoodF fs c where
  len := (len_of h).1
  used := (len_of h).2.2.2.2
  ris := rising_of h
  ok := fun f hf => by
    obtain ⟨i, hi, rfl⟩ := List.mem_iff_getElem.1 hf
    have h1 := okAt_of h i hi
    unfold okAt at h1
    rw [getD_of hi, Bool.and_eq_true] at h1
    exact h1.1
theorem GoodF.diskOk {fs : List FileV} {c u : Int} (h : GoodF fs c) (hc : 0 ≤ c ∧ c ≤ 100000) (hu : -1 ≤ u ∧ u ≤ 100000) : diskOk fs c u = true := by
  unfold Proofs.Ythfpcjamlbkgfaa.diskOk headOk
  rw [Bool.and_eq_true, Bool.and_eq_true, Bool.and_eq_true, Bool.and_eq_true]
  refine ⟨⟨decide_eq_true h.len, inB_yes hc, inB_yes hu, decide_eq_true h.used⟩, okAll_good fs (fun i hi => ?_)⟩
  unfold okAt
  rw [getD_of hi, h.ok _ (List.getElem_mem hi), Bool.true_and]
  rcases Nat.eq_zero_or_pos i with h0 | h0
  · simp [h0]
  · have h1 : i - 1 < fs.length := by omega
    rw [getD_of h1]
    have h2 := List.pairwise_iff_getElem.1 h.ris (i - 1) i h1 hi (by omega)
    have h3 : sle (fs[i]).name (fs[i - 1]).name = false := by
      rw [sle_less, bytesLess_lt, tl, tl]
      simpa using h2
    rw [h3]
    simp
theorem usedF_perm {fs gs : List FileV} (h : fs.Perm gs) : usedF fs = usedF gs := by
  induction h with
  | nil => rfl
  | cons a _ ih => simp [usedF, ih]
  | swap a b l => simp [usedF]; omega
  | trans _ _ ih1 ih2 => rw [ih1, ih2]
theorem usedF_sub {fs gs : List FileV} (h : gs.Sublist fs) : usedF gs ≤ usedF fs := by
  induction h with
  | slnil => exact Nat.le_refl _
  | cons a _ ih => simp [usedF]; omega
  | cons_cons a _ ih => simp [usedF]; omega
theorem usedF_set (fs : List FileV) : ∀ k g, (hk : k < fs.length) → usedF (fs.set k g) + (fs[k]).text.size = usedF fs + g.text.size := by
  induction fs with
  | nil => intro k g hk; simp at hk
  | cons a r ih =>
    intro k g hk
    cases k with
    | zero => simp [usedF]; omega
    | succ k =>
      have := ih k g (by simpa using hk)
      simp [usedF] at this ⊢
      omega
theorem okF_parts {f : FileV} (h : okF f = true) : nameOk f.name = true ∧ 0 ≤ f.safe ∧ f.safe ≤ (f.text.size : Int) := by
  unfold okF inB at h
  rw [Bool.and_eq_true, decide_eq_true_eq] at h
  exact ⟨h.1, h.2.1, h.2.2⟩
theorem okF_mk {f : FileV} (h1 : nameOk f.name = true) (h2 : 0 ≤ f.safe) (h3 : f.safe ≤ (f.text.size : Int)) : okF f = true := by
  unfold okF
  rw [Bool.and_eq_true]
  exact ⟨h1, inB_yes ⟨h2, h3⟩⟩
theorem GoodF.set {fs : List FileV} {c : Int} (h : GoodF fs c) (k : Nat) (hk : k < fs.length) (g : FileV) (hn : g.name = (fs[k]).name) (hg : okF g = true) (hu : (usedF fs : Int) + (g.text.size : Int) - ((fs[k]).text.size : Int) ≤ c) : GoodF (fs.set k g) c where
  len := by rw [List.length_set]; exact h.len
  used := by have := usedF_set fs k g hk; omega
  ris := rising_set h.ris k hk g hn
  ok := fun f hf => by
    rcases List.mem_or_eq_of_mem_set hf with h1 | h1
    · exact h.ok f h1
    · rw [h1]; exact hg
theorem GoodF.sub {fs gs : List FileV} {c : Int} (h : GoodF fs c) (hs : gs.Sublist fs) : GoodF gs c where
  len := Nat.le_trans hs.length_le h.len
  used := by have := usedF_sub hs; have := h.used; omega
  ris := rising_sub h.ris hs
  ok := fun f hf => h.ok f (hs.mem hf)
theorem GoodF.ins {fs : List FileV} {c : Int} (h : GoodF fs c) (f : FileV) (hl : fs.length < 130) (hn : ∀ g, g ∈ fs → g.name ≠ f.name) (hf : okF f = true) (hu : (usedF fs : Int) + (f.text.size : Int) ≤ c) : GoodF (insF fs f) c where
  len := by rw [insF_length]; omega
  used := by rw [usedF_perm (insF_perm fs f)]; simp [usedF]; omega
  ris := insF_rising h.ris hn
  ok := fun g hg => by
    rcases List.mem_cons.1 ((insF_perm fs f).mem_iff.1 hg) with h1 | h1
    · rw [h1]; exact hf
    · exact h.ok g h1

theorem good_app {fs : List FileV} {c : Int} (h : GoodF fs c) (nm t : ByteArray) (hc : appC fs c nm t = 0) : GoodF (appR fs nm t) c := by
  unfold appC at hc
  by_cases hf : findF fs nm < 0
  · rw [if_pos hf] at hc; omega
  · rw [if_neg hf] at hc
    by_cases h2 : c - (usedF fs : Int) < (t.size : Int)
    · rw [if_pos h2] at hc; omega
    · obtain ⟨k, hk, hkl, hkn⟩ := findF_name hf
      unfold appR
      rw [hk, Int.toNat_natCast, getD_of hkl]
      obtain ⟨o1, o2, o3⟩ := okF_parts (h.ok _ (List.getElem_mem hkl))
      refine h.set k hkl _ rfl (okF_mk o1 o2 ?_) ?_
      · simp [ByteArray.size_append]; omega
      · simp [ByteArray.size_append]; omega
theorem good_syn {fs : List FileV} {c : Int} (h : GoodF fs c) (nm : ByteArray) (hf : ¬ findF fs nm < 0) : GoodF (fs.set (findF fs nm).toNat ⟨(fs.getD (findF fs nm).toNat zeroF).name, (fs.getD (findF fs nm).toNat zeroF).text, ((fs.getD (findF fs nm).toNat zeroF).text.size : Int)⟩) c := by
  obtain ⟨k, hk, hkl, hkn⟩ := findF_name hf
  rw [hk, Int.toNat_natCast, getD_of hkl]
  obtain ⟨o1, o2, o3⟩ := okF_parts (h.ok _ (List.getElem_mem hkl))
  have hu := h.used
  exact h.set k hkl _ rfl (okF_mk o1 (by simp) (by simp)) (by simp; omega)
theorem good_cre {fs : List FileV} {c : Int} (h : GoodF fs c) (nm : ByteArray) (hc : creC fs nm = 0) : GoodF (creR fs nm) c := by
  obtain ⟨h1, h2, h3⟩ := creC_ok hc
  have hu := h.used
  exact h.ins _ (by omega) (findF_none h2) (okF_mk h1 (by simp) (by simp)) (by show ((usedF fs : Nat) : Int) + ((0 : Nat) : Int) ≤ c; omega)
theorem good_rem {fs : List FileV} {c : Int} (h : GoodF fs c) (nm : ByteArray) : GoodF (remR fs nm) c := h.sub (List.eraseIdx_sublist _ _)
theorem good_tru {fs : List FileV} {c : Int} (h : GoodF fs c) (nm : ByteArray) (m : Int) (hc : truC fs nm m = 0) : GoodF (truR fs nm m) c := by
  unfold truC at hc
  by_cases hf : findF fs nm < 0
  · rw [if_pos hf] at hc; omega
  · rw [if_neg hf] at hc
    obtain ⟨k, hk, hkl, hkn⟩ := findF_name hf
    unfold truR
    rw [hk, Int.toNat_natCast, getD_of hkl] at hc ⊢
    by_cases h2 : inB 0 m ((fs[k]).text.size : Int) = true
    · unfold inB at h2
      rw [decide_eq_true_eq] at h2
      obtain ⟨M, rfl⟩ := Int.eq_ofNat_of_zero_le h2.1
      obtain ⟨o1, o2, o3⟩ := okF_parts (h.ok _ (List.getElem_mem hkl))
      have hu := h.used
      have hs : ((fs[k]).text.extract 0 M).size = M := by rw [ByteArray.size_extract]; omega
      rw [Int.toNat_natCast]
      exact h.set k hkl _ rfl (okF_mk o1 (by simp; omega) (by simp only; rw [hs]; omega)) (by simp only; rw [hs]; omega)
    · rw [if_neg h2] at hc; omega
theorem used_others {fs : List FileV} (h : fs.Pairwise (fun f g => f.name ≠ g.name)) (k : Nat) (hk : k < fs.length) : usedF (others fs (fs[k]).name) + (fs[k]).text.size = usedF fs := by
  have h1 := set_perm_others h k hk (fs[k])
  rw [set_same] at h1
  rw [usedF_perm h1]
  simp [usedF]
  omega
theorem good_ren {fs : List FileV} {c : Int} (h : GoodF fs c) (nm to : ByteArray) (hc : renC fs nm to = 0) : GoodF (renR fs nm to) c := by
  obtain ⟨h1, h2⟩ := renC_ok hc
  unfold renR
  split
  · exact h
  · rw [ren2_eq h.ris nm to h2]
    obtain ⟨k, hk, hkl, hkn⟩ := findF_name h2
    have hN : renN fs nm to = ⟨to, (fs[k]).text, (fs[k]).safe⟩ := by unfold renN; rw [hk, Int.toNat_natCast, getD_of hkl]
    rw [hN]
    obtain ⟨o1, o2, o3⟩ := okF_parts (h.ok _ (List.getElem_mem hkl))
    have hs : (others (others fs nm) to).Sublist fs := List.filter_sublist.trans List.filter_sublist
    have hu := h.used
    have hu2 := used_others h.ris.apart k hkl
    rw [hkn] at hu2
    have hu3 := usedF_sub (List.filter_sublist (p := fun g => decide (g.name ≠ to)) (l := others fs nm))
    have hl : (others fs nm).length + 1 = fs.length := by
      have := length_others h.ris.apart (List.getElem_mem hkl)
      rw [hkn] at this
      exact this
    have hl2 := (List.filter_sublist (p := fun g => decide (g.name ≠ to)) (l := others fs nm)).length_le
    refine (h.sub hs).ins _ ?_ (fun g hg => (mem_others.1 hg).2) (okF_mk h1 o2 o3) ?_
    · have := h.len
      show (List.filter (fun g => decide (g.name ≠ to)) (others fs nm)).length < 130
      omega
    · show ((usedF (List.filter (fun g => decide (g.name ≠ to)) (others fs nm)) : Nat) : Int) + ((fs[k]).text.size : Int) ≤ c
      omega

/-- What the law asks of one step's answer. -/
structure StepLaw (fs : List FileV) (c u : Int) (d : Bool) (r : List FileV × Int) : Prop where
  good : r.2 = 0 → diskOk r.1 c (begU fs c u d) = true ∧ d = false ∧ u ≠ 0 ∧ (0 < u → begU fs c u d = u - 1)
  bad : r.2 ≠ 0 → r.1 = fs ∧ (diskOk fs c u = true → (d = true ∨ u = 0) → r.2 = 1)
theorem stepF_law {fs : List FileV} {c u : Int} {d : Bool} {code : Int} {R : List FileV} (h : GoodF fs c → code = 0 → GoodF R c) : StepLaw fs c u d (stepF fs c u d code R) := by
  unfold stepF
  by_cases hb : begC fs c u d = 0
  · rw [if_pos hb]
    have hq : diskOk fs c u = true ∧ d = false ∧ u ≠ 0 := by
      unfold begC at hb
      by_cases h1 : diskOk fs c u = true
      · rw [if_pos h1] at hb
        by_cases h2 : d = true ∨ u = 0
        · rw [if_pos h2] at hb; omega
        · refine ⟨h1, ?_, fun e => h2 (Or.inr e)⟩
          cases d
          · rfl
          · exact absurd (Or.inl rfl) h2
      · rw [if_neg h1] at hb; omega
    have hl := len_of hq.1
    refine ⟨fun h0 => ?_, fun h0 => ?_⟩
    · have h0' : code = 0 := h0
      have hU : begU fs c u d = (if 0 < u then u - 1 else u) := by
        unfold begU
        by_cases h3 : 0 < u
        · rw [if_pos ⟨hq.1, hq.2.1, h3⟩, if_pos h3]
        · rw [if_neg (fun h => h3 h.2.2), if_neg h3]
      have hu2 : u ≤ 100000 := by
        have := hq.1
        unfold diskOk headOk at this
        simp only [Bool.and_eq_true, decide_eq_true_eq] at this
        have h4 := this.1.2.2.1
        unfold inB at h4
        rw [decide_eq_true_eq] at h4
        exact h4.2
      refine ⟨?_, hq.2.1, hq.2.2, fun h3 => by rw [hU, if_pos h3]⟩
      simp only [h0', if_true]
      refine (h (goodF_of hq.1) h0').diskOk ⟨hl.2.2.1, hl.2.2.2.1⟩ ?_
      rw [hU]
      split
      · omega
      · omega
    · have h0' : code ≠ 0 := h0
      refine ⟨by simp only [h0', if_false], fun _ h5 => ?_⟩
      rcases h5 with h5 | h5
      · rw [hq.2.1] at h5; cases h5
      · exact absurd h5 hq.2.2
  · rw [if_neg hb]
    refine ⟨fun h0 => absurd h0 hb, fun _ => ⟨rfl, fun h1 h2 => ?_⟩⟩
    show begC fs c u d = 1
    unfold begC
    rw [if_pos h1, if_pos h2]

theorem law_app (fs : List FileV) (c u : Int) (d : Bool) (nm t : ByteArray) : StepLaw fs c u d (appF fs c u d nm t) := by
  rw [← appF_step]; exact stepF_law (fun h hc => good_app h nm t hc)
theorem law_cre (fs : List FileV) (c u : Int) (d : Bool) (nm : ByteArray) : StepLaw fs c u d (creF fs c u d nm) := by
  rw [← creF_step]; exact stepF_law (fun h hc => good_cre h nm hc)
theorem law_rem (fs : List FileV) (c u : Int) (d : Bool) (nm : ByteArray) : StepLaw fs c u d (remF fs c u d nm) := by
  rw [← remF_step]; exact stepF_law (fun h _ => good_rem h nm)
theorem law_ren (fs : List FileV) (c u : Int) (d : Bool) (nm t : ByteArray) : StepLaw fs c u d (renF fs c u d nm t) := by
  rw [← renF_step]; exact stepF_law (fun h hc => good_ren h nm t hc)
theorem law_tru (fs : List FileV) (c u : Int) (d : Bool) (nm : ByteArray) (m : Int) : StepLaw fs c u d (truF fs c u d nm m) := by
  rw [← truF_step]; exact stepF_law (fun h hc => good_tru h nm m hc)

/-- A file of this name is there: its text is told. -/
theorem textA_of {R : List FileV} {c u : Int} (hok : diskOk R c u = true) {f : FileV} (hf : f ∈ R) {x : ByteArray} (hn : f.name = x) : textA R c u x = (f.text, true) := by
  have h1 : ¬ findF R x < 0 := fun h => findF_none h f hf hn
  obtain ⟨k, hk, hkl, hkn⟩ := findF_name h1
  have e : R[k] = f := apart_eq (rising_of hok).apart (List.getElem_mem hkl) hf (by rw [hkn, hn])
  unfold textA
  rw [if_pos hok, if_neg h1, hk, Int.toNat_natCast, getD_of hkl, e]
/-- Where a step has gone well: how it came to its answer. -/
theorem stepF_ok {fs : List FileV} {c u : Int} {d : Bool} {code : Int} {R : List FileV} (h : (stepF fs c u d code R).2 = 0) : begC fs c u d = 0 ∧ code = 0 ∧ (stepF fs c u d code R).1 = R := by
  unfold stepF at h ⊢
  by_cases hb : begC fs c u d = 0
  · rw [if_pos hb] at h ⊢
    have h' : code = 0 := h
    exact ⟨hb, h', by simp [h']⟩
  · rw [if_neg hb] at h
    exact absurd h hb
theorem text_app {fs : List FileV} {c u : Int} {d : Bool} {nm t : ByteArray} (h : (appF fs c u d nm t).2 = 0) : (textA fs c u nm).2 = true ∧ (textA (appF fs c u d nm t).1 c (begU fs c u d) nm) = ((textA fs c u nm).1 ++ t, true) := by
  have hL := (law_app fs c u d nm t).good h
  rw [← appF_step] at h hL ⊢
  obtain ⟨hb, hc, hR⟩ := stepF_ok h
  rw [hR] at hL ⊢
  have hf : ¬ findF fs nm < 0 := fun h2 => by unfold appC at hc; rw [if_pos h2] at hc; omega
  obtain ⟨k, hk, hkl, hkn⟩ := findF_name hf
  have h0 : textA fs c u nm = ((fs[k]).text, true) := textA_of (begC_ok hb) (List.getElem_mem hkl) hkn
  have h1 : (⟨(fs[k]).name, (fs[k]).text ++ t, (fs[k]).safe⟩ : FileV) ∈ appR fs nm t := by
    unfold appR
    rw [hk, Int.toNat_natCast, getD_of hkl]
    exact List.mem_set hkl _
  rw [h0]
  exact ⟨rfl, textA_of hL.1 h1 hkn⟩
theorem text_rem {fs : List FileV} {c u : Int} {d : Bool} {nm : ByteArray} (h : (remF fs c u d nm).2 = 0) : (textA (remF fs c u d nm).1 c (begU fs c u d) nm).2 = false := by
  rw [← remF_step] at h ⊢
  obtain ⟨hb, hc, hR⟩ := stepF_ok h
  rw [hR]
  have hf : ¬ findF fs nm < 0 := fun h2 => by unfold remC at hc; rw [if_pos h2] at hc; omega
  rw [remR_others (rising_of (begC_ok hb)).apart nm hf]
  have h1 : findF (others fs nm) nm < 0 := by
    rcases Int.lt_or_le (findF (others fs nm) nm) 0 with h2 | h2
    · exact h2
    · obtain ⟨k, hk, hkl, hkn⟩ := findF_name (Int.not_lt.2 h2)
      exact absurd hkn (mem_others.1 (List.getElem_mem hkl)).2
  unfold textA
  split
  · rfl
  · rfl
theorem text_ren {fs : List FileV} {c u : Int} {d : Bool} {nm t : ByteArray} (h : (renF fs c u d nm t).2 = 0) : textA (renF fs c u d nm t).1 c (begU fs c u d) t = ((textA fs c u nm).1, true) := by
  have hL := (law_ren fs c u d nm t).good h
  rw [← renF_step] at h hL ⊢
  obtain ⟨hb, hc, hR⟩ := stepF_ok h
  rw [hR] at hL ⊢
  obtain ⟨h1, hf⟩ := renC_ok hc
  obtain ⟨k, hk, hkl, hkn⟩ := findF_name hf
  have h0 : textA fs c u nm = ((fs[k]).text, true) := textA_of (begC_ok hb) (List.getElem_mem hkl) hkn
  have hp := renR_perm (rising_of (begC_ok hb)) nm t k hk hkl hkn
  rw [h0]
  exact textA_of hL.1 (hp.mem_iff.2 List.mem_cons_self) rfl

/-- How much the files of a right disk weigh. -/
theorem GoodF.size {fs : List FileV} {c : Int} (h : GoodF fs c) : szFs fs ≤ usedF fs + 12 * fs.length := by
  have hk := h.ok
  clear h
  induction fs with
  | nil => simp [szFs]
  | cons f r ih =>
    have h1 := (okF_parts (hk f List.mem_cons_self)).1
    have h2 : f.name.size ≤ 12 := by
      unfold nameOk at h1
      rw [Bool.and_eq_true, decide_eq_true_eq] at h1
      exact h1.2.2
    have h3 := ih (fun g hg => hk g (List.mem_cons_of_mem _ hg))
    simp [szFs, szF, usedF]
    omega

end Go.Proofs.Ythfpcjamlbkgfaa
