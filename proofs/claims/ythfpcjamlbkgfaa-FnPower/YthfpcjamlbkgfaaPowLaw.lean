/-
  What holds of a disk behind a power failure: it is right, nothing can be lost any more, and once more changes nothing.
-/
import Derived.Test.YthfpcjamlbkgfaaPowPlain
import Derived.Test.YthfpcjamlbkgfaaDiskLaw
namespace Go.Proofs.Ythfpcjamlbkgfaa
open Go.RowKit
open Plain

def SafeM (fs : List FileV) : Prop := ∀ f ∈ fs, 0 ≤ f.safe ∧ f.safe ≤ (f.text.size : Int)
theorem safeM_of {fs : List FileV} (h : SafeOk fs) : SafeM fs := fun f hf => by
  obtain ⟨i, hi, rfl⟩ := List.mem_iff_getElem.1 hf
  exact h i hi
theorem left_size {f : FileV} (h : 0 ≤ f.safe ∧ f.safe ≤ (f.text.size : Int)) (t : Int) : ((leftF f t).text.size : Int) = leftK f t := by
  have hb := leftK_bd h t
  show (((f.text.extract 0 (leftK f t).toNat).size : Nat) : Int) = _
  rw [ext_size _ _ (by omega)]
  omega
theorem left_ok {f : FileV} (h : 0 ≤ f.safe ∧ f.safe ≤ (f.text.size : Int)) (t : Int) : 0 ≤ (leftF f t).safe ∧ (leftF f t).safe ≤ ((leftF f t).text.size : Int) := by
  have hb := leftK_bd h t
  rw [left_size h t]
  exact ⟨by show 0 ≤ leftK f t; omega, Int.le_refl _⟩
theorem left_loose {f : FileV} (h : 0 ≤ f.safe ∧ f.safe ≤ (f.text.size : Int)) (t : Int) : looseF (leftF f t) = 0 := by
  unfold looseF
  rw [left_size h t]
  show leftK f t - leftK f t = 0
  omega
theorem ext_all (s : ByteArray) : s.extract 0 s.size = s := by
  apply ByteArray.ext
  rw [ByteArray.data_extract]
  exact Array.extract_size
theorem left_left {f : FileV} (h : 0 ≤ f.safe ∧ f.safe ≤ (f.text.size : Int)) (t t' : Int) : leftF (leftF f t) t' = leftF f t := by
  have h1 : leftK (leftF f t) t' = leftK f t := by
    unfold leftK
    rw [left_loose h t]
    show leftK f t + t' % (0 + 1) = leftK f t
    rw [Int.zero_add, Int.emod_one, Int.add_zero]
  have hs := left_size h t
  have h3 : (leftK f t).toNat = (leftF f t).text.size := by omega
  have h2 : (leftF f t).text.extract 0 (leftK (leftF f t) t').toNat = (leftF f t).text := by
    rw [h1, h3]
    exact ext_all _
  show (⟨(leftF f t).name, (leftF f t).text.extract 0 (leftK (leftF f t) t').toNat, leftK (leftF f t) t'⟩ : FileV) = leftF f t
  rw [h2, h1]
  rfl
theorem powL_again (zs zs' : List Int) : ∀ (fs : List FileV) (i : Nat), SafeM fs → powL zs' i (powL zs i fs) = powL zs i fs
  | [], _, _ => rfl
  | f :: r, i, h => by
    show leftF (leftF f (tearAt zs i)) (tearAt zs' i) :: powL zs' (i + 1) (powL zs (i + 1) r) = leftF f (tearAt zs i) :: powL zs (i + 1) r
    rw [left_left (h f List.mem_cons_self), powL_again zs zs' r (i + 1) (fun g hg => h g (List.mem_cons_of_mem _ hg))]
theorem powL_vol (zs : List Int) : ∀ (fs : List FileV) (i : Nat), SafeM fs → volF (powL zs i fs) = 0
  | [], _, _ => rfl
  | f :: r, i, h => by
    show looseF (leftF f (tearAt zs i)) + volF (powL zs (i + 1) r) = 0
    rw [left_loose (h f List.mem_cons_self), powL_vol zs r (i + 1) (fun g hg => h g (List.mem_cons_of_mem _ hg))]
    rfl
theorem powL_used (zs : List Int) : ∀ (fs : List FileV) (i : Nat), SafeM fs → usedF (powL zs i fs) ≤ usedF fs ∧ (usedF fs : Int) - (usedF (powL zs i fs) : Int) ≤ volF fs
  | [], _, _ => by simp [powL, usedF, volF]
  | f :: r, i, h => by
    have ih := powL_used zs r (i + 1) (fun g hg => h g (List.mem_cons_of_mem _ hg))
    have h1 := h f List.mem_cons_self
    have h2 := left_size h1 (tearAt zs i)
    have h3 := leftK_bd h1 (tearAt zs i)
    show (leftF f (tearAt zs i)).text.size + usedF (powL zs (i + 1) r) ≤ f.text.size + usedF r ∧ ((f.text.size + usedF r : Nat) : Int) - (((leftF f (tearAt zs i)).text.size + usedF (powL zs (i + 1) r) : Nat) : Int) ≤ looseF f + volF r
    unfold looseF
    omega
theorem powL_names (zs : List Int) : ∀ (fs : List FileV) (i : Nat), (powL zs i fs).map (fun f => f.name.data.toList) = fs.map (fun f => f.name.data.toList)
  | [], _ => rfl
  | f :: r, i => by
    show (leftF f (tearAt zs i)).name.data.toList :: (powL zs (i + 1) r).map _ = _
    rw [powL_names zs r (i + 1)]
    rfl
theorem powL_good {fs : List FileV} {c : Int} (h : GoodF fs c) (zs : List Int) (hs : SafeM fs) : GoodF (powL zs 0 fs) c where
  len := by rw [powL_length]; exact h.len
  used := by
    have h1 := (powL_used zs fs 0 hs).1
    have h2 := h.used
    omega
  ris := by
    have h1 := h.ris
    rw [rising_map] at h1 ⊢
    rw [powL_names]
    exact h1
  ok := fun g hg => by
    obtain ⟨k, hk, rfl⟩ := List.mem_iff_getElem.1 hg
    have hkf : k < fs.length := by rw [powL_length] at hk; exact hk
    have e := powL_get zs fs 0 k hkf
    rw [List.getElem?_eq_getElem hk] at e
    injection e with e
    rw [e]
    have hm := List.getElem_mem hkf
    have h1 := okF_parts (h.ok _ hm)
    have h2 := left_ok (hs _ hm) (tearAt zs (0 + k))
    exact okF_mk h1.1 h2.1 h2.2
theorem pow_ok {fs : List FileV} {c u : Int} (h : diskOk fs c u = true) (zs : List Int) : diskOk (powL zs 0 fs) c (-1) = true :=
  (powL_good (goodF_of h) zs (safeM_of (safe_of h))).diskOk ⟨(len_of h).2.2.1, (len_of h).2.2.2.1⟩ ⟨by omega, by omega⟩
theorem szFs_powL (zs : List Int) : ∀ (fs : List FileV) (i : Nat), SafeM fs → szFs (powL zs i fs) ≤ szFs fs
  | [], _, _ => Nat.le_refl _
  | f :: r, i, h => by
    have ih := szFs_powL zs r (i + 1) (fun g hg => h g (List.mem_cons_of_mem _ hg))
    have h1 := h f List.mem_cons_self
    have h2 := left_size h1 (tearAt zs i)
    have h3 := leftK_bd h1 (tearAt zs i)
    show f.name.size + (leftF f (tearAt zs i)).text.size + szFs (powL zs (i + 1) r) ≤ f.name.size + f.text.size + szFs r
    omega
/-- Of each file: its name, what was kept, and a beginning. -/
theorem left_begins {f : FileV} (h : 0 ≤ f.safe ∧ f.safe ≤ (f.text.size : Int)) (t : Int) : (leftF f t).name = f.name ∧ f.safe ≤ ((leftF f t).text.size : Int) ∧ (leftF f t).text.size ≤ f.text.size ∧ f.text.extract 0 (leftF f t).text.size = (leftF f t).text := by
  have h2 := left_size h t
  have h3 := leftK_bd h t
  have h4 : (leftK f t).toNat = (leftF f t).text.size := by omega
  refine ⟨rfl, by omega, by omega, ?_⟩
  rw [← h4]
  rfl

end Go.Proofs.Ythfpcjamlbkgfaa
