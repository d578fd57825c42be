/-
  Lists of files: one put in the place of another, one gone, and their order.
-/
import Derived.Test.YthfpcjamlbkgfaaStepBase
namespace Go.Proofs.Ythfpcjamlbkgfaa
open Go.RowKit Go.Maps
open Plain

theorem rising_map (fs : List FileV) : Rising fs ↔ (fs.map (fun f => f.name.data.toList)).Pairwise (· < ·) := by
  unfold Rising
  rw [List.pairwise_map]
theorem rising_set {fs : List FileV} (h : Rising fs) (k : Nat) (hk : k < fs.length) (g : FileV) (hg : g.name = (fs[k]).name) : Rising (fs.set k g) := by
  rw [rising_map] at h ⊢
  have e : (fs.set k g).map (fun f => f.name.data.toList) = fs.map (fun f => f.name.data.toList) := by
    rw [List.map_set]
    apply set_get_self
    rw [List.getElem?_map, List.getElem?_eq_getElem hk, hg]
    rfl
  rw [e]
  exact h
theorem rising_sub {fs gs : List FileV} (h : Rising fs) (hs : gs.Sublist fs) : Rising gs := List.Pairwise.sublist hs h
theorem others_erase {fs : List FileV} (h : fs.Pairwise (fun f g => f.name ≠ g.name)) : ∀ k, (hk : k < fs.length) → others fs (fs[k]).name = fs.eraseIdx k := by
  induction fs with
  | nil => intro k hk; simp at hk
  | cons a r ih =>
    intro k hk
    obtain ⟨h1, h2⟩ := List.pairwise_cons.1 h
    cases k with
    | zero =>
      have e := others_none (S := r) (x := a.name) (fun g hg e => h1 g hg e.symm)
      unfold others at e ⊢
      rw [List.getElem_cons_zero, List.filter_cons_of_neg (by simp), e, List.eraseIdx_zero]
      rfl
    | succ k =>
      have hk' : k < r.length := by simpa using hk
      have e := ih h2 k hk'
      have hne : a.name ≠ (r[k]).name := h1 _ (List.getElem_mem hk')
      unfold others at e ⊢
      rw [List.getElem_cons_succ, List.filter_cons_of_pos (by simpa using hne), e, List.eraseIdx_cons_succ]
theorem set_perm (fs : List FileV) (g : FileV) : ∀ k, k < fs.length → (fs.set k g).Perm (g :: fs.eraseIdx k) := by
  induction fs with
  | nil => intro k hk; simp at hk
  | cons a r ih =>
    intro k hk
    cases k with
    | zero => simp
    | succ k =>
      rw [List.set_cons_succ, List.eraseIdx_cons_succ]
      exact ((ih k (by simpa using hk)).cons a).trans (List.Perm.swap _ _ _)
theorem set_perm_others {fs : List FileV} (h : fs.Pairwise (fun f g => f.name ≠ g.name)) (k : Nat) (hk : k < fs.length) (g : FileV) : (fs.set k g).Perm (g :: others fs (fs[k]).name) := by
  rw [others_erase h k hk]
  exact set_perm fs g k hk
end Go.Proofs.Ythfpcjamlbkgfaa
