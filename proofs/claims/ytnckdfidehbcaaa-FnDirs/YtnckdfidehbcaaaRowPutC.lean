/-
  Rows of structs: one element put into its place; a slice of structs that comes in.
-/
import Derived.Test.YtnckdfidehbcaaaEntBase
namespace Go.Proofs.Ytnckdfidehbcaaa
open Go.RowKit
open Plain

def setL (l : List Value) (p : Nat) : List Value → List Value
  | [] => l
  | v :: r => setL (l.set p v) (p + 1) r
def putL (w : World) (g p : Nat) : List Value → World
  | [] => w
  | v :: r => putL (w.setCell ⟨g, p, none⟩ v) g (p + 1) r
theorem setL_behind (vs : List Value) : ∀ (pre l : List Value) (p : Nat), setL (pre ++ l) (pre.length + p) vs = pre ++ setL l p vs := by
  induction vs with
  | nil => intro pre l p; rfl
  | cons v r ih =>
    intro pre l p
    rw [setL, setL, List.set_append_right _ _ (by omega), show pre.length + p - pre.length = p from by omega]
    exact ih pre (l.set p v) (p + 1)
theorem setL_head (vs : List Value) : ∀ (ys zs : List Value), ys.length = vs.length → setL (ys ++ zs) 0 vs = vs ++ zs := by
  induction vs with
  | nil => intro ys zs h; simp at h; subst h; rfl
  | cons v r ih =>
    intro ys zs h
    cases ys with
    | nil => simp at h
    | cons a ys =>
      rw [setL, List.cons_append, List.set_cons_zero]
      have e := setL_behind r [v] (ys ++ zs) 0
      rw [List.length_singleton, List.singleton_append, Nat.add_zero] at e
      rw [Nat.zero_add, e, ih ys zs (by simpa using h)]
      rfl
theorem Shape.flat_set {α : Type} (S : Shape α) (xs : List α) (x : α) : ∀ i, i < xs.length → setL (S.flat xs) (i * S.k) (S.cells x) = S.flat (xs.set i x) := by
  induction xs with
  | nil => intro i h; simp at h
  | cons a r ih =>
    intro i h
    cases i with
    | zero =>
      rw [Shape.flat, Nat.zero_mul, setL_head _ _ _ (by rw [S.len, S.len]), List.set_cons_zero, Shape.flat]
    | succ i =>
      have e := setL_behind (S.cells x) (S.cells a) (S.flat r) (i * S.k)
      rw [S.len] at e
      rw [Shape.flat, Nat.succ_mul, Nat.add_comm (i * S.k), e, ih i (by simpa using h), List.set_cons_succ, Shape.flat]
theorem gchain {a b c : World} {r : Option Nat} (h : a.grownBy b r) (k : b.grownBy c r) : a.grownBy c r :=
  ⟨k.os.trans h.os, k.tape.trans h.tape, k.output.trans h.output, Nat.le_trans h.size k.size, fun i hi hr => (k.block i (Nat.lt_of_lt_of_le hi h.size) hr).trans (h.block i hi hr)⟩
theorem putL_own {base T sz g n cap : Nat} (vs : List Value) : ∀ (w : World) (l : List Value) (p : Nat), w.ownsRow base T sz (.slice (some ⟨g, 0, none⟩) n cap) n l → (putL w g p vs).ownsRow base T sz (.slice (some ⟨g, 0, none⟩) n cap) n (setL l p vs) ∧ w.grownBy (putL w g p vs) (some g) := by
  induction vs with
  | nil => intro w l p h; exact ⟨h, ⟨rfl, rfl, rfl, Nat.le_refl _, fun _ _ _ => rfl⟩⟩
  | cons v r ih =>
    intro w l p h
    have h1 := h.stored p v
    have h2 := ih _ _ (p + 1) h1.1
    exact ⟨h2.1, gchain h1.2 h2.2⟩
theorem Shape.Own.put {α : Type} {S : Shape α} {T : TypeId} {w : World} {base g n cap : Nat} {xs : List α} (h : S.Own T w base (.slice (some ⟨g, 0, none⟩) n cap) xs) (i : Nat) (x : α) (hi : i < n) :
    S.Own T (putL w g (i * S.k) (S.cells x)) base (.slice (some ⟨g, 0, none⟩) n cap) (xs.set i x) ∧ w.grownBy (putL w g (i * S.k) (S.cells x)) (some g) := by
  have hn := h.len
  unfold Shape.Own at h ⊢
  rw [hn] at h
  have h1 := putL_own (S.cells x) w (S.flat xs) (i * S.k) h
  rw [List.length_set, hn, ← S.flat_set xs x i (by omega)]
  exact h1
theorem Shape.Own.frz {α : Type} {S : Shape α} {T : TypeId} {w : World} {base g n cap : Nat} {xs : List α} (h : S.Own T w base (.slice (some ⟨g, 0, none⟩) n cap) xs) (j : Nat) : w.frozen? ⟨g, j, none⟩ = false := by
  have hn := h.len
  unfold Shape.Own at h
  rw [hn] at h
  exact h.frozenAt j
/-- A row of n zeros, flat. -/
theorem Shape.flat_made {α : Type} (S : Shape α) (x : α) (n : Nat) : S.flat (List.replicate n x) = (madeCells (S.cells x).toArray (n * S.k)).toList := by
  have hk := S.pos
  apply List.ext_getElem?
  intro j
  by_cases hj : j < n * S.k
  · have hi : j / S.k < (List.replicate n x).length := by rw [List.length_replicate]; exact (Nat.div_lt_iff_lt_mul hk).2 hj
    have hm : j % S.k < S.k := Nat.mod_lt _ hk
    have hg := S.flat_get (List.replicate n x) (j / S.k) hi (j % S.k) hm
    have hd : j / S.k * S.k + j % S.k = j := by rw [Nat.mul_comm]; exact Nat.div_add_mod j S.k
    rw [hd, List.getElem_replicate] at hg
    rw [hg]
    have hl : j % S.k < (S.cells x).length := by rw [S.len]; exact hm
    simp [madeCells, hj, S.len, List.getElem?_eq_getElem hl]
  · rw [List.getElem?_eq_none (by rw [S.flat_length, List.length_replicate]; omega), List.getElem?_eq_none (by simp [madeCells]; omega)]
theorem take_set_succ' {α : Type} (gs fs : List α) (k : Nat) (hk : k < fs.length) (hg : k < gs.length) (h : gs.take k = fs.take k) : (gs.set k (fs[k])).take (k + 1) = fs.take (k + 1) := by
  rw [List.take_succ_eq_append_getElem (by rw [List.length_set]; exact hg), List.take_succ_eq_append_getElem hk, List.take_set_of_le (Nat.le_refl _), h]
  simp

end Go.Proofs.Ytnckdfidehbcaaa
