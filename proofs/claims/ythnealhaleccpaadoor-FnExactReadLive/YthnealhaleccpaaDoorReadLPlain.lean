/-
  Reading a list of segments, number by number, with no Go in sight.
-/
import Derived.Test.YthnealhaleccpaaDoorLivePlain
import Derived.Test.YthnealhaleccpaaDoorRecPlain
namespace Go.Proofs.YthnealhaleccpaaDoor
open Go.RowKit
open Plain

/-- What is left behind m numbers, and whether one was missing. -/
def restF : Nat → ByteArray → ByteArray
  | 0, t => t
  | m + 1, t => restF m (numT t)
def failF : Nat → ByteArray → Bool
  | 0, _ => false
  | m + 1, t => decide ((rv t).2 = 0) || failF m (numT t)
theorem idsF_length (m : Nat) : ∀ t, (idsF m t).length = m := by
  induction m with
  | zero => intro t; rfl
  | succ m ih => intro t; rw [idsF, List.length_cons, ih]
theorem idsF_snoc (m : Nat) : ∀ t, idsF (m + 1) t = idsF m t ++ [((rv (restF m t)).1 : Int)] := by
  induction m with
  | zero => intro t; rfl
  | succ m ih =>
    intro t
    rw [idsF, ih]
    rfl
theorem restF_snoc (m : Nat) : ∀ t, restF (m + 1) t = numT (restF m t) := by
  induction m with
  | zero => intro t; rfl
  | succ m ih =>
    intro t
    rw [restF, ih]
    rfl
theorem failF_snoc (m : Nat) : ∀ t, failF (m + 1) t = (failF m t || decide ((rv (restF m t)).2 = 0)) := by
  induction m with
  | zero => intro t; show (decide ((rv t).2 = 0) || false) = (false || decide ((rv t).2 = 0)); rw [Bool.or_false, Bool.false_or]
  | succ m ih =>
    intro t
    rw [failF, ih, failF, Bool.or_assoc]
    rfl
theorem take_back (m : Nat) : ∀ t, failF m t = false → catV (idsF m t) ++ restF m t = t := by
  induction m with
  | zero => intro t _; exact ByteArray.empty_append
  | succ m ih =>
    intro t h
    rw [failF, Bool.or_eq_false_iff] at h
    have h1 := of_decide_eq_false h.1
    rw [idsF, catV, restF, ByteArray.append_assoc]
    have e := ih (numT t) h.2
    rw [show t.extract (rv t).2 t.size = numT t from rfl, e, numT_whole t h1]
theorem take_forth (l : List Int) (T : ByteArray) (h : ∀ x ∈ l, 0 ≤ x ∧ x ≤ 562949953421311) : restF l.length (catV l ++ T) = T ∧ failF l.length (catV l ++ T) = false := by
  induction l with
  | nil => exact ⟨ByteArray.empty_append, rfl⟩
  | cons x r ih =>
    have hx := h x (List.mem_cons_self ..)
    obtain ⟨n, rfl⟩ := Int.eq_ofNat_of_zero_le hx.1
    have e : numT (catV ((n : Int) :: r) ++ T) = catV r ++ T := by rw [catV, ByteArray.append_assoc]; exact numT_var n (by omega) _
    have e2 : (rv (catV ((n : Int) :: r) ++ T)).2 ≠ 0 := by
      rw [catV, ByteArray.append_assoc, rv_var n (by omega)]
      have := varS_pos n (by omega)
      simp only
      omega
    rw [List.length_cons, restF, failF, e]
    have h3 := ih (fun y hy => h y (List.mem_cons_of_mem _ hy))
    exact ⟨h3.1, by rw [h3.2, decide_eq_false e2]; rfl⟩
theorem restF_size (m : Nat) : ∀ t, (restF m t).size ≤ t.size := by
  induction m with
  | zero => intro t; exact Nat.le_refl _
  | succ m ih =>
    intro t
    have := ih (numT t)
    have h2 := numT_size t
    rw [restF]
    omega
/-- The numbers of a list's text, as impl takes them: next, how many, and these. -/
def cntF (t : ByteArray) : Nat := (rv (numT t)).1
def tailF (t : ByteArray) : ByteArray := numT (numT t)
theorem liveOf_min (t : ByteArray) : liveOf t = ⟨((rv t).1 : Int), idsF (min (cntF t) 60) (tailF t)⟩ := rfl
def failT (t : ByteArray) : Bool := (false || decide ((rv t).2 = 0)) || decide ((rv (numT t)).2 = 0)
theorem body_forth {v : LiveV} (h : liveB v = true) : failT (bodyL v) = false ∧ cntF (bodyL v) = v.ids.length ∧ (rv (bodyL v)).1 = v.next.toNat ∧ tailF (bodyL v) = catV v.ids := by
  obtain ⟨h1, h2, h3⟩ := live_bd h
  obtain ⟨next, ids⟩ := v
  simp only at h1 h2 h3
  obtain ⟨n, rfl⟩ := Int.eq_ofNat_of_zero_le (show 0 ≤ next by omega)
  have e1 := rv_var n (by omega) (varS (ids.length : Int) ++ catV ids)
  have e2 := numT_var n (by omega) (varS (ids.length : Int) ++ catV ids)
  have e3 := rv_var ids.length (by omega) (catV ids)
  have e4 := numT_var ids.length (by omega) (catV ids)
  have p1 := varS_pos n (by omega)
  have p2 := varS_pos ids.length (by omega)
  unfold failT cntF tailF bodyL
  simp only
  rw [e1, e2, e3, e4]
  simp only
  refine ⟨?_, by trivial, by simp, by trivial⟩
  rw [decide_eq_false (by omega), decide_eq_false (by omega)]
  rfl
theorem RL_yes {s t : ByteArray} (hu : uf s = (t, s.size)) (hs : s.size ≠ 0) (hf : failT t = false) (h2 : failF (cntF t) (tailF t) = false) (hr : (restF (cntF t) (tailF t)).size = 0) (hl : liveB ⟨((rv t).1 : Int), idsF (cntF t) (tailF t)⟩ = true) :
    rl s = (⟨((rv t).1 : Int), idsF (cntF t) (tailF t)⟩, true) := by
  refine rl_of (Or.inl ⟨rfl, hl, ?_⟩)
  rw [showL_in hl]
  have hb : bodyL ⟨((rv t).1 : Int), idsF (cntF t) (tailF t)⟩ = t := by
    unfold bodyL
    simp only
    unfold failT at hf
    rw [Bool.or_eq_false_iff, Bool.or_eq_false_iff] at hf
    have f1 := of_decide_eq_false hf.1.2
    have f2 := of_decide_eq_false hf.2
    have e := take_back _ _ h2
    rw [empty_of hr, show catV (idsF (cntF t) (tailF t)) ++ (⟨#[]⟩ : ByteArray) = _ from ByteArray.append_empty] at e
    rw [idsF_length, e]
    unfold cntF tailF
    rw [numT_whole _ f2, numT_whole _ f1]
  rw [hb]
  rcases uf_UF s with ⟨a1, a2, T, a3⟩ | ⟨a1, _, _⟩
  · rw [hu] at a1 a2 a3
    simp only at a1 a2 a3
    have hz : T.size = 0 := by
      have := congrArg ByteArray.size a3
      rw [ByteArray.size_append] at this
      omega
    rw [empty_of hz] at a3
    exact (a3.trans ByteArray.append_empty).symm
  · rw [hu] at a1
    exact absurd a1 hs
theorem RL_no {s : ByteArray} (h : ∀ u, liveB u = true → showL u = s → False) : rl s = (zeroL, false) := rl_of (Or.inr ⟨rfl, rfl, fun u hu e => h u hu e⟩)
/-- What a text that is shown gives. -/
theorem RL_shown {s : ByteArray} {u : LiveV} (hu : liveB u = true) (e : showL u = s) : s.size ≠ 0 ∧ (uf s).2 = s.size ∧ failT (uf s).1 = false ∧ cntF (uf s).1 ≤ 60 ∧ failF (cntF (uf s).1) (tailF (uf s).1) = false ∧ (restF (cntF (uf s).1) (tailF (uf s).1)).size = 0 ∧ (⟨((rv (uf s).1).1 : Int), idsF (cntF (uf s).1) (tailF (uf s).1)⟩ : LiveV) = u := by
  subst e
  have hp := showL_pos hu
  obtain ⟨b1, b2, b3, b4⟩ := body_forth hu
  obtain ⟨h1, h2, h3⟩ := live_bd hu
  have hk := take_forth u.ids ⟨#[]⟩ (fun x hx => by have := h3 x hx; omega)
  have hi := idsF_cat u.ids ⟨#[]⟩ (fun x hx => by have := h3 x hx; omega)
  rw [catV_empty] at hk hi
  rw [uf_showL hu]
  simp only
  rw [b2, b4, hk.1, hk.2, hi, b3]
  refine ⟨by omega, trivial, b1, h2.2, rfl, rfl, ?_⟩
  obtain ⟨next, ids⟩ := u
  simp only at h1 ⊢
  rw [Int.toNat_of_nonneg (by omega)]

end Go.Proofs.YthnealhaleccpaaDoor
