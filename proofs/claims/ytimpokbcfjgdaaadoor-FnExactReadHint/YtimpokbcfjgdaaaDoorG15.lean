/-
  Lists of segments with no Go in sight: which are right. Lists of segments with no Go in sight: which are right, what ShowLive makes of one, what is read back. Reading a list of segments, number by number, with no Go in sight. What spec.l5Text takes from the front of a text. A slice of ints, and how it lies in the world; the laws' toIntS and eqIntS. append at a row of ints of the call's own, however long. spec.l10Vars: some numbers off a text, one behind the other.
-/
import Derived.Test.YtimpokbcfjgdaaaDoorG00
import Derived.Test.YtimpokbcfjgdaaaDoorG04
import Derived.Test.YtimpokbcfjgdaaaDoorG08
import Derived.BigQuiet
import Derived.Deep.QuietTactic
import Derived.Test.YtimpokbcfjgdaaaDoorG02
import Derived.Laws.CopyOwn
import Derived.Maps.AppendAt
import Derived.Test.YtimpokbcfjgdaaaDoorG06
namespace Go.Proofs.YtimpokbcfjgdaaaDoor
open Go.RowKit
open Plain

structure LiveV where
  next : Int
  ids : List Int
/-- Numbers that rise from above prev on, up to next - 1. -/
def okFrom (next : Int) : Int → List Int → Bool
  | _, [] => true
  | prev, x :: r => decide (prev < x ∧ x ≤ next - 1) && okFrom next x r
def liveB (v : LiveV) : Bool := decide (1 ≤ v.next ∧ v.next ≤ 100000 ∧ 1 ≤ v.ids.length ∧ v.ids.length ≤ 60) && okFrom v.next 0 v.ids
theorem okFrom_bd (next : Int) (l : List Int) : ∀ prev, 0 ≤ prev → okFrom next prev l = true → ∀ x ∈ l, 0 < x ∧ x ≤ next - 1 := by
  induction l with
  | nil => intro prev _ _ x hx; cases hx
  | cons y r ih =>
    intro prev hp h x hx
    rw [okFrom, Bool.and_eq_true, decide_eq_true_iff] at h
    rcases List.mem_cons.1 hx with rfl | hx
    · omega
    · exact ih y (by omega) h.2 x hx
theorem live_bd {v : LiveV} (h : liveB v = true) : (1 ≤ v.next ∧ v.next ≤ 100000) ∧ (1 ≤ v.ids.length ∧ v.ids.length ≤ 60) ∧ ∀ x ∈ v.ids, 0 < x ∧ x ≤ 99999 := by
  unfold liveB at h
  rw [Bool.and_eq_true, decide_eq_true_iff] at h
  refine ⟨⟨h.1.1, h.1.2.1⟩, ⟨h.1.2.2.1, h.1.2.2.2⟩, fun x hx => ?_⟩
  have := okFrom_bd _ _ 0 (by omega) h.2 x hx
  omega

end Go.Proofs.YtimpokbcfjgdaaaDoor
namespace Go.Proofs.YtimpokbcfjgdaaaDoor
open Go.RowKit
open Plain

def catV : List Int → ByteArray
  | [] => ⟨#[]⟩
  | x :: r => varS x ++ catV r
def bodyL (v : LiveV) : ByteArray := varS v.next ++ (varS (v.ids.length : Int) ++ catV v.ids)
def showL (v : LiveV) : ByteArray := if liveB v then frameS (bodyL v) else ⟨#[]⟩

/-- The numbers that stand in a text, n of them. -/
def idsF : Nat → ByteArray → List Int
  | 0, _ => []
  | n + 1, t => ((rv t).1 : Int) :: idsF n (t.extract (rv t).2 t.size)
theorem idsF_cat (l : List Int) (T : ByteArray) (h : ∀ x ∈ l, 0 ≤ x ∧ x ≤ 562949953421311) : idsF l.length (catV l ++ T) = l := by
  induction l with
  | nil => rfl
  | cons x r ih =>
    have hx := h x (List.mem_cons_self ..)
    obtain ⟨n, rfl⟩ := Int.eq_ofNat_of_zero_le hx.1
    rw [List.length_cons, idsF, catV, ByteArray.append_assoc, rv_var n (by omega)]
    simp only
    rw [ba_drop, ih (fun y hy => h y (List.mem_cons_of_mem _ hy))]
theorem catV_empty (l : List Int) : catV l ++ (⟨#[]⟩ : ByteArray) = catV l := ByteArray.append_empty

/-- What ReadLive tells, off the text of the frame. -/
def liveOf (t : ByteArray) : LiveV :=
  ⟨((rv t).1 : Int), idsF (min (rv (t.extract (rv t).2 t.size)).1 60) ((t.extract (rv t).2 t.size).extract (rv (t.extract (rv t).2 t.size)).2 (t.extract (rv t).2 t.size).size)⟩
theorem liveOf_body {v : LiveV} (h : liveB v = true) : liveOf (bodyL v) = v := by
  obtain ⟨h1, h2, h3⟩ := live_bd h
  obtain ⟨next, ids⟩ := v
  simp only at h1 h2 h3
  obtain ⟨n, rfl⟩ := Int.eq_ofNat_of_zero_le (show 0 ≤ next by omega)
  unfold liveOf bodyL
  simp only
  rw [rv_var n (by omega)]
  simp only
  rw [ba_drop, rv_var ids.length (by omega)]
  simp only
  rw [ba_drop, Nat.min_eq_left h2.2, ← catV_empty, idsF_cat ids _ (fun x hx => by have := h3 x hx; omega)]

theorem varS_size3 (x : Int) (h0 : 0 ≤ x) (h1 : x ≤ 100000) : (varS x).size ≤ 3 := by
  obtain ⟨n, rfl⟩ := Int.eq_ofNat_of_zero_le h0
  rw [varS_size_in n (by omega)]
  exact vb_len 2 n (by omega)
theorem catV_size (l : List Int) (h : ∀ x ∈ l, 0 < x ∧ x ≤ 99999) : (catV l).size ≤ 3 * l.length := by
  induction l with
  | nil => exact Nat.zero_le _
  | cons x r ih =>
    have h1 := h x (List.mem_cons_self ..)
    have h2 := varS_size3 x (by omega) (by omega)
    have h3 := ih (fun y hy => h y (List.mem_cons_of_mem _ hy))
    rw [catV, ByteArray.size_append, List.length_cons]
    omega
theorem bodyL_size {v : LiveV} (h : liveB v = true) : (bodyL v).size ≤ 186 := by
  obtain ⟨h1, h2, h3⟩ := live_bd h
  have a1 := varS_size3 v.next (by omega) (by omega)
  have a2 := varS_size3 (v.ids.length : Int) (by omega) (by omega)
  have a3 := catV_size v.ids h3
  unfold bodyL
  rw [ByteArray.size_append, ByteArray.size_append]
  omega
theorem showL_in {v : LiveV} (h : liveB v = true) : showL v = frameS (bodyL v) := if_pos h
theorem showL_out {v : LiveV} (h : liveB v = false) : showL v = ⟨#[]⟩ := if_neg (by rw [h]; simp)
theorem showL_pos {v : LiveV} (h : liveB v = true) : 0 < (showL v).size := by
  have := bodyL_size h
  rw [showL_in h, frameS_in _ (by omega), ByteArray.size_append, sumS_size]
  omega
theorem showL_size (v : LiveV) : (showL v).size ≤ 211 := by
  unfold showL
  split
  · exact frameS_size _
  · exact Nat.zero_le _
theorem uf_showL {v : LiveV} (h : liveB v = true) : uf (showL v) = (bodyL v, (showL v).size) := by
  have := bodyL_size h
  have e := uf_frame (bodyL v) ⟨#[]⟩ (by omega)
  rw [show frameS (bodyL v) ++ (⟨#[]⟩ : ByteArray) = frameS (bodyL v) from ByteArray.append_empty] at e
  rw [showL_in h, e]
theorem showL_inj {u v : LiveV} (h : liveB u = true) (k : liveB v = true) (e : showL u = showL v) : u = v := by
  have e1 := uf_showL h
  rw [e, uf_showL k] at e1
  injection e1 with e1 _
  rw [← liveOf_body h, ← liveOf_body k, e1]

def zeroL : LiveV := ⟨0, []⟩
/-- ReadLive as a function. -/
def rl (s : ByteArray) : LiveV × Bool := if s.size ≠ 0 ∧ showL (liveOf (uf s).1) = s then (liveOf (uf s).1, true) else (zeroL, false)
/-- The same in words. -/
def RL (s : ByteArray) (v : LiveV) (ok : Bool) : Prop := (ok = true ∧ liveB v = true ∧ showL v = s) ∨ (ok = false ∧ v = zeroL ∧ ∀ u, liveB u = true → showL u ≠ s)
theorem rl_RL (s : ByteArray) : RL s (rl s).1 (rl s).2 := by
  unfold rl
  split
  · rename_i h
    refine Or.inl ⟨rfl, ?_, h.2⟩
    cases hb : liveB (liveOf (uf s).1) with
    | true => rfl
    | false =>
      exfalso
      have e := h.2
      rw [showL_out hb] at e
      exact h.1 (by rw [← e]; rfl)
  · rename_i h
    refine Or.inr ⟨rfl, rfl, fun u hu e => h ?_⟩
    subst e
    have hp := showL_pos hu
    refine ⟨by omega, ?_⟩
    rw [uf_showL hu, liveOf_body hu]
theorem RL_one {s : ByteArray} {u v : LiveV} {a b : Bool} (h : RL s u a) (k : RL s v b) : u = v ∧ a = b := by
  rcases h with ⟨rfl, h1, h2⟩ | ⟨rfl, rfl, h2⟩
  · rcases k with ⟨rfl, k1, k2⟩ | ⟨rfl, _, k2⟩
    · exact ⟨showL_inj h1 k1 (h2.trans k2.symm), rfl⟩
    · exact absurd h2 (k2 u h1)
  · rcases k with ⟨rfl, k1, k2⟩ | ⟨rfl, rfl, _⟩
    · exact absurd k2 (h2 v k1)
    · exact ⟨rfl, rfl⟩
theorem rl_of {s : ByteArray} {v : LiveV} {ok : Bool} (h : RL s v ok) : rl s = (v, ok) := by
  obtain ⟨h1, h2⟩ := RL_one (rl_RL s) h
  rw [← h1, ← h2]
theorem rl_show {v : LiveV} (h : liveB v = true) : rl (showL v) = (v, true) := rl_of (Or.inl ⟨rfl, h, rfl⟩)

end Go.Proofs.YtimpokbcfjgdaaaDoor
namespace Go.Proofs.YtimpokbcfjgdaaaDoor
open Go.RowKit
open Plain

/-- What is left behind m numbers, and whether one was missing. -/
def restF : Nat → ByteArray → ByteArray
  | 0, t => t
  | m + 1, t => restF m (numT t)
def failF : Nat → ByteArray → Bool
  | 0, _ => false
  | m + 1, t => decide ((rv t).2 = 0) || failF m (numT t)
theorem idsF_length (m : Nat) : ∀ t, (idsF m t).length = m := by
  induction m with
  | zero => intro t; rfl
  | succ m ih => intro t; rw [idsF, List.length_cons, ih]
theorem idsF_snoc (m : Nat) : ∀ t, idsF (m + 1) t = idsF m t ++ [((rv (restF m t)).1 : Int)] := by
  induction m with
  | zero => intro t; rfl
  | succ m ih =>
    intro t
    rw [idsF, ih]
    rfl
theorem restF_snoc (m : Nat) : ∀ t, restF (m + 1) t = numT (restF m t) := by
  induction m with
  | zero => intro t; rfl
  | succ m ih =>
    intro t
    rw [restF, ih]
    rfl
theorem failF_snoc (m : Nat) : ∀ t, failF (m + 1) t = (failF m t || decide ((rv (restF m t)).2 = 0)) := by
  induction m with
  | zero => intro t; show (decide ((rv t).2 = 0) || false) = (false || decide ((rv t).2 = 0)); rw [Bool.or_false, Bool.false_or]
  | succ m ih =>
    intro t
    rw [failF, ih, failF, Bool.or_assoc]
    rfl
theorem take_back (m : Nat) : ∀ t, failF m t = false → catV (idsF m t) ++ restF m t = t := by
  induction m with
  | zero => intro t _; exact ByteArray.empty_append
  | succ m ih =>
    intro t h
    rw [failF, Bool.or_eq_false_iff] at h
    have h1 := of_decide_eq_false h.1
    rw [idsF, catV, restF, ByteArray.append_assoc]
    have e := ih (numT t) h.2
    rw [show t.extract (rv t).2 t.size = numT t from rfl, e, numT_whole t h1]
theorem take_forth (l : List Int) (T : ByteArray) (h : ∀ x ∈ l, 0 ≤ x ∧ x ≤ 562949953421311) : restF l.length (catV l ++ T) = T ∧ failF l.length (catV l ++ T) = false := by
  induction l with
  | nil => exact ⟨ByteArray.empty_append, rfl⟩
  | cons x r ih =>
    have hx := h x (List.mem_cons_self ..)
    obtain ⟨n, rfl⟩ := Int.eq_ofNat_of_zero_le hx.1
    have e : numT (catV ((n : Int) :: r) ++ T) = catV r ++ T := by rw [catV, ByteArray.append_assoc]; exact numT_var n (by omega) _
    have e2 : (rv (catV ((n : Int) :: r) ++ T)).2 ≠ 0 := by
      rw [catV, ByteArray.append_assoc, rv_var n (by omega)]
      have := varS_pos n (by omega)
      simp only
      omega
    rw [List.length_cons, restF, failF, e]
    have h3 := ih (fun y hy => h y (List.mem_cons_of_mem _ hy))
    exact ⟨h3.1, by rw [h3.2, decide_eq_false e2]; rfl⟩
theorem restF_size (m : Nat) : ∀ t, (restF m t).size ≤ t.size := by
  induction m with
  | zero => intro t; exact Nat.le_refl _
  | succ m ih =>
    intro t
    have := ih (numT t)
    have h2 := numT_size t
    rw [restF]
    omega
/-- The numbers of a list's text, as impl takes them: next, how many, and these. -/
def cntF (t : ByteArray) : Nat := (rv (numT t)).1
def tailF (t : ByteArray) : ByteArray := numT (numT t)
theorem liveOf_min (t : ByteArray) : liveOf t = ⟨((rv t).1 : Int), idsF (min (cntF t) 60) (tailF t)⟩ := rfl
def failT (t : ByteArray) : Bool := (false || decide ((rv t).2 = 0)) || decide ((rv (numT t)).2 = 0)
theorem body_forth {v : LiveV} (h : liveB v = true) : failT (bodyL v) = false ∧ cntF (bodyL v) = v.ids.length ∧ (rv (bodyL v)).1 = v.next.toNat ∧ tailF (bodyL v) = catV v.ids := by
  obtain ⟨h1, h2, h3⟩ := live_bd h
  obtain ⟨next, ids⟩ := v
  simp only at h1 h2 h3
  obtain ⟨n, rfl⟩ := Int.eq_ofNat_of_zero_le (show 0 ≤ next by omega)
  have e1 := rv_var n (by omega) (varS (ids.length : Int) ++ catV ids)
  have e2 := numT_var n (by omega) (varS (ids.length : Int) ++ catV ids)
  have e3 := rv_var ids.length (by omega) (catV ids)
  have e4 := numT_var ids.length (by omega) (catV ids)
  have p1 := varS_pos n (by omega)
  have p2 := varS_pos ids.length (by omega)
  unfold failT cntF tailF bodyL
  simp only
  rw [e1, e2, e3, e4]
  simp only
  refine ⟨?_, by trivial, by simp, by trivial⟩
  rw [decide_eq_false (by omega), decide_eq_false (by omega)]
  rfl
theorem RL_yes {s t : ByteArray} (hu : uf s = (t, s.size)) (hs : s.size ≠ 0) (hf : failT t = false) (h2 : failF (cntF t) (tailF t) = false) (hr : (restF (cntF t) (tailF t)).size = 0) (hl : liveB ⟨((rv t).1 : Int), idsF (cntF t) (tailF t)⟩ = true) :
    rl s = (⟨((rv t).1 : Int), idsF (cntF t) (tailF t)⟩, true) := by
  refine rl_of (Or.inl ⟨rfl, hl, ?_⟩)
  rw [showL_in hl]
  have hb : bodyL ⟨((rv t).1 : Int), idsF (cntF t) (tailF t)⟩ = t := by
    unfold bodyL
    simp only
    unfold failT at hf
    rw [Bool.or_eq_false_iff, Bool.or_eq_false_iff] at hf
    have f1 := of_decide_eq_false hf.1.2
    have f2 := of_decide_eq_false hf.2
    have e := take_back _ _ h2
    rw [empty_of hr, show catV (idsF (cntF t) (tailF t)) ++ (⟨#[]⟩ : ByteArray) = _ from ByteArray.append_empty] at e
    rw [idsF_length, e]
    unfold cntF tailF
    rw [numT_whole _ f2, numT_whole _ f1]
  rw [hb]
  rcases uf_UF s with ⟨a1, a2, T, a3⟩ | ⟨a1, _, _⟩
  · rw [hu] at a1 a2 a3
    simp only at a1 a2 a3
    have hz : T.size = 0 := by
      have := congrArg ByteArray.size a3
      rw [ByteArray.size_append] at this
      omega
    rw [empty_of hz] at a3
    exact (a3.trans ByteArray.append_empty).symm
  · rw [hu] at a1
    exact absurd a1 hs
theorem RL_no {s : ByteArray} (h : ∀ u, liveB u = true → showL u = s → False) : rl s = (zeroL, false) := rl_of (Or.inr ⟨rfl, rfl, fun u hu e => h u hu e⟩)
/-- What a text that is shown gives. -/
theorem RL_shown {s : ByteArray} {u : LiveV} (hu : liveB u = true) (e : showL u = s) : s.size ≠ 0 ∧ (uf s).2 = s.size ∧ failT (uf s).1 = false ∧ cntF (uf s).1 ≤ 60 ∧ failF (cntF (uf s).1) (tailF (uf s).1) = false ∧ (restF (cntF (uf s).1) (tailF (uf s).1)).size = 0 ∧ (⟨((rv (uf s).1).1 : Int), idsF (cntF (uf s).1) (tailF (uf s).1)⟩ : LiveV) = u := by
  subst e
  have hp := showL_pos hu
  obtain ⟨b1, b2, b3, b4⟩ := body_forth hu
  obtain ⟨h1, h2, h3⟩ := live_bd hu
  have hk := take_forth u.ids ⟨#[]⟩ (fun x hx => by have := h3 x hx; omega)
  have hi := idsF_cat u.ids ⟨#[]⟩ (fun x hx => by have := h3 x hx; omega)
  rw [catV_empty] at hk hi
  rw [uf_showL hu]
  simp only
  rw [b2, b4, hk.1, hk.2, hi, b3]
  refine ⟨by omega, trivial, b1, h2.2, rfl, rfl, ?_⟩
  obtain ⟨next, ids⟩ := u
  simp only at h1 ⊢
  rw [Int.toNat_of_nonneg (by omega)]

end Go.Proofs.YtimpokbcfjgdaaaDoor
namespace Go.Proofs.YtimpokbcfjgdaaaDoor
open Go.RowKit
open Plain

def t5V (s : ByteArray) : ByteArray := if txtF s = true then ⟨#[]⟩ else s.extract (rv s).2 ((rv s).2 + (rv s).1)
def t5R (s : ByteArray) : ByteArray := if txtF s = true then ⟨#[]⟩ else s.extract ((rv s).2 + (rv s).1) s.size
theorem t5_txt (s : ByteArray) (h : txtF s = false) : t5V s = txtV s ∧ t5R s = txtR s := by
  have h' := of_decide_eq_false h
  have h2 : ¬ (numT s).size < (rv s).1 := fun e => h' (Or.inr e)
  have e1 : t5V s = s.extract (rv s).2 ((rv s).2 + (rv s).1) := by unfold t5V; rw [if_neg (by rw [h]; simp)]
  have e2 : t5R s = s.extract ((rv s).2 + (rv s).1) s.size := by unfold t5R; rw [if_neg (by rw [h]; simp)]
  rw [e1, e2]
  unfold txtV txtR
  rw [if_neg h2, if_neg h2]
  unfold numT
  rw [cut_take, cut_cut s _ _ (rv_bd s).2.2]
  exact ⟨rfl, rfl⟩
theorem t5R_size (s : ByteArray) : (t5R s).size ≤ s.size := by
  unfold t5R
  split
  · exact Nat.zero_le _
  · rw [← bl_length, bl_extract, List.length_drop, List.length_take, bl_length]; omega
theorem t5V_size (s : ByteArray) : (t5V s).size ≤ s.size := by
  unfold t5V
  split
  · exact Nat.zero_le _
  · rw [← bl_length, bl_extract, List.length_drop, List.length_take, bl_length]; omega

set_option maxRecDepth 100000 in
set_option maxHeartbeats 1000000 in
theorem l5Text_any (s : ByteArray) (hs : s.size ≤ 1048576) : Ans 29 #[.string s] (.tuple #[.string (t5V s), .string (t5R s), .bool (!txtF s)]) := by
  intro w
  have HR := hide (specRV_any s hs)
  have hbd := rv_bd s
  have hz := numT_size s
  by_cases h0 : (rv s).2 = 0
  · have HF : Hid (txtF s = true ∧ t5V s = ⟨#[]⟩ ∧ t5R s = ⟨#[]⟩) := hide (by
      have e : txtF s = true := decide_eq_true (Or.inl h0)
      exact ⟨e, by unfold t5V; rw [if_pos e], by unfold t5R; rw [if_pos e]⟩)
    have t0 : (((rv s).2 : Int) == 0) = true := by simp; omega
    clear h0 hz hbd
    generalize (rv s).1 = n at *
    generalize (rv s).2 = k at *
    go_enter Tryd.func29, Tryd.ntmps29
    go_wp2_with (go_at_call 43; refine (HR.out _).mono ?_; rintro e w1 ⟨rfl, hb1⟩)
    obtain ⟨e1, e2, e3⟩ := HF.out
    rw [e1, e2, e3]
    refine bodyPost_ret (v := .tuple #[.string ⟨#[]⟩, .string ⟨#[]⟩, .bool false]) (by simp [results, Tryd.results29, go_sem]) rfl ⟨rfl, hb1⟩
  · have t0 : (((rv s).2 : Int) == 0) = false := by simp; omega
    by_cases h1 : (numT s).size < (rv s).1
    · have HF : Hid (txtF s = true ∧ t5V s = ⟨#[]⟩ ∧ t5R s = ⟨#[]⟩) := hide (by
        have e : txtF s = true := decide_eq_true (Or.inr h1)
        exact ⟨e, by unfold t5V; rw [if_pos e], by unfold t5R; rw [if_pos e]⟩)
      have t1 : decide ((s.size : Int) - ((rv s).2 : Int) < ((rv s).1 : Int)) = true := by simp; omega
      clear h0 hz h1
      generalize (rv s).1 = n at *
      generalize (rv s).2 = k at *
      go_enter Tryd.func29, Tryd.ntmps29
      go_wp2_with (go_at_call 43; refine (HR.out _).mono ?_; rintro e w1 ⟨rfl, hb1⟩)
      obtain ⟨e1, e2, e3⟩ := HF.out
      rw [e1, e2, e3]
      refine bodyPost_ret (v := .tuple #[.string ⟨#[]⟩, .string ⟨#[]⟩, .bool false]) (by simp [results, Tryd.results29, go_sem]) rfl ⟨rfl, hb1⟩
    · have HF : Hid (txtF s = false ∧ t5V s = s.extract (rv s).2 ((rv s).2 + (rv s).1) ∧ t5R s = s.extract ((rv s).2 + (rv s).1) s.size) := hide (by
        have e : txtF s = false := decide_eq_false (by omega)
        exact ⟨e, by unfold t5V; rw [if_neg (by rw [e]; simp)], by unfold t5R; rw [if_neg (by rw [e]; simp)]⟩)
      have t1 : decide ((s.size : Int) - ((rv s).2 : Int) < ((rv s).1 : Int)) = false := by simp; omega
      have hle : (rv s).2 + (rv s).1 ≤ s.size := by omega
      clear h0 hz h1
      generalize (rv s).1 = n at *
      generalize (rv s).2 = k at *
      go_enter Tryd.func29, Tryd.ntmps29
      go_wp2_with (go_at_call 43; refine (HR.out _).mono ?_; rintro e w1 ⟨rfl, hb1⟩)
      have b1 : (0 : Int) ≤ (k : Int) := by omega
      have b2 : (k : Int) ≤ (k : Int) + (n : Int) := by omega
      have b3 : (k : Int) + (n : Int) ≤ (s.size : Int) := by omega
      have b4 : (0 : Int) ≤ (k : Int) + (n : Int) := by omega
      have b5 : IntKind.i64.wrap ((k : Int) + (n : Int)) = (k : Int) + (n : Int) := by rw [IntKind.wrap_i64]; omega
      go_quiet (fail)
      go_wp2
      obtain ⟨e1, e2, e3⟩ := HF.out
      rw [e1, e2, e3]
      refine bodyPost_ret (v := .tuple #[.string (s.extract k (k + n)), .string (s.extract (k + n) s.size), .bool true]) (by simp [results, Tryd.results29, go_sem]) rfl ⟨rfl, ⟨hb1.os, hb1.tape, hb1.output, hb1.size, hb1.block⟩⟩

end Go.Proofs.YtimpokbcfjgdaaaDoor
namespace Go.Proofs.YtimpokbcfjgdaaaDoor
open Go.RowKit
open Plain

/-- The slice shows these numbers; what it leads to lies in blocks from base on. -/
structure IRow (w : World) (base : Nat) (a : Option Addr) (len : Nat) (zs : List Int) : Prop where
  len : zs.length = len
  cells : ∀ i, (h : i < zs.length) → ∃ b off, a = some ⟨b, off, none⟩ ∧ base ≤ b ∧ b < w.heap.size ∧ w.cell? ⟨b, off + i, none⟩ = some (.int .i64 (zs[i]))
theorem IRow.later {w w' : World} {base K : Nat} {a : Option Addr} {len : Nat} {zs : List Int} (h : IRow w base a len zs) (hb : Below K w w') (hK : w.heap.size ≤ K) : IRow w' base a len zs where
  len := h.len
  cells := fun i hi => by
    obtain ⟨b, off, h1, h2, h3, h4⟩ := h.cells i hi
    refine ⟨b, off, h1, h2, Nat.lt_of_lt_of_le h3 hb.size, ?_⟩
    rw [hb.cell (p := ⟨b, _, none⟩) (Nat.lt_of_lt_of_le h3 hK)]
    exact h4
/-- The same in a row of the call's own. -/
def IOwn (w : World) (base : Nat) (v : Value) (zs : List Int) : Prop := w.ownsRow base 3 1 v zs.length (zs.map (Value.int .i64))
theorem IOwn.len {w : World} {base : Nat} {a : Option Addr} {n cap : Nat} {zs : List Int} (h : IOwn w base (.slice a n cap) zs) : zs.length = n := by
  rcases h.2 with ⟨e, h0⟩ | ⟨g, c, cur, e, _⟩
  · simp only [Value.slice.injEq] at e; omega
  · simp only [Value.slice.injEq] at e; omega
theorem IOwn.row {w : World} {base : Nat} {a : Option Addr} {n cap : Nat} {zs : List Int} (h : IOwn w base (.slice a n cap) zs) : IRow w 0 a n zs where
  len := h.len
  cells := fun i hi => by
    have hn := h.len
    unfold IOwn at h
    rw [hn] at h
    rcases h.2 with ⟨e, h0⟩ | ⟨g, c, cur, e, hb, hg, _⟩
    · omega
    · simp only [Value.slice.injEq] at e
      obtain ⟨rfl, _, rfl⟩ := e
      have hgl : g < w.heap.size := by
        rcases Nat.lt_or_ge g w.heap.size with h' | h'
        · exact h'
        · rw [Array.getElem?_eq_none h'] at hg; cases hg
      refine ⟨g, 0, rfl, Nat.zero_le _, hgl, ?_⟩
      rw [Nat.zero_add, h.cellAt _ (by omega)]
      simp [hi]
theorem IOwn.later {w w' : World} {base K : Nat} {v : Value} {zs : List Int} (h : IOwn w base v zs) (hb : Below K w w') (hK : w.heap.size ≤ K) : IOwn w' base v zs := own_later h hb hK
theorem IOwn.mono {w : World} {base base' : Nat} {v : Value} {zs : List Int} (h : IOwn w base v zs) (hb : base' ≤ base) : IOwn w base' v zs := by
  refine ⟨h.1, ?_⟩
  rcases h.2 with h | ⟨g, c, cur, e, hbg, h1⟩
  · exact .inl h
  · exact .inr ⟨g, c, cur, e, Nat.le_trans hb hbg, h1⟩
theorem IOwn.blk {w : World} {base : Nat} {v : Value} {zs : List Int} (h : IOwn w base v zs) : ∀ g, v.ownBlock = some g → base ≤ g ∧ g < w.heap.size := World.ownsRow.lt h
/-- A number put into its place. -/
theorem IOwn.put {w : World} {base g n cap : Nat} {zs : List Int} (h : IOwn w base (.slice (some ⟨g, 0, none⟩) n cap) zs) (i : Nat) (z : Int) :
    IOwn (w.setCell ⟨g, i, none⟩ (.int .i64 z)) base (.slice (some ⟨g, 0, none⟩) n cap) (zs.set i z) ∧ w.grownBy (w.setCell ⟨g, i, none⟩ (.int .i64 z)) (some g) := by
  have hn := h.len
  unfold IOwn at h ⊢
  rw [hn] at h
  rw [List.length_set, hn, List.map_set]
  exact h.stored i (.int .i64 z)

theorem Tryd.info3 : (Tryd.prog.info? 3).map (fun i => (i.zero, i.size, i.bytes)) = some (some (.int .i64 0), 1, 8) := by kernel_rfl
/-- 'out = append(out, z)', out a row of ints of the call's own: a law for the walk. -/
theorem wpList_app_i64 {ops : Array Oper} {rest : List Oper} {o : Oper} {act : Act} {Q : Exit → Act → World → Prop} (hgd : o.guard = none) (s x : Operand)
    (ho : o.op = .call { callee := .builtin .append, args := #[s, x], argTypes := #[56, 56] }) {w : World} {base K : Nat} {v : Value} {xs : List Value} (z : Int) (hown : (w.alloc (.cells #[.int .i64 z] 3)).ownsRow base 3 1 v K xs) (hb : base ≤ w.heap.size)
    (hn : K ≤ 1000) (hs : act.eval s = v) (hx : act.eval x = .slice (some ⟨w.heap.size, 0, none⟩) 1 1)
    (h : ∀ v' w', w'.ownsRow base 3 1 v' (K + 1) (xs ++ [.int .i64 z]) → (w.alloc (.cells #[.int .i64 z] 3)).grownBy w' v.ownBlock → wpList Tryd.prog ops Q rest (act.put o.dst v') w') :
    wpList Tryd.prog ops Q (o :: rest) act (w.alloc (.cells #[.int .i64 z] 3)) := by
  obtain ⟨i0, hi, hz0, hz1, hz2⟩ := info_parts Tryd.info3
  refine wpList_append_own (P := Tryd.prog) (w.alloc (.cells #[.int .i64 z] 3)) hgd s x 56 ho base 3 i0 _ 1 8 Tryd.underlying56 hi hz0 hz1 hz2 rfl (by decide) v K _ hs hown ⟨w.heap.size, 0, none⟩ 1 1 [.int .i64 z] hx rfl (fun j u h => ?_) (fun u hu => by simp at hu; subst hu; rfl) (by unfold maxLen; omega) (by omega) (by simp; omega) ?_
  · rw [addr_add, Nat.zero_add, cell_of_row _ _ _ _ _ _ (heap_alloc_new w _)]
    simpa using h
  · intro v' w' ho' hg _
    exact h v' w' ho' hg
theorem takeI_set_succ (gs fs : List Int) (k : Nat) (hk : k < fs.length) (hg : k < gs.length) (h : gs.take k = fs.take k) : (gs.set k (fs[k])).take (k + 1) = fs.take (k + 1) := by
  rw [List.take_succ_eq_append_getElem (by rw [List.length_set]; exact hg), List.take_succ_eq_append_getElem hk, List.take_set_of_le (Nat.le_refl _), h]
  simp

end Go.Proofs.YtimpokbcfjgdaaaDoor
namespace Go.Proofs.YtimpokbcfjgdaaaDoor
open Go.RowKit
open Plain

/-- 'out = append(out, z)': the row behind it, and what has turned. -/
theorem wpList_app_int {ops : Array Oper} {rest : List Oper} {o : Oper} {act : Act} {Q : Exit → Act → World → Prop} (hgd : o.guard = none) (s x : Operand)
    (ho : o.op = .call { callee := .builtin .append, args := #[s, x], argTypes := #[56, 56] }) {w : World} {base : Nat} {v : Value} {xs : List Int} (z : Int) (hown : IOwn w base v xs) (hb : base ≤ w.heap.size) (hn : xs.length ≤ 1099511627775)
    {Wp : World} (hWp : Wp = w.alloc (.cells #[.int .i64 z] 3)) (hs : act.eval s = v) (hx : act.eval x = .slice (some ⟨w.heap.size, 0, none⟩) 1 1)
    (h : ∀ a' n' cap' w', n' = xs.length + 1 → IOwn w' base (.slice a' n' cap') (xs ++ [z]) → w.grownBy w' v.ownBlock → wpList Tryd.prog ops Q rest (act.put o.dst (.slice a' n' cap')) w') :
    wpList Tryd.prog ops Q (o :: rest) act Wp := by
  subst hWp
  obtain ⟨i0, hi, hz0, hz1, hz2⟩ := info_parts Tryd.info3
  have hA : Below w.heap.size w (w.alloc (.cells #[.int .i64 z] 3)) := (Below.refl _ _).alloc (Nat.le_refl _) _
  have hgA : w.grownBy (w.alloc (.cells #[.int .i64 z] 3)) v.ownBlock := ⟨hA.os, hA.tape, hA.output, hA.size, fun k hk _ => hA.block k hk⟩
  have ho1 : (w.alloc (.cells #[.int .i64 z] 3)).ownsRow base 3 1 v xs.length (xs.map (Value.int .i64)) := IOwn.later hown hA (Nat.le_refl _)
  refine wpList_append_own (P := Tryd.prog) (w.alloc (.cells #[.int .i64 z] 3)) hgd s x 56 ho base 3 i0 _ 1 8 Tryd.underlying56 hi hz0 hz1 hz2 rfl (by decide) v xs.length _ hs ho1 ⟨w.heap.size, 0, none⟩ 1 1 [.int .i64 z] hx rfl (fun j u h => ?_) (fun u hu => by simp at hu; subst hu; rfl) (by unfold maxLen; omega) (by omega) (Nat.le_trans hb hA.size) ?_
  · rw [addr_add, Nat.zero_add, cell_of_row _ _ _ _ _ _ (heap_alloc_new w _)]
    simpa using h
  · intro v' w' ho' hg _
    have hval : ∃ a' cap', v' = .slice a' (xs.length + 1) cap' := by
      rcases ho'.2 with ⟨e, h0⟩ | ⟨g, cap, cur, e, _⟩
      · exact ⟨none, 0, by rw [e, h0]⟩
      · exact ⟨_, _, e⟩
    obtain ⟨a', cap', rfl⟩ := hval
    refine h a' _ cap' w' rfl ?_ ⟨hg.os.trans hgA.os, hg.tape.trans hgA.tape, hg.output.trans hgA.output, Nat.le_trans hgA.size hg.size, fun i hi hr => (hg.block i (Nat.lt_of_lt_of_le hi hgA.size) hr).trans (hgA.block i hi hr)⟩
    unfold IOwn
    rw [List.length_append, List.map_append]
    exact ho'
theorem IOwn.nil (w : World) (base : Nat) : IOwn w base (.slice none 0 0) [] := ⟨rfl, .inl ⟨rfl, rfl⟩⟩
theorem IOwn.empty (w : World) : IOwn (w.alloc (.cells #[] 3)) w.heap.size (.slice (some ⟨w.heap.size, 0, none⟩) 0 0) [] :=
  ⟨rfl, .inr ⟨w.heap.size, 0, #[], rfl, Nat.le_refl _, heap_alloc_new w _, Nat.le_refl _, by unfold maxLen; omega, by simp, by simp⟩⟩

end Go.Proofs.YtimpokbcfjgdaaaDoor
namespace Go.Proofs.YtimpokbcfjgdaaaDoor
open Go.RowKit
open Plain

theorem or3 (a b c : Bool) : (((false || a) || b) || c) = (a || (b || (c || false))) := by cases a <;> cases b <;> cases c <;> rfl
theorem or5 (a b c d e : Bool) : (((((false || a) || b) || c) || d) || e) = (a || (b || (c || (d || (e || false))))) := by cases a <;> cases b <;> cases c <;> cases d <;> cases e <;> rfl
theorem failH_eq (t : ByteArray) : failH false t = failF 3 t := by
  rw [failF, failF, failF, failF, ← or3]
  rfl
theorem entF_eq (t : ByteArray) : entF false t = (txtF t || failF 4 (txtR t)) := by
  rw [failF, failF, failF, failF, failF, ← or5]
  rfl
theorem failF_on {j n : Nat} {t : ByteArray} (hj : failF j t = false) (h0 : (rv (restF j t)).2 = 0) (hn : j < n) : failF n t = true := by
  have h1 : failF (j + 1) t = true := by rw [failF_snoc, hj]; simpa using h0
  have h2 : ∀ d, failF (j + 1 + d) t = true := by
    intro d
    induction d with
    | zero => exact h1
    | succ d ih => rw [← Nat.add_assoc, failF_snoc, ih]; rfl
  have := h2 (n - (j + 1))
  rwa [show j + 1 + (n - (j + 1)) = n by omega] at this
theorem made_ints (n : Nat) : List.replicate n (Value.int .i64 0) = (madeCells #[Value.int .i64 0] (n * 1)).toList := by
  rw [Nat.mul_one]
  exact (toList_madeCells_one _ _).symm
/-- Zeros. -/
theorem zeros_own {w : World} {base : Nat} {v : Value} {n : Nat} (h : w.ownsRow base 3 1 v n (List.replicate n (Value.int .i64 0))) : IOwn w base v (List.replicate n 0) := by
  unfold IOwn
  rw [List.length_replicate, List.map_replicate]
  exact h

set_option maxRecDepth 100000 in
set_option maxHeartbeats 4000000 in
theorem specVars_any (s : ByteArray) (hs : s.size ≤ 1048576) (p n : Nat) (hp : p ≤ s.size) (hn : n ≤ 4) (t : ByteArray) (ht : s.extract p s.size = t) (w : World) :
    Calls Tryd.prog 28 #[.string s, .int .i64 p, .int .i64 n] w fun e w' => (∃ a m cap zs q, e = .returned (.tuple #[.slice a m cap, .int .i64 q]) ∧ IOwn w' w.heap.size (.slice a m cap) zs ∧ m = n ∧ ((failF n t = false ∧ zs = idsF n t ∧ 0 ≤ q ∧ q ≤ s.size ∧ s.extract q.toNat s.size = restF n t) ∨ (failF n t = true ∧ q = -1))) ∧ Below w.heap.size w w' := by
  have HT0 : Hid (s.extract p s.size = restF 0 t) := hide ht
  clear ht
  go_enter Tryd.func28, Tryd.ntmps28
  go_wp2
  go_loopw [1, 8, 9] (fun p o i wr => ∃ (j q : Nat) (a : Option Addr) (cap : Nat), p = .int .i64 q ∧ o = .slice a j cap ∧ i = .int .i64 j ∧ j ≤ n ∧ q ≤ s.size ∧ Hid (s.extract q s.size = restF j t) ∧ Hid (failF j t = false) ∧ Hid (IOwn wr w.heap.size (.slice a j cap) (idsF j t)) ∧ Hid (Below w.heap.size w wr)) (fun _ _ i _ => n - (intOf i).toNat)
  case atStart => exact ⟨0, p, some ⟨w.heap.size, 0, none⟩, 0, rfl, rfl, rfl, by omega, hp, HT0, hide rfl, hide (IOwn.empty w), hide (al1 w _)⟩
  case round =>
    clear HT0
    obtain ⟨j, q, a, cap, rfl, rfl, rfl, hj, hq, HT, HF, HO, HB⟩ := hrel
    by_cases hlt : j < n
    · have hlt2 : (j : Int) < (n : Int) := by omega
      have hRz : (s.extract q s.size).size = s.size - q := ba_len _ _ _ hq (Nat.le_refl _)
      have HRV := hide (specRV_any (s.extract q s.size) (by omega))
      have hrb := rv_bd (s.extract q s.size)
      have hq7 := hrb.2.1
      have hq2 : q + (rv (s.extract q s.size)).2 ≤ s.size := by omega
      have HI2 : Hid (idsF (j + 1) t = idsF j t ++ [((rv (s.extract q s.size)).1 : Int)]) := hide (by rw [idsF_snoc, HT.out])
      have HT2 : Hid (s.extract (q + (rv (s.extract q s.size)).2) s.size = restF (j + 1) t) := hide (by rw [restF_snoc, ← HT.out]; exact (cut_cut s _ _ hq).symm)
      have HF2 : Hid (¬ (rv (s.extract q s.size)).2 = 0 → failF (j + 1) t = false) := hide (fun h => by rw [failF_snoc, HF.out, ← HT.out]; simpa using h)
      have HFX : Hid ((rv (s.extract q s.size)).2 = 0 → failF n t = true) := hide (fun h => failF_on HF.out (by rw [← HT.out]; exact h) hlt)
      clear hrb hRz HT HF
      have b1 : (0 : Int) ≤ (q : Int) := by omega
      have b2 : (q : Int) ≤ (s.size : Int) := by omega
      generalize (rv (s.extract q s.size)).1 = z at *
      generalize (rv (s.extract q s.size)).2 = e at *
      by_cases h0 : e = 0
      · have t0 : ((e : Int) == 0) = true := by simpa using h0
        have HX := hide (HFX.out h0)
        clear HFX HF2 HT2 HI2 h0 HO
        go_wp2_with fail
        refine (HRV.out _).mono ?_
        rintro e w5 ⟨rfl, hb5⟩
        have HB5 := hide (HB.out.trans (hb5.mono HB.out.size))
        clear hb5 HB HRV
        obtain ⟨i0, hi, hz0, hz1, hz2⟩ := info_parts Tryd.info3
        obtain ⟨w6, hmk, hown, hgrow⟩ := run_make_full (P := Tryd.prog) w5 w5.heap.size 56 3 i0 _ 1 Tryd.underlying56 hi hz0 hz1 .i64 .i64 n (by rw [hz2]; omega) (by unfold maxLen; omega) (Nat.le_refl _)
        have HB6 := hide (HB5.out.grown hgrow HB5.out.size (by intro k h; cases h))
        have HO6 : Hid (IOwn w6 w5.heap.size (.slice (some ⟨w5.heap.size, 0, none⟩) n n) (List.replicate n 0)) := hide (by
          refine zeros_own ?_
          have e : List.replicate n (Value.int .i64 0) = (madeCells #[Value.int .i64 0] (n * 1)).toList := made_ints n
          rw [e]
          exact hown)
        clear hown hgrow hi hz0 hz1 hz2
        go_wp2
        go_ret2
        exact ⟨⟨_, n, n, List.replicate n 0, -1, rfl, HO6.out.mono HB5.out.size, rfl, .inr ⟨HX.out, rfl⟩⟩, HB6.out⟩
      · have t0 : ((e : Int) == 0) = false := by simpa using h0
        have HF3 := hide (HF2.out h0)
        clear HFX HF2 h0
        go_wp2_with fail
        refine (HRV.out _).mono ?_
        rintro e w5 ⟨rfl, hb5⟩
        have HO5 := hide (HO.out.later hb5 (Nat.le_refl _))
        have HB5 := hide (HB.out.trans (hb5.mono HB.out.size))
        have hil := HO5.out.len
        clear hb5 HB HO HRV
        go_wp2_with (at_builtin; refine wpList_app_int rfl _ _ rfl (z : Int) HO5.out HB5.out.size (by omega) rfl rfl rfl ?_; intro a' n' cap' w6 hn' ho6 hg6; obtain rfl : n' = j + 1 := (by omega); have HO6 := hide ho6; have HB6 := hide (HB5.out.grown hg6 HB5.out.size (fun k hk => (HO5.out.blk k hk).1)); clear ho6 hg6 hn' hil)
        clear HO5 HB5
        go_roundw
        case rel => exact ⟨j + 1, q + e, a', cap', by go_num, rfl, by go_num, by omega, hq2, HT2, HF3, by rw [HI2.out]; exact HO6, HB6⟩
        case measure => first | (simp [intOf]; done) | (simp [intOf]; omega)
    · obtain rfl : j = n := by omega
      go_wp2
      go_ret2
      exact ⟨⟨a, j, cap, idsF j t, q, rfl, HO.out, rfl, .inl ⟨HF.out, rfl, by omega, by omega, by rw [Int.toNat_natCast]; exact HT.out⟩⟩, HB.out⟩

end Go.Proofs.YtimpokbcfjgdaaaDoor
