/-
  Lists of segments with no Go in sight: which are right, what ShowLive makes of one, what is read back.
-/
import Derived.Test.YthnealhaleccpaaDoorFramePlain
import Derived.Test.YthnealhaleccpaaDoorLiveV
namespace Go.Proofs.YthnealhaleccpaaDoor
open Go.RowKit
open Plain

def catV : List Int → ByteArray
  | [] => ⟨#[]⟩
  | x :: r => varS x ++ catV r
def bodyL (v : LiveV) : ByteArray := varS v.next ++ (varS (v.ids.length : Int) ++ catV v.ids)
def showL (v : LiveV) : ByteArray := if liveB v then frameS (bodyL v) else ⟨#[]⟩

/-- The numbers that stand in a text, n of them. -/
def idsF : Nat → ByteArray → List Int
  | 0, _ => []
  | n + 1, t => ((rv t).1 : Int) :: idsF n (t.extract (rv t).2 t.size)
theorem idsF_cat (l : List Int) (T : ByteArray) (h : ∀ x ∈ l, 0 ≤ x ∧ x ≤ 562949953421311) : idsF l.length (catV l ++ T) = l := by
  induction l with
  | nil => rfl
  | cons x r ih =>
    have hx := h x (List.mem_cons_self ..)
    obtain ⟨n, rfl⟩ := Int.eq_ofNat_of_zero_le hx.1
    rw [List.length_cons, idsF, catV, ByteArray.append_assoc, rv_var n (by omega)]
    simp only
    rw [ba_drop, ih (fun y hy => h y (List.mem_cons_of_mem _ hy))]
theorem catV_empty (l : List Int) : catV l ++ (⟨#[]⟩ : ByteArray) = catV l := ByteArray.append_empty

/-- What ReadLive tells, off the text of the frame. -/
def liveOf (t : ByteArray) : LiveV :=
  ⟨((rv t).1 : Int), idsF (min (rv (t.extract (rv t).2 t.size)).1 60) ((t.extract (rv t).2 t.size).extract (rv (t.extract (rv t).2 t.size)).2 (t.extract (rv t).2 t.size).size)⟩
theorem liveOf_body {v : LiveV} (h : liveB v = true) : liveOf (bodyL v) = v := by
  obtain ⟨h1, h2, h3⟩ := live_bd h
  obtain ⟨next, ids⟩ := v
  simp only at h1 h2 h3
  obtain ⟨n, rfl⟩ := Int.eq_ofNat_of_zero_le (show 0 ≤ next by omega)
  unfold liveOf bodyL
  simp only
  rw [rv_var n (by omega)]
  simp only
  rw [ba_drop, rv_var ids.length (by omega)]
  simp only
  rw [ba_drop, Nat.min_eq_left h2.2, ← catV_empty, idsF_cat ids _ (fun x hx => by have := h3 x hx; omega)]

theorem varS_size3 (x : Int) (h0 : 0 ≤ x) (h1 : x ≤ 100000) : (varS x).size ≤ 3 := by
  obtain ⟨n, rfl⟩ := Int.eq_ofNat_of_zero_le h0
  rw [varS_size_in n (by omega)]
  exact vb_len 2 n (by omega)
theorem catV_size (l : List Int) (h : ∀ x ∈ l, 0 < x ∧ x ≤ 99999) : (catV l).size ≤ 3 * l.length := by
  induction l with
  | nil => exact Nat.zero_le _
  | cons x r ih =>
    have h1 := h x (List.mem_cons_self ..)
    have h2 := varS_size3 x (by omega) (by omega)
    have h3 := ih (fun y hy => h y (List.mem_cons_of_mem _ hy))
    rw [catV, ByteArray.size_append, List.length_cons]
    omega
theorem bodyL_size {v : LiveV} (h : liveB v = true) : (bodyL v).size ≤ 186 := by
  obtain ⟨h1, h2, h3⟩ := live_bd h
  have a1 := varS_size3 v.next (by omega) (by omega)
  have a2 := varS_size3 (v.ids.length : Int) (by omega) (by omega)
  have a3 := catV_size v.ids h3
  unfold bodyL
  rw [ByteArray.size_append, ByteArray.size_append]
  omega
theorem showL_in {v : LiveV} (h : liveB v = true) : showL v = frameS (bodyL v) := if_pos h
theorem showL_out {v : LiveV} (h : liveB v = false) : showL v = ⟨#[]⟩ := if_neg (by rw [h]; simp)
theorem showL_pos {v : LiveV} (h : liveB v = true) : 0 < (showL v).size := by
  have := bodyL_size h
  rw [showL_in h, frameS_in _ (by omega), ByteArray.size_append, sumS_size]
  omega
theorem showL_size (v : LiveV) : (showL v).size ≤ 211 := by
  unfold showL
  split
  · exact frameS_size _
  · exact Nat.zero_le _
theorem uf_showL {v : LiveV} (h : liveB v = true) : uf (showL v) = (bodyL v, (showL v).size) := by
  have := bodyL_size h
  have e := uf_frame (bodyL v) ⟨#[]⟩ (by omega)
  rw [show frameS (bodyL v) ++ (⟨#[]⟩ : ByteArray) = frameS (bodyL v) from ByteArray.append_empty] at e
  rw [showL_in h, e]
theorem showL_inj {u v : LiveV} (h : liveB u = true) (k : liveB v = true) (e : showL u = showL v) : u = v := by
  have e1 := uf_showL h
  rw [e, uf_showL k] at e1
  injection e1 with e1 _
  rw [← liveOf_body h, ← liveOf_body k, e1]

def zeroL : LiveV := ⟨0, []⟩
/-- ReadLive as a function. -/
def rl (s : ByteArray) : LiveV × Bool := if s.size ≠ 0 ∧ showL (liveOf (uf s).1) = s then (liveOf (uf s).1, true) else (zeroL, false)
/-- The same in words. -/
def RL (s : ByteArray) (v : LiveV) (ok : Bool) : Prop := (ok = true ∧ liveB v = true ∧ showL v = s) ∨ (ok = false ∧ v = zeroL ∧ ∀ u, liveB u = true → showL u ≠ s)
theorem rl_RL (s : ByteArray) : RL s (rl s).1 (rl s).2 := by
  unfold rl
  split
  · rename_i h
    refine Or.inl ⟨rfl, ?_, h.2⟩
    cases hb : liveB (liveOf (uf s).1) with
    | true => rfl
    | false =>
      exfalso
      have e := h.2
      rw [showL_out hb] at e
      exact h.1 (by rw [← e]; rfl)
  · rename_i h
    refine Or.inr ⟨rfl, rfl, fun u hu e => h ?_⟩
    subst e
    have hp := showL_pos hu
    refine ⟨by omega, ?_⟩
    rw [uf_showL hu, liveOf_body hu]
theorem RL_one {s : ByteArray} {u v : LiveV} {a b : Bool} (h : RL s u a) (k : RL s v b) : u = v ∧ a = b := by
  rcases h with ⟨rfl, h1, h2⟩ | ⟨rfl, rfl, h2⟩
  · rcases k with ⟨rfl, k1, k2⟩ | ⟨rfl, _, k2⟩
    · exact ⟨showL_inj h1 k1 (h2.trans k2.symm), rfl⟩
    · exact absurd h2 (k2 u h1)
  · rcases k with ⟨rfl, k1, k2⟩ | ⟨rfl, rfl, _⟩
    · exact absurd k2 (h2 v k1)
    · exact ⟨rfl, rfl⟩
theorem rl_of {s : ByteArray} {v : LiveV} {ok : Bool} (h : RL s v ok) : rl s = (v, ok) := by
  obtain ⟨h1, h2⟩ := RL_one (rl_RL s) h
  rw [← h1, ← h2]
theorem rl_show {v : LiveV} (h : liveB v = true) : rl (showL v) = (v, true) := rl_of (Or.inl ⟨rfl, h, rfl⟩)

end Go.Proofs.YthnealhaleccpaaDoor
