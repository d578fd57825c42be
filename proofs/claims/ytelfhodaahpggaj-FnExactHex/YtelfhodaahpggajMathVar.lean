/-
  Plain facts on the bytes of a Var: which beginnings of a text are the Var of what they say.
-/
import Derived.Test.YtelfhodaahpggajMath
namespace Go.Proofs.Ytelfhodaahpggaj
namespace Plain

/-- What bytes say, seven bits each, the least first. -/
def vval : List Nat → Nat
  | [] => 0
  | b :: r => b % 128 + 128 * vval r
theorem vval_snoc (l : List Nat) (b : Nat) : vval (l ++ [b]) = vval l + (b % 128) * 128 ^ l.length := by
  induction l with
  | nil => simp [vval]
  | cons a r ih =>
    rw [List.cons_append, vval, ih, vval, List.length_cons, Nat.pow_succ, Nat.mul_add]
    have : 128 * (b % 128 * 128 ^ r.length) = b % 128 * (128 ^ r.length * 128) := by rw [Nat.mul_comm, Nat.mul_assoc]
    omega
theorem vval_lt (l : List Nat) : vval l < 128 ^ l.length := by
  induction l with
  | nil => simp [vval]
  | cons a r ih =>
    rw [vval, List.length_cons, Nat.pow_succ]
    have := Nat.mod_lt a (show 0 < 128 by omega)
    omega
theorem vval_bd (l : List Nat) (h : l.length ≤ 7) : vval l ≤ 562949953421311 := by
  have h1 := vval_lt l
  have h2 : 128 ^ l.length ≤ 128 ^ 7 := Nat.pow_le_pow_right (by omega) h
  have h3 : (128 : Nat) ^ 7 = 562949953421312 := by decide
  omega

/-- The bytes are the Var of what they say. -/
def IsVar (l : List Nat) : Prop := vb (vval l) = l.map (fun b : Nat => (b : Int))
/-- The same, place by place. -/
def GoodVar (l : List Nat) : Prop := l ≠ [] ∧ (∀ j, j + 1 < l.length → 128 ≤ l.getD j 0) ∧ l.getD (l.length - 1) 0 < 128 ∧ (l.length = 1 ∨ l.getD (l.length - 1) 0 ≠ 0)

theorem good_one (b : Nat) : GoodVar [b] ↔ b < 128 := by simp [GoodVar]
theorem good_cons (b c : Nat) (r : List Nat) : GoodVar (b :: c :: r) ↔ 128 ≤ b ∧ c :: r ≠ [0] ∧ GoodVar (c :: r) := by
  constructor
  · rintro ⟨_, h1, h2, h3⟩
    refine ⟨by simpa using h1 0 (by simp), ?_, by simp, ?_, ?_, ?_⟩
    · intro e
      injection e with e1 e2
      subst e1; subst e2
      simp at h3
    · intro j hj
      have := h1 (j + 1) (by simp at hj ⊢; omega)
      simpa using this
    · simpa using h2
    · rcases h3 with h3 | h3
      · simp at h3
      · exact Or.inr (by simpa using h3)
  · rintro ⟨h0, hz, _, h1, h2, h3⟩
    refine ⟨by simp, ?_, by simpa using h2, Or.inr ?_⟩
    · intro j hj
      cases j with
      | zero => simpa using h0
      | succ j =>
        have := h1 j (by simp at hj ⊢; omega)
        simpa using this
    · rcases h3 with h3 | h3
      · cases r with
        | nil => simp at hz ⊢; exact hz
        | cons d t => simp at h3
      · simpa using h3
theorem isVar_iff (l : List Nat) (hb : ∀ b ∈ l, b < 256) : IsVar l ↔ GoodVar l := by
  induction l with
  | nil =>
    constructor
    · intro h
      have h1 := congrArg List.length h
      have h2 := vb_pos (vval [])
      rw [h1] at h2
      simp at h2
    · intro h; exact absurd rfl h.1
  | cons b t ih =>
    have hbb := hb b (by simp)
    cases t with
    | nil =>
      rw [good_one]
      unfold IsVar
      have e : vval [b] = b % 128 := by simp [vval]
      rw [e, vb_small _ (Nat.mod_lt _ (by omega))]
      simp
      omega
    | cons c r =>
      rw [good_cons, ← ih (fun x hx => hb x (by simp [hx]))]
      unfold IsVar
      have e : vval (b :: c :: r) = b % 128 + 128 * vval (c :: r) := rfl
      generalize hv : vval (c :: r) = v at *
      rw [e]
      by_cases h0 : v = 0
      · subst h0
        rw [vb_small _ (by omega), vb_small 0 (by omega)]
        constructor
        · intro h; simp at h
        · rintro ⟨_, h1, h2⟩
          exfalso
          apply h1
          simp at h2
          rw [h2.2]
          simp
          omega
      · rw [vb_big _ (by omega), show (b % 128 + 128 * v) / 128 = v from by omega]
        rw [List.map_cons, List.cons.injEq]
        constructor
        · rintro ⟨h1, h2⟩
          refine ⟨by omega, ?_, h2⟩
          intro h
          rw [h] at hv
          simp [vval] at hv
          omega
        · rintro ⟨h1, _, h2⟩
          exact ⟨by omega, h2⟩

/-- The bytes of a text, as numbers. -/
def bl (s : ByteArray) : List Nat := s.data.toList.map UInt8.toNat
theorem bl_length (s : ByteArray) : (bl s).length = s.size := by rw [bl, List.length_map]; rfl
theorem bl_get (s : ByteArray) (k : Nat) (h : k < s.size) : (bl s)[k]? = some s[k].toNat := by
  have h' : k < s.data.toList.length := by simpa using h
  simp only [bl, List.getElem?_map, List.getElem?_eq_getElem h']
  rfl
theorem bl_lt (s : ByteArray) (k : Nat) : ∀ b ∈ (bl s).take k, b < 256 := by
  intro b hb
  have := List.mem_of_mem_take hb
  simp only [bl, List.mem_map] at this
  obtain ⟨x, _, rfl⟩ := this
  exact UInt8.toNat_lt x
theorem bl_take_succ (s : ByteArray) (k : Nat) (h : k < s.size) : (bl s).take (k + 1) = (bl s).take k ++ [s[k].toNat] := by
  have h' : k < (bl s).length := by rw [bl_length]; exact h
  rw [List.take_succ_eq_append_getElem h']
  have := bl_get s k h
  rw [List.getElem?_eq_getElem h'] at this
  simp at this
  rw [this]

/-- What ReadVar answers: the number and how many bytes it took. -/
def RV (s : ByteArray) (n k : Nat) : Prop :=
  (1 ≤ k ∧ k ≤ 7 ∧ k ≤ s.size ∧ IsVar ((bl s).take k) ∧ n = vval ((bl s).take k) ∧ ∀ j, 1 ≤ j → j < k → ¬ IsVar ((bl s).take j)) ∨
  (n = 0 ∧ k = 0 ∧ ∀ j, 1 ≤ j → j ≤ 7 → j ≤ s.size → ¬ IsVar ((bl s).take j))
theorem RV_one {s : ByteArray} {n k n' k' : Nat} (h : RV s n k) (h' : RV s n' k') : n = n' ∧ k = k' := by
  rcases h with ⟨a1, a2, a3, a4, a5, a6⟩ | ⟨a1, a2, a3⟩
  · rcases h' with ⟨b1, b2, b3, b4, b5, b6⟩ | ⟨b1, b2, b3⟩
    · have : k = k' := by
        rcases Nat.lt_trichotomy k k' with h | h | h
        · exact absurd a4 (b6 k a1 h)
        · exact h
        · exact absurd b4 (a6 k' b1 h)
      subst this
      exact ⟨by rw [a5, b5], rfl⟩
    · exact absurd a4 (b3 k a1 a2 a3)
  · rcases h' with ⟨b1, b2, b3, b4, b5, b6⟩ | ⟨b1, b2, b3⟩
    · exact absurd b4 (a3 k' b1 b2 b3)
    · exact ⟨by omega, by omega⟩

theorem isVar_take (s : ByteArray) (k : Nat) (h1 : 1 ≤ k) (h2 : k ≤ s.size) : IsVar ((bl s).take k) ↔ (∀ j, j + 1 < k → 128 ≤ (bl s).getD j 0) ∧ (bl s).getD (k - 1) 0 < 128 ∧ (k = 1 ∨ (bl s).getD (k - 1) 0 ≠ 0) := by
  rw [isVar_iff _ (bl_lt s k)]
  have hl : ((bl s).take k).length = k := by rw [List.length_take, bl_length]; omega
  have hg : ∀ j, j < k → ((bl s).take k).getD j 0 = (bl s).getD j 0 := by
    intro j hj
    simp [List.getD, hj]
  unfold GoodVar
  rw [hl, hg (k - 1) (by omega)]
  constructor
  · rintro ⟨_, a, b, c⟩
    exact ⟨fun j hj => by rw [← hg j (by omega)]; exact a j hj, b, c⟩
  · rintro ⟨a, b, c⟩
    refine ⟨?_, fun j hj => by rw [hg j (by omega)]; exact a j hj, b, c⟩
    intro e
    rw [e] at hl
    simp at hl
    omega

/-- The ways in which impl.ReadVar ends. -/
theorem RV_hit (s : ByteArray) (i : Nat) (hi : i < 7) (hs : i < s.size) (ha : ∀ j, j < i → 128 ≤ (bl s).getD j 0) (hb : (bl s).getD i 0 < 128) (hz : i = 0 ∨ (bl s).getD i 0 ≠ 0) : RV s (vval ((bl s).take (i + 1))) (i + 1) := by
  refine Or.inl ⟨by omega, by omega, by omega, ?_, rfl, ?_⟩
  · rw [isVar_take s (i + 1) (by omega) (by omega)]
    exact ⟨fun j hj => ha j (by omega), by simpa using hb, by rcases hz with h | h; · exact Or.inl (by omega)
                                                              · exact Or.inr (by simpa using h)⟩
  · intro j h1 h2 h
    rw [isVar_take s j h1 (by omega)] at h
    have := ha (j - 1) (by omega)
    omega
theorem RV_nought (s : ByteArray) (i : Nat) (_hi : i < 7) (_hs : i < s.size) (ha : ∀ j, j < i → 128 ≤ (bl s).getD j 0) (h0 : 0 < i) (hb : (bl s).getD i 0 = 0) : RV s 0 0 := by
  refine Or.inr ⟨rfl, rfl, ?_⟩
  intro j h1 _ h3 h
  rw [isVar_take s j h1 h3] at h
  obtain ⟨a, b, c⟩ := h
  rcases Nat.lt_trichotomy j (i + 1) with h | h | h
  · have := ha (j - 1) (by omega)
    omega
  · subst h
    rw [Nat.add_sub_cancel] at c
    omega
  · have := a i (by omega)
    omega
theorem RV_none (s : ByteArray) (m : Nat) (hm : m = 7 ∨ m = s.size) (ha : ∀ j, j < m → 128 ≤ (bl s).getD j 0) : RV s 0 0 := by
  refine Or.inr ⟨rfl, rfl, ?_⟩
  intro j h1 h2 h3 h
  rw [isVar_take s j h1 h3] at h
  have := ha (j - 1) (by omega)
  omega

end Plain
end Go.Proofs.Ytelfhodaahpggaj
