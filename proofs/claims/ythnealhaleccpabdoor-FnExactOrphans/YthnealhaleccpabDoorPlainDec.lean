/-
  Plain facts on decimal numerals: what is read back of one, how long it is, and what ReadDec is to answer.
-/
import Derived.Test.YthnealhaleccpabDoorPlain
import Derived.Lib.ItoaNum
import Derived.Lib.Atoi
import Derived.Lib.Strings
namespace Go.Proofs.YthnealhaleccpabDoor
namespace Plain

theorem u8_digit (d : Nat) (h : d < 10) : (UInt8.ofNat (48 + d)).toNat = 48 + d := by simp; omega
theorem digitVal_of (d : Nat) (h : d < 10) : Lib.digitVal (UInt8.ofNat (48 + d)) = some d := by
  unfold Lib.digitVal
  rw [u8_digit d h, if_pos (by omega)]
  congr 1
  omega
theorem decFrom_snoc (l : List UInt8) (b : UInt8) (d : Nat) (hd : Lib.digitVal b = some d) : ∀ acc n, Lib.decFrom acc l = some n → Lib.decFrom acc (l ++ [b]) = some (n * 10 + d) := by
  induction l with
  | nil => intro acc n h; simp only [Lib.decFrom, Option.some.injEq] at h; subst h; simp [Lib.decFrom, hd]
  | cons a r ih =>
    intro acc n h
    simp only [List.cons_append, Lib.decFrom] at h ⊢
    cases ha : Lib.digitVal a with
    | none => simp [ha] at h
    | some e => simp only [ha] at h ⊢; exact ih _ n h
theorem decDigits_step (a : Nat) (h : ¬ a < 10) : Lib.decDigits a = Lib.decDigits (a / 10) ++ [UInt8.ofNat (48 + a % 10)] := by rw [Lib.decDigits, dif_neg h]
theorem decDigits_small (a : Nat) (h : a < 10) : Lib.decDigits a = [UInt8.ofNat (48 + a)] := by rw [Lib.decDigits, dif_pos h]
theorem decFrom_digits (a : Nat) : Lib.decFrom 0 (Lib.decDigits a) = some a := by
  induction a using Nat.strongRecOn with
  | ind a ih =>
    by_cases h : a < 10
    · rw [decDigits_small a h]; simp only [Lib.decFrom, digitVal_of a h]; simp
    · rw [decDigits_step a h, decFrom_snoc _ _ _ (digitVal_of (a % 10) (by omega)) 0 (a / 10) (ih (a / 10) (by omega))]
      congr 1
      omega
theorem decDigits_ne (a : Nat) : Lib.decDigits a ≠ [] := by
  by_cases h : a < 10
  · rw [decDigits_small a h]; simp
  · rw [decDigits_step a h]; simp
theorem decDigits_mem (a : Nat) : ∀ b ∈ Lib.decDigits a, 48 ≤ b.toNat ∧ b.toNat ≤ 57 := by
  induction a using Nat.strongRecOn with
  | ind a ih =>
    intro b hb
    by_cases h : a < 10
    · rw [decDigits_small a h] at hb
      simp only [List.mem_singleton] at hb
      rw [hb, u8_digit a h]; omega
    · rw [decDigits_step a h, List.mem_append, List.mem_singleton] at hb
      rcases hb with hb | hb
      · exact ih (a / 10) (by omega) b hb
      · rw [hb, u8_digit (a % 10) (by omega)]; omega
theorem decNat_digits (a : Nat) : Lib.decNat (Lib.decDigits a) = some a := by
  unfold Lib.decNat
  have := decDigits_ne a
  rw [if_neg (by simpa using this), decFrom_digits]
theorem atoi_itoa (n : Int) : Lib.atoi (Lib.itoa n) = some n := by
  unfold Lib.itoa
  by_cases h : n < 0
  · rw [if_pos h]
    simp only [Lib.atoi, beq_self_eq_true, if_true, decNat_digits, Option.map_some]
    congr 1
    omega
  · rw [if_neg h]
    cases hd : Lib.decDigits n.toNat with
    | nil => exact absurd hd (decDigits_ne _)
    | cons b r =>
      have hm := decDigits_mem n.toNat b (by rw [hd]; simp)
      have h1 : (b == 45) = false := by
        rw [beq_eq_false_iff_ne]; intro e; rw [e] at hm; simp at hm
      have h2 : (b == 43) = false := by
        rw [beq_eq_false_iff_ne]; intro e; rw [e] at hm; simp at hm
      have h3 := decNat_digits n.toNat
      rw [hd] at h3
      simp only [Lib.atoi, h1, h2, h3, Option.map_some]
      simp
      omega
theorem digits_len (k : Nat) : ∀ a, (Lib.decDigits a).length ≤ k + 1 ↔ a < 10 ^ (k + 1) := by
  induction k with
  | zero =>
    intro a
    by_cases h : a < 10
    · rw [decDigits_small a h]; simpa using h
    · rw [decDigits_step a h, List.length_append]
      have := decDigits_ne (a / 10)
      have h2 : 0 < (Lib.decDigits (a / 10)).length := List.length_pos_iff.2 this
      rw [Nat.zero_add, Nat.pow_one]
      simp only [List.length_singleton]
      omega
  | succ k ih =>
    intro a
    by_cases h : a < 10
    · rw [decDigits_small a h]
      have : 10 ≤ 10 ^ (k + 1 + 1) := by rw [Nat.pow_succ]; have : 0 < 10 ^ (k + 1) := Nat.pow_pos (by omega)
                                         omega
      simp
      omega
    · rw [decDigits_step a h, List.length_append, Nat.pow_succ]
      have := ih (a / 10)
      simp only [List.length_singleton]
      constructor
      · intro h'
        have := this.1 (by omega)
        omega
      · intro h'
        have := this.2 (by omega)
        omega

/-- The digits among bytes, as a number, and how many they are. -/
def svStep (x : Nat × Nat) (b : Nat) : Nat × Nat := if 48 ≤ b ∧ b ≤ 57 then (x.1 * 10 + (b - 48), x.2 + 1) else x
def sv (l : List Nat) : Nat × Nat := l.foldl svStep (0, 0)
theorem sv_snoc (l : List Nat) (b : Nat) : sv (l ++ [b]) = svStep (sv l) b := by simp [sv, List.foldl_append]
theorem sv_bd' (l : List Nat) : ∀ x : Nat × Nat, x.1 < 10 ^ x.2 → (l.foldl svStep x).1 < 10 ^ (l.foldl svStep x).2 ∧ (l.foldl svStep x).2 ≤ x.2 + l.length := by
  induction l with
  | nil => intro x h; exact ⟨h, Nat.le_refl _⟩
  | cons b r ih =>
    intro x h
    rw [List.foldl_cons, List.length_cons]
    have hs : (svStep x b).1 < 10 ^ (svStep x b).2 ∧ (svStep x b).2 ≤ x.2 + 1 := by
      unfold svStep
      split
      · refine ⟨?_, Nat.le_refl _⟩
        simp only [Nat.pow_succ]
        omega
      · exact ⟨h, by omega⟩
    have := ih (svStep x b) hs.1
    omega
theorem sv_bd (l : List Nat) : (sv l).1 < 10 ^ (sv l).2 ∧ (sv l).2 ≤ l.length := by
  have := sv_bd' l (0, 0) (by simp)
  simpa [sv] using this
theorem sv_digits (a : Nat) : sv ((Lib.decDigits a).map UInt8.toNat) = (a, (Lib.decDigits a).length) := by
  induction a using Nat.strongRecOn with
  | ind a ih =>
    by_cases h : a < 10
    · rw [decDigits_small a h, List.map_cons, List.map_nil, u8_digit a h]
      simp [sv, svStep]
      omega
    · rw [decDigits_step a h, List.map_append, List.map_cons, List.map_nil, sv_snoc, ih (a / 10) (by omega), u8_digit (a % 10) (by omega)]
      unfold svStep
      rw [if_pos (by omega)]
      simp only [Prod.mk.injEq, List.length_append, List.length_singleton, and_true]
      omega
theorem sv_minus (l : List Nat) : sv (45 :: l) = sv l := by simp [sv, svStep]

/-- What ReadDec answers. -/
def DA (s : ByteArray) (n : Int) (ok : Bool) : Prop :=
  (ok = true ∧ Lib.itoa n = s.data.toList ∧ -999999999 ≤ n ∧ n ≤ 999999999) ∨ (ok = false ∧ n = 0 ∧ ∀ m, -999999999 ≤ m → m ≤ 999999999 → Lib.itoa m ≠ s.data.toList)
theorem DA_one {s : ByteArray} {n n' : Int} {o o' : Bool} (h : DA s n o) (h' : DA s n' o') : n = n' ∧ o = o' := by
  rcases h with ⟨a, b, c, d⟩ | ⟨a, b, c⟩
  · rcases h' with ⟨a', b', c', d'⟩ | ⟨a', b', c'⟩
    · have e := atoi_itoa n
      rw [b, ← b', atoi_itoa n'] at e
      exact ⟨(Option.some.inj e).symm, by rw [a, a']⟩
    · exact absurd b (c' n c d)
  · rcases h' with ⟨a', b', c', d'⟩ | ⟨a', b', c'⟩
    · exact absurd b' (c n' c' d')
    · exact ⟨by rw [b, b'], by rw [a, a']⟩

theorem trim_itoa (n : Int) : Lib.trimPrefix (Lib.itoa n) [45] = Lib.decDigits n.natAbs := by
  unfold Lib.itoa
  by_cases h : n < 0
  · rw [if_pos h]
    simp [Lib.trimPrefix, Lib.hasPrefix]
  · rw [if_neg h, show n.toNat = n.natAbs from by omega]
    unfold Lib.trimPrefix
    have : Lib.hasPrefix (Lib.decDigits n.natAbs) [45] = false := by
      unfold Lib.hasPrefix
      cases hd : Lib.decDigits n.natAbs with
      | nil => rfl
      | cons b r =>
        have hm := decDigits_mem n.natAbs b (by rw [hd]; simp)
        have h1 : ((45 : UInt8) == b) = false := by
          rw [beq_eq_false_iff_ne]; intro e; rw [← e] at hm; simp at hm
        simp [List.isPrefixOf, h1]
    rw [this]
    rfl
theorem pow9 : (10 : Nat) ^ (8 + 1) = 1000000000 := by decide
theorem trim_short (m : Int) (h1 : -999999999 ≤ m) (h2 : m ≤ 999999999) : (Lib.trimPrefix (Lib.itoa m) [45]).length ≤ 9 := by
  rw [trim_itoa]
  exact (digits_len 8 _).2 (by rw [pow9]; omega)
theorem trim_range (n : Int) (h : (Lib.trimPrefix (Lib.itoa n) [45]).length ≤ 9) : -999999999 ≤ n ∧ n ≤ 999999999 := by
  rw [trim_itoa] at h
  have := (digits_len 8 _).1 h
  rw [pow9] at this
  omega
theorem trim_len (l : List UInt8) : l.length ≤ (Lib.trimPrefix l [45]).length + 1 := by
  unfold Lib.trimPrefix
  split
  · simp; omega
  · omega
theorem sv_itoa (n : Int) : sv ((Lib.itoa n).map UInt8.toNat) = (n.natAbs, (Lib.decDigits n.natAbs).length) := by
  unfold Lib.itoa
  by_cases h : n < 0
  · rw [if_pos h, List.map_cons, show (45 : UInt8).toNat = 45 from rfl, sv_minus, sv_digits]
  · rw [if_neg h, show n.toNat = n.natAbs from by omega, sv_digits]
theorem sv_of (s : ByteArray) (n : Int) (h : Lib.itoa n = s.data.toList) : sv (bl s) = (n.natAbs, (Lib.decDigits n.natAbs).length) := by rw [bl, ← h, sv_itoa]
theorem first_itoa (s : ByteArray) (n : Int) (h : Lib.itoa n = s.data.toList) : 0 < s.size ∧ ((bl s).getD 0 0 = 45 ↔ n < 0) := by
  have hl := bl_length s
  rw [bl, ← h] at hl
  unfold bl
  rw [← h]
  unfold Lib.itoa at hl ⊢
  by_cases hn : n < 0
  · rw [if_pos hn] at hl ⊢
    simp at hl
    refine ⟨by omega, by simp [hn]⟩
  · rw [if_neg hn] at hl ⊢
    cases hd : Lib.decDigits n.toNat with
    | nil => exact absurd hd (decDigits_ne _)
    | cons b r =>
      have hm := decDigits_mem n.toNat b (by rw [hd]; simp)
      rw [hd] at hl
      simp at hl
      refine ⟨by omega, ?_⟩
      simp
      omega
theorem size_itoa (s : ByteArray) (n : Int) (h : Lib.itoa n = s.data.toList) : s.size ≤ (Lib.decDigits n.natAbs).length + 1 := by
  have := trim_len (Lib.itoa n)
  rw [trim_itoa, h] at this
  have e : s.data.toList.length = s.size := by simp
  omega

end Plain
end Go.Proofs.YthnealhaleccpabDoor
