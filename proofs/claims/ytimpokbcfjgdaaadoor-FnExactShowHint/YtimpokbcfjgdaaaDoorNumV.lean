/-
  The round trips of Var and of Fixed, with no Go in sight: what is made of a number is read as it, whatever stands behind, and only that; what ReadVar tells of a text, as a function.
-/
import Derived.Test.YtimpokbcfjgdaaaDoorVarEq
import Derived.Test.YtimpokbcfjgdaaaDoorVarStr
import Derived.Test.YtimpokbcfjgdaaaDoorFixStr
namespace Go.Proofs.YtimpokbcfjgdaaaDoor
open Go.RowKit
open Plain

/-! ### Var -/
theorem vval_vb (n : Nat) : vval ((vb n).map Int.toNat) = n := by
  induction n using Nat.strongRecOn with
  | ind n ih =>
    by_cases h : n < 128
    · rw [vb_small n h]; simp [vval]; omega
    · rw [vb_big n h, List.map_cons, vval, ih (n / 128) (by omega)]
      omega
theorem bl_str (xs : List Int) (h : ∀ x ∈ xs, 0 ≤ x ∧ x < 256) : bl (strOfNums xs) = xs.map Int.toNat := by
  unfold bl
  rw [strOfNums_data, List.map_map]
  apply List.map_congr_left
  intro x hx
  have := h x hx
  simp only [Function.comp, UInt8.toNat_ofNat']
  omega
theorem bl_append (s t : ByteArray) : bl (s ++ t) = bl s ++ bl t := by
  unfold bl
  simp
theorem take_bl (s t : ByteArray) (k : Nat) (h : k ≤ s.size) : (bl (s ++ t)).take k = (bl s).take k := by
  rw [bl_append, List.take_append_of_le_length (by rw [bl_length]; exact h)]
theorem toNat_cast (xs : List Int) (h : ∀ x ∈ xs, 0 ≤ x ∧ x < 256) : (xs.map Int.toNat).map (fun b : Nat => (b : Int)) = xs := by
  rw [List.map_map]
  conv => rhs; rw [← List.map_id xs]
  apply List.map_congr_left
  intro x hx
  have := h x hx
  simp only [Function.comp, id]
  omega
theorem RV_var (n : Nat) (h : n ≤ 562949953421311) (T : ByteArray) : RV (strOfNums (vb n) ++ T) n (vb n).length := by
  have hl := vb_len7 n h
  have hp := vb_pos n
  have hsz : (strOfNums (vb n)).size = (vb n).length := strOfNums_size _
  have htk : ∀ j, j ≤ (vb n).length → (bl (strOfNums (vb n) ++ T)).take j = ((vb n).map Int.toNat).take j := fun j hj => by
    rw [take_bl _ _ _ (by rw [hsz]; exact hj), bl_str _ (vb_byte n)]
  have hall : (bl (strOfNums (vb n) ++ T)).take (vb n).length = (vb n).map Int.toNat := by
    rw [htk _ (Nat.le_refl _), List.take_of_length_le (by simp)]
  have hv : IsVar ((bl (strOfNums (vb n) ++ T)).take (vb n).length) := by
    unfold IsVar
    rw [hall, vval_vb, toNat_cast _ (vb_byte n)]
  have hS : (vb n).length ≤ (strOfNums (vb n) ++ T).size := by rw [ByteArray.size_append, hsz]; omega
  refine Or.inl ⟨by omega, hl, hS, hv, by rw [hall, vval_vb], ?_⟩
  intro j h1 h2 hj
  have g1 := (isVar_take _ _ (by omega) hS).1 hv
  have g2 := (isVar_take _ j h1 (by omega)).1 hj
  have := g1.1 (j - 1) (by omega)
  omega
theorem RV_back (s : ByteArray) (z j : Nat) (h : RV s z j) : j = 0 ∨ (0 < j ∧ j ≤ s.size ∧ ((varS (z : Int)).toList == (s.extract 0 j).toList) = true) := by
  rcases h with ⟨h1, h2, h3, h4, h5, _⟩ | ⟨_, h, _⟩
  · refine Or.inr ⟨by omega, h3, ?_⟩
    have hb := vval_bd ((bl s).take j) (by rw [List.length_take]; omega)
    unfold varS
    rw [if_pos (by omega), Int.toNat_natCast, h5]
    exact (var_eq_iff s j).2 h4
  · exact Or.inl h
theorem varS_in (n : Nat) (h : n ≤ 562949953421311) : varS (n : Int) = strOfNums (vb n) := by unfold varS; rw [if_pos (by omega), Int.toNat_natCast]
theorem varS_out (n : Int) (h : n < 0 ∨ 562949953421311 < n) : varS n = ⟨#[]⟩ := by unfold varS; rw [if_neg (by omega)]
theorem empty_str (xs : List Int) : (strOfNums xs).toList.isEmpty = xs.isEmpty := by rw [ByteArray.toList_eq, strOfNums_data]; simp

/-! ### Fixed -/
/-- The text of Fixed at this width. -/
def fixN (n : Int) (m : Nat) : ByteArray := if 0 ≤ n then fixStr n.toNat m else ⟨#[]⟩
theorem fixN_in (n m : Nat) (h : n < 256 ^ m) : fixN (n : Int) m = strOfNums (low n m) := by unfold fixN fixStr; rw [if_pos (by omega), Int.toNat_natCast, if_pos h]
theorem fixN_size (n : Int) (m : Nat) : (fixN n m).size ≤ m := by
  unfold fixN fixStr
  split
  · split
    · rw [strOfNums_size, low_length]; exact Nat.le_refl _
    · exact Nat.zero_le _
  · exact Nat.zero_le _
theorem byteAt_append (s t : ByteArray) (k : Nat) (h : k < s.size) : byteAt (s ++ t) k = byteAt s k := by
  have h2 : k < (s ++ t).size := by rw [ByteArray.size_append]; omega
  have e1 := bl_get (s ++ t) k h2
  have e2 := bl_get s k h
  rw [bl_append, List.getElem?_append_left (by rw [bl_length]; exact h), e2] at e1
  rw [byteAt_eq _ _ h2, byteAt_eq _ _ h]
  simpa using e1.symm
theorem byteAt_str (xs : List Int) (hx : ∀ x ∈ xs, 0 ≤ x ∧ x < 256) (k : Nat) (v : Int) (h : xs[k]? = some v) : byteAt (strOfNums xs) k = v.toNat := by
  have hk : k < xs.length := by
    rcases Nat.lt_or_ge k xs.length with h' | h'
    · exact h'
    · rw [List.getElem?_eq_none h'] at h; simp at h
  have hs : k < (strOfNums xs).size := by rw [strOfNums_size]; exact hk
  have e := bl_get (strOfNums xs) k hs
  rw [bl_str xs hx, List.getElem?_map, h] at e
  rw [byteAt_eq _ _ hs]
  simpa using e.symm
theorem low_byte (n m : Nat) : ∀ x ∈ low n m, 0 ≤ x ∧ x < 256 := by
  intro x hx
  unfold low at hx
  simp only [List.mem_map] at hx
  obtain ⟨i, _, rfl⟩ := hx
  omega
theorem fixVal_low (n m : Nat) (T : ByteArray) : ∀ k, k ≤ m → fixVal (strOfNums (low n m) ++ T) k = n / 256 ^ (m - k) % 256 ^ k := by
  intro k
  induction k with
  | zero => intro _; simp [fixVal, Nat.mod_one]
  | succ k ih =>
    intro hk
    rw [fixVal, ih (by omega), byteAt_append _ _ _ (by rw [strOfNums_size, low_length]; omega), byteAt_str _ (low_byte n m) k _ (low_get n m k (by omega)), Int.toNat_natCast]
    have e1 : m - k = (m - (k + 1)) + 1 := by omega
    have e2 : m - 1 - k = m - (k + 1) := by omega
    rw [e1, e2, Nat.pow_succ, ← Nat.div_div_eq_div_mul]
    generalize n / 256 ^ (m - (k + 1)) = q
    rw [Nat.pow_succ 256 k, Nat.mul_comm (256 ^ k) 256, Nat.mod_mul]
    omega
theorem fixVal_m (n m : Nat) (h : n < 256 ^ m) (T : ByteArray) : fixVal (strOfNums (low n m) ++ T) m = n := by
  rw [fixVal_low n m T m (Nat.le_refl _)]
  simp only [Nat.sub_self, Nat.pow_zero, Nat.div_one]
  exact Nat.mod_eq_of_lt h
theorem fixVal_div (s : ByteArray) (j d : Nat) : fixVal s (j + d) / 256 ^ d = fixVal s j := by
  induction d with
  | zero => simp
  | succ d ih =>
    have := byteAt_lt s (j + d)
    rw [show j + (d + 1) = (j + d) + 1 from by omega, fixVal, Nat.pow_succ, Nat.mul_comm (256 ^ d) 256, ← Nat.div_div_eq_div_mul, show (fixVal s (j + d) * 256 + byteAt s (j + d)) / 256 = fixVal s (j + d) from by omega]
    exact ih
theorem bl_inj {s t : ByteArray} (h : bl s = bl t) : s = t := by
  obtain ⟨⟨a⟩⟩ := s
  obtain ⟨⟨b⟩⟩ := t
  unfold bl at h
  have h2 := congrArg (List.map UInt8.ofNat) h
  simp only [List.map_map] at h2
  have e : (UInt8.ofNat ∘ UInt8.toNat) = id := by funext x; simp
  rw [e, List.map_id, List.map_id] at h2
  rw [show a = b from h2]
theorem bl_extract (s : ByteArray) (i j : Nat) : bl (s.extract i j) = ((bl s).take j).drop i := by
  unfold bl
  simp [List.map_take, List.map_drop, List.drop_take]
theorem fix_back (s : ByteArray) (m : Nat) (h : m ≤ s.size) : strOfNums (low (fixVal s m) m) = s.extract 0 m := by
  apply bl_inj
  rw [bl_str _ (low_byte _ _), bl_extract, List.drop_zero]
  apply List.ext_getElem?
  intro k
  by_cases hk : k < m
  · rw [List.getElem?_map, low_get _ _ _ hk, List.getElem?_take, if_pos hk, bl_get s k (by omega)]
    have e := fixVal_div s (k + 1) (m - 1 - k)
    rw [show k + 1 + (m - 1 - k) = m from by omega] at e
    rw [e, fixVal, byteAt_eq s k (by omega)]
    have := UInt8.toNat_lt s[k]
    simp only [Option.map_some, Option.some.injEq, Int.toNat_natCast]
    omega
  · rw [List.getElem?_eq_none (by rw [List.length_map, low_length]; omega), List.getElem?_eq_none (by rw [List.length_take]; omega)]

/-! ### ReadVar as a function -/
def rvFrom (s : ByteArray) : Nat → Nat → Nat × Nat
  | 0, _ => (0, 0)
  | f + 1, j => if j ≤ s.size ∧ vb (vval ((bl s).take j)) = ((bl s).take j).map (fun b : Nat => (b : Int)) then (vval ((bl s).take j), j) else rvFrom s f (j + 1)
/-- What ReadVar tells: the number, and how many bytes it took. -/
def rv (s : ByteArray) : Nat × Nat := rvFrom s 7 1
theorem rvFrom_RV (s : ByteArray) : ∀ f j, j + f = 8 → 1 ≤ j → (∀ i, 1 ≤ i → i < j → i ≤ s.size → ¬ IsVar ((bl s).take i)) → RV s (rvFrom s f j).1 (rvFrom s f j).2
  | 0, j, h, _, ha => Or.inr ⟨rfl, rfl, fun i h1 h2 h3 => ha i h1 (by omega) h3⟩
  | f + 1, j, h, h1, ha => by
    rw [rvFrom]
    split
    · rename_i hc
      refine Or.inl ⟨h1, by omega, hc.1, hc.2, rfl, fun i i1 i2 => ha i i1 i2 (by omega)⟩
    · rename_i hc
      refine rvFrom_RV s f (j + 1) (by omega) (by omega) (fun i i1 i2 i3 => ?_)
      by_cases hij : i < j
      · exact ha i i1 hij i3
      · obtain rfl : i = j := by omega
        exact fun hv => hc ⟨i3, hv⟩
theorem rv_RV (s : ByteArray) : RV s (rv s).1 (rv s).2 := rvFrom_RV s 7 1 rfl (Nat.le_refl _) (fun i h1 h2 => by omega)
theorem rv_of {s : ByteArray} {n k : Nat} (h : RV s n k) : rv s = (n, k) := by
  obtain ⟨h1, h2⟩ := RV_one (rv_RV s) h
  rw [← h1, ← h2]
theorem rv_bd (s : ByteArray) : (rv s).1 ≤ 562949953421311 ∧ (rv s).2 ≤ 7 ∧ (rv s).2 ≤ s.size := by
  rcases rv_RV s with ⟨_, h2, h3, _, h5, _⟩ | ⟨h1, h2, _⟩
  · refine ⟨?_, h2, h3⟩
    rw [h5]
    exact vval_bd _ (by rw [List.length_take]; omega)
  · omega
theorem varS_size_in (n : Nat) (h : n ≤ 562949953421311) : (varS (n : Int)).size = (vb n).length := by rw [varS_in n h, strOfNums_size]
theorem rv_var (n : Nat) (h : n ≤ 562949953421311) (T : ByteArray) : rv (varS (n : Int) ++ T) = (n, (varS (n : Int)).size) := by
  rw [varS_size_in n h, varS_in n h]
  exact rv_of (RV_var n h T)
theorem varS_pos (n : Nat) (h : n ≤ 562949953421311) : 0 < (varS (n : Int)).size := by rw [varS_size_in n h]; exact vb_pos n
theorem ba_split (s : ByteArray) (k : Nat) : s.extract 0 k ++ s.extract k s.size = s := by
  apply bl_inj
  rw [bl_append, bl_extract, bl_extract, List.drop_zero, ← bl_length, List.take_of_length_le (Nat.le_refl _), List.take_append_drop]
theorem ba_drop (A T : ByteArray) : (A ++ T).extract A.size (A ++ T).size = T := by
  apply bl_inj
  rw [bl_extract, List.take_of_length_le (by rw [bl_length]; exact Nat.le_refl _), bl_append, ← bl_length A, List.drop_left]
theorem ba_take (A T : ByteArray) : (A ++ T).extract 0 A.size = A := by
  apply bl_inj
  rw [bl_extract, List.drop_zero, bl_append, ← bl_length A, List.take_left]
theorem ba_len (A : ByteArray) (i j : Nat) (h1 : i ≤ j) (h2 : j ≤ A.size) : (A.extract i j).size = j - i := by
  rw [← bl_length, bl_extract, List.length_drop, List.length_take, bl_length]; omega
theorem rv_back (s : ByteArray) (h : (rv s).2 ≠ 0) : varS ((rv s).1 : Int) = s.extract 0 (rv s).2 := by
  rcases RV_back s _ _ (rv_RV s) with h' | ⟨_, _, h'⟩
  · exact absurd h' h
  · have e : (varS ((rv s).1 : Int)).toList = (s.extract 0 (rv s).2).toList := by simpa using h'
    rw [ByteArray.toList_eq, ByteArray.toList_eq] at e
    generalize varS ((rv s).1 : Int) = a at e ⊢
    generalize s.extract 0 (rv s).2 = b at e ⊢
    obtain ⟨⟨x⟩⟩ := a
    obtain ⟨⟨y⟩⟩ := b
    simp at e
    rw [e]
theorem rv_whole (s : ByteArray) (h : (rv s).2 ≠ 0) : varS ((rv s).1 : Int) ++ s.extract (rv s).2 s.size = s := by
  rw [rv_back s h, ba_split s _]

end Go.Proofs.YtimpokbcfjgdaaaDoor
