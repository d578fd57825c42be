/-
  The round trips of chapter 1, with no Go in sight: what is made of a number is read as it, whatever stands behind; what is made of bytes is read as them.
-/
import Derived.Test.YtelfhodaahpggacDoorVarEq
import Derived.Test.YtelfhodaahpggacDoorVarStr
import Derived.Test.YtelfhodaahpggacDoorFixStr
import Derived.Test.YtelfhodaahpggacDoorDecBase
import Derived.Test.YtelfhodaahpggacDoorPlainDec
import Derived.Test.YtelfhodaahpggacDoorUnhexBase
namespace Go.Proofs.YtelfhodaahpggacDoor
open Go.RowKit
open Plain

/-! ### Var -/
theorem vval_vb (n : Nat) : vval ((vb n).map Int.toNat) = n := by
  induction n using Nat.strongRecOn with
  | ind n ih =>
    by_cases h : n < 128
    · rw [vb_small n h]; simp [vval]; omega
    · rw [vb_big n h, List.map_cons, vval, ih (n / 128) (by omega)]
      omega
theorem bl_str (xs : List Int) (h : ∀ x ∈ xs, 0 ≤ x ∧ x < 256) : bl (strOfNums xs) = xs.map Int.toNat := by
  unfold bl
  rw [strOfNums_data, List.map_map]
  apply List.map_congr_left
  intro x hx
  have := h x hx
  simp only [Function.comp, UInt8.toNat_ofNat']
  omega
theorem bl_append (s t : ByteArray) : bl (s ++ t) = bl s ++ bl t := by
  unfold bl
  simp
theorem take_bl (s t : ByteArray) (k : Nat) (h : k ≤ s.size) : (bl (s ++ t)).take k = (bl s).take k := by
  rw [bl_append, List.take_append_of_le_length (by rw [bl_length]; exact h)]
theorem toNat_cast (xs : List Int) (h : ∀ x ∈ xs, 0 ≤ x ∧ x < 256) : (xs.map Int.toNat).map (fun b : Nat => (b : Int)) = xs := by
  rw [List.map_map]
  conv => rhs; rw [← List.map_id xs]
  apply List.map_congr_left
  intro x hx
  have := h x hx
  simp only [Function.comp, id]
  omega
theorem RV_var (n : Nat) (h : n ≤ 562949953421311) (T : ByteArray) : RV (strOfNums (vb n) ++ T) n (vb n).length := by
  have hl := vb_len7 n h
  have hp := vb_pos n
  have hsz : (strOfNums (vb n)).size = (vb n).length := strOfNums_size _
  have htk : ∀ j, j ≤ (vb n).length → (bl (strOfNums (vb n) ++ T)).take j = ((vb n).map Int.toNat).take j := fun j hj => by
    rw [take_bl _ _ _ (by rw [hsz]; exact hj), bl_str _ (vb_byte n)]
  have hall : (bl (strOfNums (vb n) ++ T)).take (vb n).length = (vb n).map Int.toNat := by
    rw [htk _ (Nat.le_refl _), List.take_of_length_le (by simp)]
  have hv : IsVar ((bl (strOfNums (vb n) ++ T)).take (vb n).length) := by
    unfold IsVar
    rw [hall, vval_vb, toNat_cast _ (vb_byte n)]
  have hS : (vb n).length ≤ (strOfNums (vb n) ++ T).size := by rw [ByteArray.size_append, hsz]; omega
  refine Or.inl ⟨by omega, hl, hS, hv, by rw [hall, vval_vb], ?_⟩
  intro j h1 h2 hj
  have g1 := (isVar_take _ _ (by omega) hS).1 hv
  have g2 := (isVar_take _ j h1 (by omega)).1 hj
  have := g1.1 (j - 1) (by omega)
  omega
theorem RV_back (s : ByteArray) (z j : Nat) (h : RV s z j) : j = 0 ∨ (0 < j ∧ j ≤ s.size ∧ ((varS (z : Int)).toList == (s.extract 0 j).toList) = true) := by
  rcases h with ⟨h1, h2, h3, h4, h5, _⟩ | ⟨_, h, _⟩
  · refine Or.inr ⟨by omega, h3, ?_⟩
    have hb := vval_bd ((bl s).take j) (by rw [List.length_take]; omega)
    unfold varS
    rw [if_pos (by omega), Int.toNat_natCast, h5]
    exact (var_eq_iff s j).2 h4
  · exact Or.inl h
theorem varS_in (n : Nat) (h : n ≤ 562949953421311) : varS (n : Int) = strOfNums (vb n) := by unfold varS; rw [if_pos (by omega), Int.toNat_natCast]
theorem varS_out (n : Int) (h : n < 0 ∨ 562949953421311 < n) : varS n = ⟨#[]⟩ := by unfold varS; rw [if_neg (by omega)]
theorem empty_str (xs : List Int) : (strOfNums xs).toList.isEmpty = xs.isEmpty := by rw [ByteArray.toList_eq, strOfNums_data]; simp

/-! ### Fixed -/
def fixS (n : Int) : ByteArray := if 0 ≤ n then fixStr n.toNat 7 else ⟨#[]⟩
theorem byteAt_append (s t : ByteArray) (k : Nat) (h : k < s.size) : byteAt (s ++ t) k = byteAt s k := by
  have h2 : k < (s ++ t).size := by rw [ByteArray.size_append]; omega
  have e1 := bl_get (s ++ t) k h2
  have e2 := bl_get s k h
  rw [bl_append, List.getElem?_append_left (by rw [bl_length]; exact h), e2] at e1
  rw [byteAt_eq _ _ h2, byteAt_eq _ _ h]
  simpa using e1.symm
theorem byteAt_str (xs : List Int) (hx : ∀ x ∈ xs, 0 ≤ x ∧ x < 256) (k : Nat) (v : Int) (h : xs[k]? = some v) : byteAt (strOfNums xs) k = v.toNat := by
  have hk : k < xs.length := by
    rcases Nat.lt_or_ge k xs.length with h' | h'
    · exact h'
    · rw [List.getElem?_eq_none h'] at h; simp at h
  have hs : k < (strOfNums xs).size := by rw [strOfNums_size]; exact hk
  have e := bl_get (strOfNums xs) k hs
  rw [bl_str xs hx, List.getElem?_map, h] at e
  rw [byteAt_eq _ _ hs]
  simpa using e.symm
theorem low_byte (n m : Nat) : ∀ x ∈ low n m, 0 ≤ x ∧ x < 256 := by
  intro x hx
  unfold low at hx
  simp only [List.mem_map] at hx
  obtain ⟨i, _, rfl⟩ := hx
  omega
theorem fixVal_low (n m : Nat) (T : ByteArray) : ∀ k, k ≤ m → fixVal (strOfNums (low n m) ++ T) k = n / 256 ^ (m - k) % 256 ^ k := by
  intro k
  induction k with
  | zero => intro _; simp [fixVal, Nat.mod_one]
  | succ k ih =>
    intro hk
    rw [fixVal, ih (by omega), byteAt_append _ _ _ (by rw [strOfNums_size, low_length]; omega), byteAt_str _ (low_byte n m) k _ (low_get n m k (by omega)), Int.toNat_natCast]
    have e1 : m - k = (m - (k + 1)) + 1 := by omega
    have e2 : m - 1 - k = m - (k + 1) := by omega
    rw [e1, e2, Nat.pow_succ, ← Nat.div_div_eq_div_mul]
    generalize n / 256 ^ (m - (k + 1)) = q
    rw [Nat.pow_succ 256 k, Nat.mul_comm (256 ^ k) 256, Nat.mod_mul]
    omega
theorem fixVal_7 (n : Nat) (h : n < 256 ^ 7) (T : ByteArray) : fixVal (strOfNums (low n 7) ++ T) 7 = n := by
  rw [fixVal_low n 7 T 7 (Nat.le_refl _)]
  simp only [Nat.sub_self, Nat.pow_zero, Nat.div_one]
  exact Nat.mod_eq_of_lt h

/-! ### Dec -/
theorem DA_itoa (n d : Int) (ok : Bool) (h : DA (itoaS n) d ok) : ((-1000000000 < n ∧ n < 1000000000) → ok = true ∧ d = n) ∧ (¬ (-1000000000 < n ∧ n < 1000000000) → ok = false) := by
  have e : (itoaS n).data.toList = Lib.itoa n := by unfold itoaS; simp
  constructor
  · intro hn
    have h2 : DA (itoaS n) n true := Or.inl ⟨rfl, e.symm, by omega, by omega⟩
    have := DA_one h h2
    exact ⟨this.2, this.1⟩
  · intro hn
    rcases h with ⟨_, h1, h2, h3⟩ | ⟨h1, _⟩
    · exfalso
      rw [e] at h1
      have h4 := atoi_itoa d
      rw [h1, atoi_itoa] at h4
      have : n = d := Option.some.inj h4
      omega
    · exact h1

/-! ### Hex -/
theorem fh_dg (k : Nat) (h : k < 16) : fh (dg k).toNat = (k : Int) := by
  apply fh_hit _ _ h
  unfold dg
  split <;> omega
theorem dg_bd (k : Nat) (h : k < 16) : 0 ≤ dg k ∧ dg k < 256 := by
  unfold dg
  split <;> omega
theorem hx_byte (l : List Nat) (h : ∀ b ∈ l, b < 256) : ∀ x ∈ hx l, 0 ≤ x ∧ x < 256 := by
  induction l with
  | nil => intro x hx; simp [Go.Proofs.YtelfhodaahpggacDoor.hx] at hx
  | cons b r ih =>
    intro x hx
    have hb := h b (by simp)
    simp only [Go.Proofs.YtelfhodaahpggacDoor.hx, List.mem_cons] at hx
    rcases hx with rfl | rfl | hx
    · exact dg_bd _ (by omega)
    · exact dg_bd _ (by omega)
    · exact ih (fun c hc => h c (by simp [hc])) x hx
theorem hx_get (l : List Nat) : ∀ i b, l[i]? = some b → (hx l)[2 * i]? = some (dg (b / 16)) ∧ (hx l)[2 * i + 1]? = some (dg (b % 16)) := by
  induction l with
  | nil => intro i b h; simp at h
  | cons c r ih =>
    intro i b h
    cases i with
    | zero =>
      simp only [List.getElem?_cons_zero, Option.some.injEq] at h
      subst h
      simp [Go.Proofs.YtelfhodaahpggacDoor.hx]
    | succ i =>
      have := ih i b (by simpa using h)
      rw [show 2 * (i + 1) = 2 * i + 1 + 1 from by omega]
      simp only [Go.Proofs.YtelfhodaahpggacDoor.hx, List.getElem?_cons_succ]
      exact this
theorem UX_hex (T : ByteArray) : UX (strOfNums (hx (bl T))) T true := by
  have hbl : ∀ b ∈ bl T, b < 256 := by
    intro b hb
    have := bl_lt T (bl T).length b (by rw [List.take_length]; exact hb)
    exact this
  have hS : (strOfNums (hx (bl T))).size = 2 * T.size := by rw [strOfNums_size, hx_length, bl_length]
  have hg : ∀ i b, (bl T)[i]? = some b → (bl (strOfNums (hx (bl T)))).getD (2 * i) 0 = (dg (b / 16)).toNat ∧ (bl (strOfNums (hx (bl T)))).getD (2 * i + 1) 0 = (dg (b % 16)).toNat := by
    intro i b h
    have := hx_get (bl T) i b h
    rw [bl_str _ (hx_byte _ hbl)]
    simp [List.getD, this.1, this.2]
  refine Or.inr ⟨rfl, ?_, ?_, ?_⟩
  · rw [hS, show 2 * T.size / 2 = T.size from by omega]
    have e : uo (strOfNums (hx (bl T))) T.size = (bl T).map (fun b : Nat => (b : Int)) := by
      apply List.ext_getElem?
      intro i
      unfold uo
      rw [List.getElem?_map, List.getElem?_map]
      by_cases hi : i < T.size
      · have hl : i < (bl T).length := by rw [bl_length]; exact hi
        rw [List.getElem?_range hi, List.getElem?_eq_getElem hl]
        have hb := hbl _ (List.getElem_mem hl)
        have := hg i _ (List.getElem?_eq_getElem hl)
        simp only [Option.map_some]
        rw [this.1, this.2, fh_dg _ (by omega), fh_dg _ (by omega)]
        congr 1
        omega
      · rw [List.getElem?_eq_none (by simp; omega), List.getElem?_eq_none (by rw [bl_length]; omega)]
        rfl
    rw [e]
    unfold strOfNums bl
    rw [List.map_map, List.map_map]
    have : ∀ x ∈ T.data.toList, (((fun n : Int => UInt8.ofNat n.toNat) ∘ fun b : Nat => (b : Int)) ∘ UInt8.toNat) x = x := by
      intro x _
      simp
    rw [List.map_congr_left this]
    simp
  · rw [hS]; omega
  · intro j hj
    rw [hS] at hj
    have hi : j / 2 < (bl T).length := by rw [bl_length]; omega
    have hb := hbl _ (List.getElem_mem hi)
    have := hg (j / 2) _ (List.getElem?_eq_getElem hi)
    by_cases hp : j % 2 = 0
    · rw [show j = 2 * (j / 2) from by omega, this.1, fh_dg _ (by omega)]; omega
    · rw [show j = 2 * (j / 2) + 1 from by omega, this.2, fh_dg _ (by omega)]; omega

end Go.Proofs.YtelfhodaahpggacDoor
