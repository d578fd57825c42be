/-
  When the text of Var is a beginning of another text. The text of Var. The text of Fixed. The round trips of Var and of Fixed, with no Go in sight: what is made of a number is read as it, whatever stands behind, and only that; what ReadVar tells of a text, as a function. The texts of records, with no Go in sight: what ShowRec makes, and how such a text is read back, piece by piece. Plain facts on the sum of chapter 2, with no Go in sight: one halving is linear over exclusive or, a table of sixteen makes four halvings, and no other bytes within four in a row have the same sum. Frames with no Go in sight: what Frame makes, and with whose frame a text begins. A directory in plain words: an entry of a key, a directory without a key, an entry put into its place.
-/
import Derived.Test.YtimpokbcfjgdaaaDoorG00
import Derived.Laws.Cover1
namespace Go.Proofs.YtimpokbcfjgdaaaDoor
open Go.RowKit
open Plain

theorem vval_drop (l : List Nat) (t b : Nat) (h : l[t]? = some b) : vval (l.drop t) = b % 128 + 128 * vval (l.drop (t + 1)) := by
  have ht : t < l.length := by
    rcases Nat.lt_or_ge t l.length with h' | h'
    · exact h'
    · rw [List.getElem?_eq_none h'] at h; simp at h
  rw [List.drop_eq_getElem_cons ht, vval]
  rw [List.getElem?_eq_getElem ht] at h
  simp at h
  rw [h]
theorem vb_byte (n : Nat) : ∀ x ∈ vb n, 0 ≤ x ∧ x < 256 := by
  induction n using Nat.strongRecOn with
  | ind n ih =>
    intro x hx
    by_cases h : n < 128
    · rw [vb_small n h] at hx
      simp at hx
      omega
    · rw [vb_big n h] at hx
      simp only [List.mem_cons] at hx
      rcases hx with rfl | hx
      · omega
      · exact ih (n / 128) (by omega) x hx
theorem var_eq_iff (s : ByteArray) (k : Nat) : ((strOfNums (vb (vval ((bl s).take k)))).toList == (s.extract 0 k).toList) = true ↔ IsVar ((bl s).take k) := by
  have e1 : (strOfNums (vb (vval ((bl s).take k)))).toList = (vb (vval ((bl s).take k))).map fun n => UInt8.ofNat n.toNat := by rw [ByteArray.toList_eq]; rfl
  have e2 : (s.extract 0 k).toList = s.data.toList.take k := by
    rw [ByteArray.toList_eq]
    simp
  rw [e1, e2, beq_iff_eq]
  have e3 : ((bl s).take k).map (fun b : Nat => (b : Int)) = (s.data.toList.take k).map (fun b : UInt8 => ((b.toNat : Nat) : Int)) := by
    rw [bl, ← List.map_take, List.map_map]; rfl
  unfold IsVar
  rw [e3]
  constructor
  · intro h
    rw [← h, List.map_map]
    have : ∀ x ∈ vb (vval ((bl s).take k)), ((fun b : UInt8 => ((b.toNat : Nat) : Int)) ∘ fun n : Int => UInt8.ofNat n.toNat) x = x := by
      intro x hx
      have := vb_byte _ x hx
      simp only [Function.comp, UInt8.toNat_ofNat']
      omega
    rw [List.map_congr_left this]
    simp
  · intro h
    rw [h, List.map_map]
    have : ∀ x ∈ s.data.toList.take k, ((fun n : Int => UInt8.ofNat n.toNat) ∘ fun b : UInt8 => ((b.toNat : Nat) : Int)) x = x := by
      intro x _
      simp
    rw [List.map_congr_left this]
    simp

end Go.Proofs.YtimpokbcfjgdaaaDoor
namespace Go.Proofs.YtimpokbcfjgdaaaDoor
open Go.RowKit
open Plain

/-- The text of Var. -/
def varS (n : Int) : ByteArray := if 0 ≤ n ∧ n ≤ 562949953421311 then strOfNums (vb n.toNat) else ⟨#[]⟩
theorem varS_size (n : Int) : (varS n).size ≤ 7 := by
  unfold varS
  split
  · rename_i h
    rw [strOfNums_size]
    exact vb_len7 _ (by omega)
  · decide

end Go.Proofs.YtimpokbcfjgdaaaDoor
namespace Go.Proofs.YtimpokbcfjgdaaaDoor
open Go.RowKit
open Plain

def fixStr (n m : Nat) : ByteArray := if n < 256 ^ m then strOfNums (low n m) else ⟨#[]⟩

end Go.Proofs.YtimpokbcfjgdaaaDoor
namespace Go.Proofs.YtimpokbcfjgdaaaDoor
open Go.RowKit
open Plain

/-! ### Var -/
theorem vval_vb (n : Nat) : vval ((vb n).map Int.toNat) = n := by
  induction n using Nat.strongRecOn with
  | ind n ih =>
    by_cases h : n < 128
    · rw [vb_small n h]; simp [vval]; omega
    · rw [vb_big n h, List.map_cons, vval, ih (n / 128) (by omega)]
      omega
theorem bl_str (xs : List Int) (h : ∀ x ∈ xs, 0 ≤ x ∧ x < 256) : bl (strOfNums xs) = xs.map Int.toNat := by
  unfold bl
  rw [strOfNums_data, List.map_map]
  apply List.map_congr_left
  intro x hx
  have := h x hx
  simp only [Function.comp, UInt8.toNat_ofNat']
  omega
theorem bl_append (s t : ByteArray) : bl (s ++ t) = bl s ++ bl t := by
  unfold bl
  simp
theorem take_bl (s t : ByteArray) (k : Nat) (h : k ≤ s.size) : (bl (s ++ t)).take k = (bl s).take k := by
  rw [bl_append, List.take_append_of_le_length (by rw [bl_length]; exact h)]
theorem toNat_cast (xs : List Int) (h : ∀ x ∈ xs, 0 ≤ x ∧ x < 256) : (xs.map Int.toNat).map (fun b : Nat => (b : Int)) = xs := by
  rw [List.map_map]
  conv => rhs; rw [← List.map_id xs]
  apply List.map_congr_left
  intro x hx
  have := h x hx
  simp only [Function.comp, id]
  omega
theorem RV_var (n : Nat) (h : n ≤ 562949953421311) (T : ByteArray) : RV (strOfNums (vb n) ++ T) n (vb n).length := by
  have hl := vb_len7 n h
  have hp := vb_pos n
  have hsz : (strOfNums (vb n)).size = (vb n).length := strOfNums_size _
  have htk : ∀ j, j ≤ (vb n).length → (bl (strOfNums (vb n) ++ T)).take j = ((vb n).map Int.toNat).take j := fun j hj => by
    rw [take_bl _ _ _ (by rw [hsz]; exact hj), bl_str _ (vb_byte n)]
  have hall : (bl (strOfNums (vb n) ++ T)).take (vb n).length = (vb n).map Int.toNat := by
    rw [htk _ (Nat.le_refl _), List.take_of_length_le (by simp)]
  have hv : IsVar ((bl (strOfNums (vb n) ++ T)).take (vb n).length) := by
    unfold IsVar
    rw [hall, vval_vb, toNat_cast _ (vb_byte n)]
  have hS : (vb n).length ≤ (strOfNums (vb n) ++ T).size := by rw [ByteArray.size_append, hsz]; omega
  refine Or.inl ⟨by omega, hl, hS, hv, by rw [hall, vval_vb], ?_⟩
  intro j h1 h2 hj
  have g1 := (isVar_take _ _ (by omega) hS).1 hv
  have g2 := (isVar_take _ j h1 (by omega)).1 hj
  have := g1.1 (j - 1) (by omega)
  omega
theorem RV_back (s : ByteArray) (z j : Nat) (h : RV s z j) : j = 0 ∨ (0 < j ∧ j ≤ s.size ∧ ((varS (z : Int)).toList == (s.extract 0 j).toList) = true) := by
  rcases h with ⟨h1, h2, h3, h4, h5, _⟩ | ⟨_, h, _⟩
  · refine Or.inr ⟨by omega, h3, ?_⟩
    have hb := vval_bd ((bl s).take j) (by rw [List.length_take]; omega)
    unfold varS
    rw [if_pos (by omega), Int.toNat_natCast, h5]
    exact (var_eq_iff s j).2 h4
  · exact Or.inl h
theorem varS_in (n : Nat) (h : n ≤ 562949953421311) : varS (n : Int) = strOfNums (vb n) := by unfold varS; rw [if_pos (by omega), Int.toNat_natCast]
theorem varS_out (n : Int) (h : n < 0 ∨ 562949953421311 < n) : varS n = ⟨#[]⟩ := by unfold varS; rw [if_neg (by omega)]
theorem empty_str (xs : List Int) : (strOfNums xs).toList.isEmpty = xs.isEmpty := by rw [ByteArray.toList_eq, strOfNums_data]; simp

/-! ### Fixed -/
/-- The text of Fixed at this width. -/
def fixN (n : Int) (m : Nat) : ByteArray := if 0 ≤ n then fixStr n.toNat m else ⟨#[]⟩
theorem fixN_in (n m : Nat) (h : n < 256 ^ m) : fixN (n : Int) m = strOfNums (low n m) := by unfold fixN fixStr; rw [if_pos (by omega), Int.toNat_natCast, if_pos h]
theorem fixN_size (n : Int) (m : Nat) : (fixN n m).size ≤ m := by
  unfold fixN fixStr
  split
  · split
    · rw [strOfNums_size, low_length]; exact Nat.le_refl _
    · exact Nat.zero_le _
  · exact Nat.zero_le _
theorem byteAt_append (s t : ByteArray) (k : Nat) (h : k < s.size) : byteAt (s ++ t) k = byteAt s k := by
  have h2 : k < (s ++ t).size := by rw [ByteArray.size_append]; omega
  have e1 := bl_get (s ++ t) k h2
  have e2 := bl_get s k h
  rw [bl_append, List.getElem?_append_left (by rw [bl_length]; exact h), e2] at e1
  rw [byteAt_eq _ _ h2, byteAt_eq _ _ h]
  simpa using e1.symm
theorem byteAt_str (xs : List Int) (hx : ∀ x ∈ xs, 0 ≤ x ∧ x < 256) (k : Nat) (v : Int) (h : xs[k]? = some v) : byteAt (strOfNums xs) k = v.toNat := by
  have hk : k < xs.length := by
    rcases Nat.lt_or_ge k xs.length with h' | h'
    · exact h'
    · rw [List.getElem?_eq_none h'] at h; simp at h
  have hs : k < (strOfNums xs).size := by rw [strOfNums_size]; exact hk
  have e := bl_get (strOfNums xs) k hs
  rw [bl_str xs hx, List.getElem?_map, h] at e
  rw [byteAt_eq _ _ hs]
  simpa using e.symm
theorem low_byte (n m : Nat) : ∀ x ∈ low n m, 0 ≤ x ∧ x < 256 := by
  intro x hx
  unfold low at hx
  simp only [List.mem_map] at hx
  obtain ⟨i, _, rfl⟩ := hx
  omega
theorem fixVal_low (n m : Nat) (T : ByteArray) : ∀ k, k ≤ m → fixVal (strOfNums (low n m) ++ T) k = n / 256 ^ (m - k) % 256 ^ k := by
  intro k
  induction k with
  | zero => intro _; simp [fixVal, Nat.mod_one]
  | succ k ih =>
    intro hk
    rw [fixVal, ih (by omega), byteAt_append _ _ _ (by rw [strOfNums_size, low_length]; omega), byteAt_str _ (low_byte n m) k _ (low_get n m k (by omega)), Int.toNat_natCast]
    have e1 : m - k = (m - (k + 1)) + 1 := by omega
    have e2 : m - 1 - k = m - (k + 1) := by omega
    rw [e1, e2, Nat.pow_succ, ← Nat.div_div_eq_div_mul]
    generalize n / 256 ^ (m - (k + 1)) = q
    rw [Nat.pow_succ 256 k, Nat.mul_comm (256 ^ k) 256, Nat.mod_mul]
    omega
theorem fixVal_m (n m : Nat) (h : n < 256 ^ m) (T : ByteArray) : fixVal (strOfNums (low n m) ++ T) m = n := by
  rw [fixVal_low n m T m (Nat.le_refl _)]
  simp only [Nat.sub_self, Nat.pow_zero, Nat.div_one]
  exact Nat.mod_eq_of_lt h
theorem fixVal_div (s : ByteArray) (j d : Nat) : fixVal s (j + d) / 256 ^ d = fixVal s j := by
  induction d with
  | zero => simp
  | succ d ih =>
    have := byteAt_lt s (j + d)
    rw [show j + (d + 1) = (j + d) + 1 from by omega, fixVal, Nat.pow_succ, Nat.mul_comm (256 ^ d) 256, ← Nat.div_div_eq_div_mul, show (fixVal s (j + d) * 256 + byteAt s (j + d)) / 256 = fixVal s (j + d) from by omega]
    exact ih
theorem bl_inj {s t : ByteArray} (h : bl s = bl t) : s = t := by
  obtain ⟨⟨a⟩⟩ := s
  obtain ⟨⟨b⟩⟩ := t
  unfold bl at h
  have h2 := congrArg (List.map UInt8.ofNat) h
  simp only [List.map_map] at h2
  have e : (UInt8.ofNat ∘ UInt8.toNat) = id := by funext x; simp
  rw [e, List.map_id, List.map_id] at h2
  rw [show a = b from h2]
theorem bl_extract (s : ByteArray) (i j : Nat) : bl (s.extract i j) = ((bl s).take j).drop i := by
  unfold bl
  simp [List.map_take, List.map_drop, List.drop_take]
theorem fix_back (s : ByteArray) (m : Nat) (h : m ≤ s.size) : strOfNums (low (fixVal s m) m) = s.extract 0 m := by
  apply bl_inj
  rw [bl_str _ (low_byte _ _), bl_extract, List.drop_zero]
  apply List.ext_getElem?
  intro k
  by_cases hk : k < m
  · rw [List.getElem?_map, low_get _ _ _ hk, List.getElem?_take, if_pos hk, bl_get s k (by omega)]
    have e := fixVal_div s (k + 1) (m - 1 - k)
    rw [show k + 1 + (m - 1 - k) = m from by omega] at e
    rw [e, fixVal, byteAt_eq s k (by omega)]
    have := UInt8.toNat_lt s[k]
    simp only [Option.map_some, Option.some.injEq, Int.toNat_natCast]
    omega
  · rw [List.getElem?_eq_none (by rw [List.length_map, low_length]; omega), List.getElem?_eq_none (by rw [List.length_take]; omega)]

/-! ### ReadVar as a function -/
def rvFrom (s : ByteArray) : Nat → Nat → Nat × Nat
  | 0, _ => (0, 0)
  | f + 1, j => if j ≤ s.size ∧ vb (vval ((bl s).take j)) = ((bl s).take j).map (fun b : Nat => (b : Int)) then (vval ((bl s).take j), j) else rvFrom s f (j + 1)
/-- What ReadVar tells: the number, and how many bytes it took. -/
def rv (s : ByteArray) : Nat × Nat := rvFrom s 7 1
theorem rvFrom_RV (s : ByteArray) : ∀ f j, j + f = 8 → 1 ≤ j → (∀ i, 1 ≤ i → i < j → i ≤ s.size → ¬ IsVar ((bl s).take i)) → RV s (rvFrom s f j).1 (rvFrom s f j).2
  | 0, j, h, _, ha => Or.inr ⟨rfl, rfl, fun i h1 h2 h3 => ha i h1 (by omega) h3⟩
  | f + 1, j, h, h1, ha => by
    rw [rvFrom]
    split
    · rename_i hc
      refine Or.inl ⟨h1, by omega, hc.1, hc.2, rfl, fun i i1 i2 => ha i i1 i2 (by omega)⟩
    · rename_i hc
      refine rvFrom_RV s f (j + 1) (by omega) (by omega) (fun i i1 i2 i3 => ?_)
      by_cases hij : i < j
      · exact ha i i1 hij i3
      · obtain rfl : i = j := by omega
        exact fun hv => hc ⟨i3, hv⟩
theorem rv_RV (s : ByteArray) : RV s (rv s).1 (rv s).2 := rvFrom_RV s 7 1 rfl (Nat.le_refl _) (fun i h1 h2 => by omega)
theorem rv_of {s : ByteArray} {n k : Nat} (h : RV s n k) : rv s = (n, k) := by
  obtain ⟨h1, h2⟩ := RV_one (rv_RV s) h
  rw [← h1, ← h2]
theorem rv_bd (s : ByteArray) : (rv s).1 ≤ 562949953421311 ∧ (rv s).2 ≤ 7 ∧ (rv s).2 ≤ s.size := by
  rcases rv_RV s with ⟨_, h2, h3, _, h5, _⟩ | ⟨h1, h2, _⟩
  · refine ⟨?_, h2, h3⟩
    rw [h5]
    exact vval_bd _ (by rw [List.length_take]; omega)
  · omega
theorem varS_size_in (n : Nat) (h : n ≤ 562949953421311) : (varS (n : Int)).size = (vb n).length := by rw [varS_in n h, strOfNums_size]
theorem rv_var (n : Nat) (h : n ≤ 562949953421311) (T : ByteArray) : rv (varS (n : Int) ++ T) = (n, (varS (n : Int)).size) := by
  rw [varS_size_in n h, varS_in n h]
  exact rv_of (RV_var n h T)
theorem varS_pos (n : Nat) (h : n ≤ 562949953421311) : 0 < (varS (n : Int)).size := by rw [varS_size_in n h]; exact vb_pos n
theorem ba_split (s : ByteArray) (k : Nat) : s.extract 0 k ++ s.extract k s.size = s := by
  apply bl_inj
  rw [bl_append, bl_extract, bl_extract, List.drop_zero, ← bl_length, List.take_of_length_le (Nat.le_refl _), List.take_append_drop]
theorem ba_drop (A T : ByteArray) : (A ++ T).extract A.size (A ++ T).size = T := by
  apply bl_inj
  rw [bl_extract, List.take_of_length_le (by rw [bl_length]; exact Nat.le_refl _), bl_append, ← bl_length A, List.drop_left]
theorem ba_take (A T : ByteArray) : (A ++ T).extract 0 A.size = A := by
  apply bl_inj
  rw [bl_extract, List.drop_zero, bl_append, ← bl_length A, List.take_left]
theorem ba_len (A : ByteArray) (i j : Nat) (h1 : i ≤ j) (h2 : j ≤ A.size) : (A.extract i j).size = j - i := by
  rw [← bl_length, bl_extract, List.length_drop, List.length_take, bl_length]; omega
theorem rv_back (s : ByteArray) (h : (rv s).2 ≠ 0) : varS ((rv s).1 : Int) = s.extract 0 (rv s).2 := by
  rcases RV_back s _ _ (rv_RV s) with h' | ⟨_, _, h'⟩
  · exact absurd h' h
  · have e : (varS ((rv s).1 : Int)).toList = (s.extract 0 (rv s).2).toList := by simpa using h'
    rw [ByteArray.toList_eq, ByteArray.toList_eq] at e
    generalize varS ((rv s).1 : Int) = a at e ⊢
    generalize s.extract 0 (rv s).2 = b at e ⊢
    obtain ⟨⟨x⟩⟩ := a
    obtain ⟨⟨y⟩⟩ := b
    simp at e
    rw [e]
theorem rv_whole (s : ByteArray) (h : (rv s).2 ≠ 0) : varS ((rv s).1 : Int) ++ s.extract (rv s).2 s.size = s := by
  rw [rv_back s h, ba_split s _]

end Go.Proofs.YtimpokbcfjgdaaaDoor
namespace Go.Proofs.YtimpokbcfjgdaaaDoor
open Go.RowKit
open Plain

/-- A text with its length ahead. -/
def textS (s : ByteArray) : ByteArray := varS (s.size : Int) ++ s
/-- A count and a sum. -/
def totS (c s : Int) : ByteArray := varS c ++ fixN s 4
/-- What follows kind and batch. -/
def bodyS (k : Int) (key val : ByteArray) (c s : Int) : ByteArray :=
  if k = 1 ∨ k = 4 then textS key ++ textS val else if k = 2 then textS key else totS c s
def showN (k b : Int) (key val : ByteArray) (c s : Int) : ByteArray :=
  if okN k b key.size val.size c s = true then varS k ++ varS b ++ bodyS k key val c s else ⟨#[]⟩
/-- What ShowRec makes. -/
def showS (r : RecV) : ByteArray := showN r.kind r.batch r.key r.val r.cnt r.sum
def zeroR : RecV := ⟨0, 0, ⟨#[]⟩, ⟨#[]⟩, 0, 0⟩

/-! ### A piece at a time -/
/-- What is left behind a number. -/
def numT (s : ByteArray) : ByteArray := s.extract (rv s).2 s.size
theorem numT_var (n : Nat) (h : n ≤ 562949953421311) (T : ByteArray) : numT (varS (n : Int) ++ T) = T := by
  unfold numT
  rw [rv_var n h T]
  exact ba_drop _ _
theorem numT_whole (s : ByteArray) (h : (rv s).2 ≠ 0) : varS ((rv s).1 : Int) ++ numT s = s := rv_whole s h
theorem numT_size (s : ByteArray) : (numT s).size = s.size - (rv s).2 := ba_len _ _ _ (rv_bd s).2.2 (Nat.le_refl _)

/-- The text of which the length stands ahead; nothing where it goes past the end. -/
def txtV (s : ByteArray) : ByteArray := if (numT s).size < (rv s).1 then ⟨#[]⟩ else (numT s).extract 0 (rv s).1
def txtR (s : ByteArray) : ByteArray := if (numT s).size < (rv s).1 then numT s else (numT s).extract (rv s).1 (numT s).size
def txtF (s : ByteArray) : Bool := decide ((rv s).2 = 0 ∨ (numT s).size < (rv s).1)
theorem txt_text (t T : ByteArray) (h : t.size ≤ 562949953421311) : txtV (textS t ++ T) = t ∧ txtR (textS t ++ T) = T ∧ txtF (textS t ++ T) = false := by
  have e : textS t ++ T = varS (t.size : Int) ++ (t ++ T) := by unfold textS; rw [ByteArray.append_assoc]
  have h1 := rv_var t.size h (t ++ T)
  have h2 := numT_var t.size h (t ++ T)
  have h3 : ¬ (t ++ T).size < t.size := by rw [ByteArray.size_append]; omega
  have h4 := varS_pos t.size h
  unfold txtV txtR txtF
  rw [e, h1, h2]
  refine ⟨?_, ?_, ?_⟩
  · rw [if_neg h3]; exact ba_take _ _
  · rw [if_neg h3]; exact ba_drop _ _
  · apply decide_eq_false
    rintro (h | h)
    · simp only at h; omega
    · exact h3 h
theorem txt_back (s : ByteArray) (h : txtF s = false) : textS (txtV s) ++ txtR s = s := by
  have h' := of_decide_eq_false h
  have h1 : (rv s).2 ≠ 0 := fun e => h' (Or.inl e)
  have h2 : ¬ (numT s).size < (rv s).1 := fun e => h' (Or.inr e)
  unfold textS txtV txtR
  rw [if_neg h2, if_neg h2, ba_len _ _ _ (Nat.zero_le _) (by omega), Nat.sub_zero, ByteArray.append_assoc, ba_split, numT_whole s h1]
theorem txtV_size (s : ByteArray) : (txtV s).size ≤ s.size := by
  unfold txtV
  split
  · exact Nat.zero_le _
  · rw [ba_len _ _ _ (Nat.zero_le _) (by omega)]
    have := numT_size s
    omega
theorem txtR_size (s : ByteArray) : (txtR s).size ≤ s.size := by
  have h1 := numT_size s
  unfold txtR
  split
  · omega
  · rw [ba_len _ _ _ (by omega) (Nat.le_refl _)]
    omega

/-- Four bytes that tell a sum. -/
def sumV (s : ByteArray) : Nat := if 4 ≤ s.size then fixVal s 4 else 0
def sumR (s : ByteArray) : ByteArray := if 4 ≤ s.size then s.extract 4 s.size else s
def sumF (s : ByteArray) : Bool := decide (s.size < 4)
theorem p32 : (256 : Nat) ^ 4 = 4294967296 := by decide
theorem sum_fix (n : Nat) (h : n ≤ 4294967295) (T : ByteArray) : sumV (fixN (n : Int) 4 ++ T) = n ∧ sumR (fixN (n : Int) 4 ++ T) = T ∧ sumF (fixN (n : Int) 4 ++ T) = false := by
  have hn : n < 256 ^ 4 := by rw [p32]; omega
  rw [fixN_in n 4 hn]
  have hs : (strOfNums (low n 4)).size = 4 := by rw [strOfNums_size, low_length]
  have h4 : 4 ≤ (strOfNums (low n 4) ++ T).size := by rw [ByteArray.size_append, hs]; omega
  unfold sumV sumR sumF
  rw [if_pos h4, if_pos h4]
  refine ⟨fixVal_m n 4 hn T, ?_, decide_eq_false (by omega)⟩
  have := ba_drop (strOfNums (low n 4)) T
  rw [hs] at this
  exact this
theorem sumV_bd (s : ByteArray) : sumV s ≤ 4294967295 := by
  unfold sumV
  split
  · have := fixVal_lt s 4
    rw [p32] at this
    omega
  · omega
theorem sum_back (s : ByteArray) (h : sumF s = false) : fixN (sumV s : Int) 4 ++ sumR s = s := by
  have h' : 4 ≤ s.size := by have := of_decide_eq_false h; omega
  unfold sumV sumR
  rw [if_pos h', if_pos h', fixN_in _ 4 (fixVal_lt s 4), fix_back s 4 h', ba_split]

/-! ### The whole -/
/-- What a text is read as, whether right or not. -/
def parse (s : ByteArray) : RecV :=
  if (rv s).1 = 1 ∨ (rv s).1 = 4 then ⟨(rv s).1, (rv (numT s)).1, txtV (numT (numT s)), txtV (txtR (numT (numT s))), 0, 0⟩
  else if (rv s).1 = 2 then ⟨(rv s).1, (rv (numT s)).1, txtV (numT (numT s)), ⟨#[]⟩, 0, 0⟩
  else ⟨(rv s).1, (rv (numT s)).1, ⟨#[]⟩, ⟨#[]⟩, (rv (numT (numT s))).1, sumV (numT (numT (numT s)))⟩
/-- Nothing was missing, and nothing is left. -/
def Clean (s : ByteArray) : Prop :=
  (rv s).2 ≠ 0 ∧ (rv (numT s)).2 ≠ 0 ∧
    (if (rv s).1 = 1 ∨ (rv s).1 = 4 then txtF (numT (numT s)) = false ∧ txtF (txtR (numT (numT s))) = false ∧ (txtR (txtR (numT (numT s)))).size = 0
     else if (rv s).1 = 2 then txtF (numT (numT s)) = false ∧ (txtR (numT (numT s))).size = 0
     else (rv (numT (numT s))).2 ≠ 0 ∧ sumF (numT (numT (numT s))) = false ∧ (sumR (numT (numT (numT s)))).size = 0)

theorem app_nil (s : ByteArray) : s ++ (⟨#[]⟩ : ByteArray) = s := by
  apply bl_inj
  rw [bl_append]
  simp [bl]
/-- How a right record's text begins. -/
theorem show_head (k b : Nat) (hk : k ≤ 562949953421311) (hb : b ≤ 562949953421311) (B : ByteArray) :
    rv (varS (k : Int) ++ varS (b : Int) ++ B) = (k, (varS (k : Int)).size) ∧ rv (numT (varS (k : Int) ++ varS (b : Int) ++ B)) = (b, (varS (b : Int)).size) ∧ numT (numT (varS (k : Int) ++ varS (b : Int) ++ B)) = B := by
  rw [ByteArray.append_assoc, rv_var k hk, numT_var k hk, rv_var b hb, numT_var b hb]
  exact ⟨rfl, rfl, rfl⟩

theorem forth (q : RecV) (h : recOkB q = true) : parse (showS q) = q ∧ Clean (showS q) := by
  obtain ⟨k, b, key, val, c, s⟩ := q
  have hok : RecOkP k b key.size val.size c s := okN_iff.1 h
  have hsh : showS ⟨k, b, key, val, c, s⟩ = varS k ++ varS b ++ bodyS k key val c s := by
    unfold showS showN
    exact if_pos h
  rw [hsh]
  have hk0 : 0 ≤ k := by unfold RecOkP at hok; omega
  have hb0 : 0 ≤ b := by unfold RecOkP at hok; omega
  obtain ⟨K, rfl⟩ := Int.eq_ofNat_of_zero_le hk0
  obtain ⟨B, rfl⟩ := Int.eq_ofNat_of_zero_le hb0
  have hK : K ≤ 5 ∧ B ≤ 1000000 := by unfold RecOkP at hok; omega
  obtain ⟨e1, e2, e3⟩ := show_head K B (by omega) (by omega) (bodyS (K : Int) key val c s)
  have p1 := varS_pos K (by omega)
  have p2 := varS_pos B (by omega)
  by_cases h14 : K = 1 ∨ K = 4
  · have hz : key.size ≤ 8 ∧ val.size ≤ 24 ∧ c = 0 ∧ s = 0 := by unfold RecOkP at hok; omega
    obtain ⟨z1, z2, rfl, rfl⟩ := hz
    have hbd : bodyS (K : Int) key val 0 0 = textS key ++ textS val := by unfold bodyS; rw [if_pos (by omega)]
    obtain ⟨t1, t2, t3⟩ := txt_text key (textS val) (by omega)
    obtain ⟨t4, t5, t6⟩ := txt_text val ⟨#[]⟩ (by omega)
    rw [app_nil] at t4 t5 t6
    unfold parse Clean
    rw [e1, e2, e3, hbd]
    simp only
    rw [if_pos h14, if_pos h14, t1, t2, t3, t4, t5, t6]
    exact ⟨rfl, by omega, by omega, rfl, rfl, rfl⟩
  · by_cases h2 : K = 2
    · have hz : key.size ≤ 8 ∧ val.size = 0 ∧ c = 0 ∧ s = 0 := by unfold RecOkP at hok; omega
      obtain ⟨z1, z2, rfl, rfl⟩ := hz
      have hbd : bodyS (K : Int) key val 0 0 = textS key := by unfold bodyS; rw [if_neg (by omega), if_pos (by omega)]
      obtain ⟨t1, t2, t3⟩ := txt_text key ⟨#[]⟩ (by omega)
      rw [app_nil] at t1 t2 t3
      unfold parse Clean
      rw [e1, e2, e3, hbd]
      simp only
      rw [if_neg h14, if_neg h14, if_pos h2, if_pos h2, t1, t2, t3, empty_of z2]
      exact ⟨rfl, by omega, by omega, rfl, rfl⟩
    · have hz : key.size = 0 ∧ val.size = 0 ∧ 0 ≤ c ∧ c ≤ 20 ∧ 0 ≤ s ∧ s ≤ 4294967295 := by unfold RecOkP at hok; omega
      obtain ⟨z1, z2, z3, z4, z5, z6⟩ := hz
      obtain ⟨C, rfl⟩ := Int.eq_ofNat_of_zero_le z3
      obtain ⟨S, rfl⟩ := Int.eq_ofNat_of_zero_le z5
      have hbd : bodyS (K : Int) key val (C : Int) (S : Int) = varS (C : Int) ++ fixN (S : Int) 4 := by unfold bodyS totS; rw [if_neg (by omega), if_neg (by omega)]
      obtain ⟨t1, t2, t3⟩ := sum_fix S (by omega) ⟨#[]⟩
      rw [app_nil] at t1 t2 t3
      have p3 := varS_pos C (by omega)
      unfold parse Clean
      rw [e1, e2, e3, hbd, rv_var C (by omega), numT_var C (by omega)]
      simp only
      rw [if_neg h14, if_neg h14, if_neg h2, if_neg h2, t1, t2, t3, empty_of z1, empty_of z2]
      exact ⟨rfl, by omega, by omega, by omega, rfl, rfl⟩

theorem back (s : ByteArray) (hc : Clean s) (h : recOkB (parse s) = true) : showS (parse s) = s := by
  have hsh : showS (parse s) = varS (parse s).kind ++ varS (parse s).batch ++ bodyS (parse s).kind (parse s).key (parse s).val (parse s).cnt (parse s).sum := by
    unfold showS showN
    exact if_pos h
  rw [hsh]
  obtain ⟨c1, c2, c3⟩ := hc
  have w1 := numT_whole s c1
  have w2 := numT_whole (numT s) c2
  unfold parse
  by_cases h14 : (rv s).1 = 1 ∨ (rv s).1 = 4
  · rw [if_pos h14] at c3 ⊢
    simp only
    have hbd : bodyS ((rv s).1 : Int) (txtV (numT (numT s))) (txtV (txtR (numT (numT s)))) 0 0 = textS (txtV (numT (numT s))) ++ textS (txtV (txtR (numT (numT s)))) := by unfold bodyS; rw [if_pos (by omega)]
    rw [hbd]
    have w3 := txt_back _ c3.1
    have w4 := txt_back _ c3.2.1
    rw [empty_of c3.2.2, app_nil] at w4
    rw [w4, w3, ByteArray.append_assoc, w2, w1]
  · rw [if_neg h14] at c3 ⊢
    by_cases h2 : (rv s).1 = 2
    · rw [if_pos h2] at c3 ⊢
      simp only
      have hbd : bodyS ((rv s).1 : Int) (txtV (numT (numT s))) ⟨#[]⟩ 0 0 = textS (txtV (numT (numT s))) := by unfold bodyS; rw [if_neg (by omega), if_pos (by omega)]
      rw [hbd]
      have w3 := txt_back _ c3.1
      rw [empty_of c3.2, app_nil] at w3
      rw [w3, ByteArray.append_assoc, w2, w1]
    · rw [if_neg h2] at c3 ⊢
      simp only
      have hbd : bodyS ((rv s).1 : Int) ⟨#[]⟩ ⟨#[]⟩ ((rv (numT (numT s))).1 : Int) (sumV (numT (numT (numT s))) : Int) = varS ((rv (numT (numT s))).1 : Int) ++ fixN (sumV (numT (numT (numT s))) : Int) 4 := by unfold bodyS totS; rw [if_neg (by omega), if_neg (by omega)]
      rw [hbd]
      have w3 := numT_whole _ c3.1
      have w4 := sum_back _ c3.2.1
      rw [empty_of c3.2.2, app_nil] at w4
      rw [w4, w3, ByteArray.append_assoc, w2, w1]

theorem show_pos (r : RecV) (h : recOkB r = true) : 0 < (showS r).size := by
  have hc := (forth r h).2.1
  have := rv_bd (showS r)
  omega
theorem show_none (r : RecV) (h : recOkB r = false) : showS r = ⟨#[]⟩ := by
  unfold showS showN
  rw [if_neg (by unfold recOkB at h; rw [h]; simp)]
theorem show_inj (r q : RecV) (h : recOkB r = true) (h' : recOkB q = true) (e : showS r = showS q) : r = q := by
  rw [← (forth r h).1, e, (forth q h').1]

/-- What ReadRec tells of a text. -/
def RR (s : ByteArray) (r : RecV) (ok : Bool) : Prop :=
  (ok = true ∧ recOkB r = true ∧ showS r = s) ∨ (ok = false ∧ r = zeroR ∧ ∀ q, recOkB q = true → showS q ≠ s)
theorem RR_one {s : ByteArray} {r q : RecV} {a b : Bool} (h : RR s r a) (h' : RR s q b) : r = q ∧ a = b := by
  rcases h with ⟨rfl, h1, h2⟩ | ⟨rfl, rfl, h1⟩
  · rcases h' with ⟨rfl, h3, h4⟩ | ⟨_, _, h3⟩
    · exact ⟨show_inj r q h1 h3 (h2.trans h4.symm), rfl⟩
    · exact absurd h2 (h3 r h1)
  · rcases h' with ⟨rfl, h3, h4⟩ | ⟨rfl, rfl, _⟩
    · exact absurd h4 (h1 q h3)
    · exact ⟨rfl, rfl⟩
/-- What is read clean and right is what was shown. -/
theorem RR_yes (s : ByteArray) (hc : Clean s) (h : recOkB (parse s) = true) : RR s (parse s) true := Or.inl ⟨rfl, h, back s hc h⟩
theorem RR_unclean (s : ByteArray) (hc : ¬ Clean s) : RR s zeroR false :=
  Or.inr ⟨rfl, rfl, fun q hq e => hc (by rw [← e]; exact (forth q hq).2)⟩
theorem RR_wrong (s : ByteArray) (h : recOkB (parse s) = false) : RR s zeroR false :=
  Or.inr ⟨rfl, rfl, fun q hq e => by rw [← e, (forth q hq).1, hq] at h; cases h⟩

end Go.Proofs.YtimpokbcfjgdaaaDoor
namespace Go.Proofs.YtimpokbcfjgdaaaDoor
namespace Plain

/-- One halving. -/
def tk (c : Nat) : Nat := if c % 2 = 1 then (c / 2) ^^^ 2197175160 else c / 2
def tkN : Nat → Nat → Nat
  | 0, c => c
  | n + 1, c => tk (tkN n c)
theorem tkN_succ' (n c : Nat) : tkN (n + 1) c = tkN n (tk c) := by
  induction n with
  | zero => rfl
  | succ n ih => rw [tkN, ih]; rfl
theorem tkN_add (m n c : Nat) : tkN (m + n) c = tkN m (tkN n c) := by
  induction m with
  | zero => rw [Nat.zero_add]; rfl
  | succ m ih => rw [Nat.add_right_comm, tkN, ih]; rfl
theorem xor_half (a b : Nat) : (a ^^^ b) / 2 = a / 2 ^^^ b / 2 := by
  have := Nat.shiftRight_xor_distrib (a := a) (b := b) (i := 1)
  simpa [Nat.shiftRight_eq_div_pow] using this
theorem xor_odd (a b : Nat) : (a ^^^ b) % 2 = (a % 2 + b % 2) % 2 := by
  have h := Nat.xor_mod_two_pow (a := a) (b := b) (n := 1)
  rw [Nat.pow_one] at h
  rw [h]
  rcases Nat.mod_two_eq_zero_or_one a with h1 | h1 <;> rcases Nat.mod_two_eq_zero_or_one b with h2 | h2 <;> rw [h1, h2] <;> rfl
theorem tk_xor (a b : Nat) : tk (a ^^^ b) = tk a ^^^ tk b := by
  unfold tk
  rw [xor_odd, xor_half]
  rcases Nat.mod_two_eq_zero_or_one a with h1 | h1 <;> rcases Nat.mod_two_eq_zero_or_one b with h2 | h2
  · simp [h1, h2]
  · simp [h1, h2, Nat.xor_assoc]
  · simp only [h1, h2]
    simp
    rw [Nat.xor_assoc, Nat.xor_assoc, Nat.xor_comm (b / 2)]
  · simp only [h1, h2]
    simp
    rw [Nat.xor_assoc, Nat.xor_comm 2197175160, Nat.xor_assoc, Nat.xor_self, Nat.xor_zero]
theorem tkN_xor (n a b : Nat) : tkN n (a ^^^ b) = tkN n a ^^^ tkN n b := by
  induction n with
  | zero => rfl
  | succ n ih => rw [tkN, ih, tk_xor]; rfl
theorem tk_lt (c : Nat) (h : c < 4294967296) : tk c < 4294967296 := by
  unfold tk
  split
  · have : (c / 2) ^^^ 2197175160 < 2 ^ 32 := Nat.xor_lt_two_pow (by omega) (by omega)
    omega
  · omega
theorem tkN_lt (n c : Nat) (h : c < 4294967296) : tkN n c < 4294967296 := by
  induction n with
  | zero => exact h
  | succ n ih => exact tk_lt _ ih
theorem xor_lt32 (a b : Nat) (h1 : a < 4294967296) (h2 : b < 4294967296) : a ^^^ b < 4294967296 := by
  have : a ^^^ b < 2 ^ 32 := Nat.xor_lt_two_pow (by omega) (by omega)
  omega
theorem eq_of_xor (a b : Nat) (h : a ^^^ b = 0) : a = b := by
  have h2 : (a ^^^ b) ^^^ b = b := by rw [h, Nat.zero_xor]
  rw [Nat.xor_assoc, Nat.xor_self, Nat.xor_zero] at h2
  exact h2
theorem tk_zero (d : Nat) (hd : d < 4294967296) (h : tk d = 0) : d = 0 := by
  unfold tk at h
  split at h
  · have := eq_of_xor _ _ h
    omega
  · omega
theorem tk_inj (a b : Nat) (ha : a < 4294967296) (hb : b < 4294967296) (h : tk a = tk b) : a = b := by
  apply eq_of_xor
  apply tk_zero _ (xor_lt32 a b ha hb)
  rw [tk_xor, h, Nat.xor_self]
theorem tkN_inj (n a b : Nat) (ha : a < 4294967296) (hb : b < 4294967296) (h : tkN n a = tkN n b) : a = b := by
  induction n with
  | zero => exact h
  | succ n ih => exact ih (tk_inj _ _ (tkN_lt n a ha) (tkN_lt n b hb) h)
theorem tkN_shift (n a : Nat) : tkN n (a * 2 ^ n) = a := by
  induction n with
  | zero => simp [tkN]
  | succ n ih =>
    rw [tkN_succ']
    have e : tk (a * 2 ^ (n + 1)) = a * 2 ^ n := by
      unfold tk
      have : a * 2 ^ (n + 1) = 2 * (a * 2 ^ n) := by rw [Nat.pow_succ]; rw [← Nat.mul_assoc, Nat.mul_comm]
      rw [this, if_neg (by omega)]
      omega
    rw [e, ih]

/-- The table of sixteen. -/
def tab : List Nat := [0, 274646895, 549293790, 820201905, 1098587580, 1361435347, 1640403810, 1905808397, 2197175160, 2460548119, 2722870694, 2987750089, 3280807620, 3553878443, 3811616794, 4084100981]
theorem tab_eq : ∀ l, l < 16 → tab.getD l 0 = tkN 4 l := by decide
theorem tab_lt : ∀ l, l < 16 → tab.getD l 0 < 4294967296 := by decide
theorem four (c : Nat) : (c / 16) ^^^ tab.getD (c % 16) 0 = tkN 4 c := by
  rw [tab_eq _ (Nat.mod_lt _ (by omega))]
  have e : c = (c / 16 * 2 ^ 4) ^^^ (c % 16) := by
    have h := Nat.two_pow_add_eq_or_of_lt (i := 4) (b := c % 16) (Nat.mod_lt _ (by omega)) (c / 16)
    have h2 : c / 16 * 2 ^ 4 ^^^ c % 16 = 2 ^ 4 * (c / 16) + c % 16 := by
      rw [h, Nat.mul_comm]
      apply Nat.eq_of_testBit_eq
      intro j
      rw [Nat.testBit_xor, Nat.testBit_or, Nat.testBit_two_pow_mul]
      by_cases hj : j < 4
      · simp [show ¬ 4 ≤ j from by omega]
      · have : (c % 16).testBit j = false := Nat.testBit_lt_two_pow (Nat.lt_of_lt_of_le (Nat.mod_lt _ (by omega)) (show 16 ≤ 2 ^ j from Nat.pow_le_pow_right (n := 2) (i := 4) (by omega) (by omega)))
        simp [this]
    omega
  conv => rhs; rw [e]
  rw [tkN_xor, tkN_shift]

/-- What a byte makes of a sum. -/
def bt (c b : Nat) : Nat := tkN 8 (c ^^^ b)
theorem bt_lt (c b : Nat) (h : c < 4294967296) (hb : b < 256) : bt c b < 4294967296 := tkN_lt _ _ (xor_lt32 _ _ h (by omega))
theorem bt_two (c b : Nat) : (tkN 4 (c ^^^ b) / 16) ^^^ tab.getD (tkN 4 (c ^^^ b) % 16) 0 = bt c b := by
  rw [four, ← tkN_add]
  rfl
/-- What bytes make of a sum. -/
def cf (c : Nat) (xs : List Nat) : Nat := xs.foldl bt c
theorem cf_nil (c : Nat) : cf c [] = c := List.foldl_nil
theorem cf_cons (c b : Nat) (r : List Nat) : cf c (b :: r) = cf (bt c b) r := List.foldl_cons ..
theorem cf_append (xs ys : List Nat) : ∀ c, cf c (xs ++ ys) = cf (cf c xs) ys := by
  intro c
  exact List.foldl_append
theorem cf_lt (xs : List Nat) (hx : ∀ b ∈ xs, b < 256) : ∀ c, c < 4294967296 → cf c xs < 4294967296 := by
  induction xs with
  | nil => intro c h; rw [cf_nil]; exact h
  | cons b r ih => intro c h; rw [cf_cons]; exact ih (fun x hx' => hx x (by simp [hx'])) _ (bt_lt c b h (hx b (by simp)))
theorem cf_inj (xs : List Nat) (hx : ∀ b ∈ xs, b < 256) : ∀ c d, c < 4294967296 → d < 4294967296 → cf c xs = cf d xs → c = d := by
  induction xs with
  | nil => intro c d _ _ h; rw [cf_nil, cf_nil] at h; exact h
  | cons b r ih =>
    intro c d hc hd h
    rw [cf_cons, cf_cons] at h
    have hb := hx b (by simp)
    have h1 := ih (fun x hx' => hx x (by simp [hx'])) _ _ (bt_lt c b hc hb) (bt_lt d b hd hb) h
    have h2 := tkN_inj 8 _ _ (xor_lt32 c b hc (by omega)) (xor_lt32 d b hd (by omega)) h1
    have h3 : c ^^^ d = 0 := by
      have h4 : (c ^^^ b) ^^^ (d ^^^ b) = 0 := by rw [h2, Nat.xor_self]
      rw [Nat.xor_assoc, Nat.xor_comm d b, ← Nat.xor_assoc b b d, Nat.xor_self, Nat.zero_xor] at h4
      exact h4
    exact eq_of_xor _ _ h3
/-- Bytes as one number, the first the least. -/
def lv : List Nat → Nat
  | [] => 0
  | b :: r => b + 256 * lv r
theorem low8 (b v : Nat) (hb : b < 256) : b ^^^ (v * 2 ^ 8) = b + 256 * v := by
  have h := Nat.two_pow_add_eq_or_of_lt (i := 8) (b := b) (by omega) v
  have h2 : b ^^^ (v * 2 ^ 8) = 2 ^ 8 * v ||| b := by
    rw [Nat.mul_comm v]
    apply Nat.eq_of_testBit_eq
    intro j
    rw [Nat.testBit_xor, Nat.testBit_or, Nat.testBit_two_pow_mul]
    by_cases hj : j < 8
    · simp [show ¬ 8 ≤ j from by omega]
    · have : b.testBit j = false := Nat.testBit_lt_two_pow (Nat.lt_of_lt_of_le hb (show 256 ≤ 2 ^ j from Nat.pow_le_pow_right (n := 2) (i := 8) (by omega) (by omega)))
      simp [this]
  rw [h2, ← h]
  omega
theorem cf_lv (xs : List Nat) (hx : ∀ b ∈ xs, b < 256) : ∀ c, cf c xs = tkN (8 * xs.length) (c ^^^ lv xs) := by
  induction xs with
  | nil => intro c; rw [cf_nil, lv, Nat.xor_zero]; rfl
  | cons b r ih =>
    intro c
    have hb := hx b (by simp)
    rw [cf_cons, ih (fun x hx' => hx x (by simp [hx']))]
    rw [List.length_cons, Nat.mul_add, Nat.mul_one, tkN_add, bt, lv, ← low8 b (lv r) hb]
    congr 1
    rw [← Nat.xor_assoc, tkN_xor 8 (c ^^^ b), tkN_shift]
theorem lv_lt (xs : List Nat) (hx : ∀ b ∈ xs, b < 256) : lv xs < 256 ^ xs.length := by
  induction xs with
  | nil => simp [lv]
  | cons b r ih =>
    have hb := hx b (by simp)
    have := ih (fun x hx' => hx x (by simp [hx']))
    rw [lv, List.length_cons, Nat.pow_succ]
    omega
theorem lv_inj : ∀ (xs ys : List Nat), (∀ b ∈ xs, b < 256) → (∀ b ∈ ys, b < 256) → xs.length = ys.length → lv xs = lv ys → xs = ys
  | [], [], _, _, _, _ => rfl
  | [], _ :: _, _, _, h, _ => by simp at h
  | _ :: _, [], _, _, h, _ => by simp at h
  | a :: r, b :: t, hx, hy, hl, h => by
    have ha := hx a (by simp)
    have hb := hy b (by simp)
    simp only [lv] at h
    have e : a = b := by omega
    have e2 : lv r = lv t := by omega
    rw [e, lv_inj r t (fun x h' => hx x (by simp [h'])) (fun x h' => hy x (by simp [h'])) (by simpa using hl) e2]
/-- At most four bytes: other bytes make another sum. -/
theorem cf_four (xs ys : List Nat) (hx : ∀ b ∈ xs, b < 256) (hy : ∀ b ∈ ys, b < 256) (hl : xs.length = ys.length) (h4 : xs.length ≤ 4) (c : Nat) (hc : c < 4294967296) (h : cf c xs = cf c ys) : xs = ys := by
  have p4 : ∀ n, n ≤ 4 → 256 ^ n ≤ 4294967296 := by
    intro n hn
    have := Nat.pow_le_pow_right (n := 256) (by omega) hn
    simpa using this
  have l1 : lv xs < 4294967296 := Nat.lt_of_lt_of_le (lv_lt xs hx) (p4 _ h4)
  have l2 : lv ys < 4294967296 := Nat.lt_of_lt_of_le (lv_lt ys hy) (p4 _ (by omega))
  rw [cf_lv xs hx, cf_lv ys hy, ← hl] at h
  have h2 := tkN_inj _ _ _ (xor_lt32 c _ hc l1) (xor_lt32 c _ hc l2) h
  have h3 : lv xs ^^^ lv ys = 0 := by
    have h5 : (c ^^^ lv xs) ^^^ (c ^^^ lv ys) = 0 := by rw [h2, Nat.xor_self]
    rw [Nat.xor_comm c, Nat.xor_assoc, ← Nat.xor_assoc c c, Nat.xor_self, Nat.zero_xor] at h5
    exact h5
  exact lv_inj xs ys hx hy hl (eq_of_xor _ _ h3)
/-- Bytes that part at most within four in a row: other bytes make another sum. -/
theorem cf_parts (xs ys : List Nat) (hx : ∀ b ∈ xs, b < 256) (hy : ∀ b ∈ ys, b < 256) (hl : xs.length = ys.length) (k : Nat) (ho : ∀ j, j < k ∨ k + 4 ≤ j → xs[j]? = ys[j]?) (c : Nat) (hc : c < 4294967296) (h : cf c xs = cf c ys) : xs = ys := by
  have e0 : xs.take k = ys.take k := by
    apply List.ext_getElem?
    intro j
    rw [List.getElem?_take, List.getElem?_take]
    split
    · exact ho j (by omega)
    · rfl
  have e2 : (xs.drop k).drop 4 = (ys.drop k).drop 4 := by
    apply List.ext_getElem?
    intro j
    rw [List.drop_drop, List.drop_drop, List.getElem?_drop, List.getElem?_drop]
    exact ho _ (by omega)
  have x1 : xs = xs.take k ++ ((xs.drop k).take 4 ++ (xs.drop k).drop 4) := by rw [List.take_append_drop, List.take_append_drop]
  have y1 : ys = xs.take k ++ ((ys.drop k).take 4 ++ (xs.drop k).drop 4) := by rw [e0, e2, List.take_append_drop, List.take_append_drop]
  have m1 : ∀ b ∈ xs.take k, b < 256 := fun b hb => hx b (List.mem_of_mem_take hb)
  have m2 : ∀ b ∈ (xs.drop k).take 4, b < 256 := fun b hb => hx b (List.mem_of_mem_drop (List.mem_of_mem_take hb))
  have m3 : ∀ b ∈ (ys.drop k).take 4, b < 256 := fun b hb => hy b (List.mem_of_mem_drop (List.mem_of_mem_take hb))
  have m4 : ∀ b ∈ (xs.drop k).drop 4, b < 256 := fun b hb => hx b (List.mem_of_mem_drop (List.mem_of_mem_drop hb))
  have hcc := cf_lt _ m1 c hc
  have h1 : cf (cf (cf c (xs.take k)) ((xs.drop k).take 4)) ((xs.drop k).drop 4) = cf (cf (cf c (xs.take k)) ((ys.drop k).take 4)) ((xs.drop k).drop 4) := by
    rw [← cf_append, ← cf_append, ← cf_append, ← cf_append, ← x1, ← y1]
    exact h
  have h2 := cf_inj _ m4 _ _ (cf_lt _ m2 _ hcc) (cf_lt _ m3 _ hcc) h1
  have h3 := cf_four _ _ m2 m3 (by simp [List.length_take, List.length_drop, hl]) (by rw [List.length_take]; omega) _ hcc h2
  rw [x1, y1, ← h3]

/-- The sum of a text behind its first k bytes, and of all. -/
def ck (s : ByteArray) (k : Nat) : Nat := cf 4294967295 ((bl s).take k)
def crcN (s : ByteArray) : Nat := 4294967295 - cf 4294967295 (bl s)
theorem ck_zero (s : ByteArray) : ck s 0 = 4294967295 := by rw [ck, List.take_zero, cf_nil]
theorem ck_succ (s : ByteArray) (k : Nat) (h : k < s.size) : ck s (k + 1) = bt (ck s k) s[k].toNat := by
  unfold ck
  rw [bl_take_succ s k h, cf_append, cf_cons, cf_nil]
theorem bl_all (s : ByteArray) : ∀ b ∈ bl s, b < 256 := by
  intro b hb
  have := bl_lt s (bl s).length b (by rw [List.take_length]; exact hb)
  exact this
theorem ck_lt (s : ByteArray) (k : Nat) : ck s k < 4294967296 := cf_lt _ (bl_lt s k) _ (by omega)
theorem ck_all (s : ByteArray) : ck s s.size = cf 4294967295 (bl s) := by
  unfold ck
  rw [List.take_of_length_le (by rw [bl_length]; exact Nat.le_refl _)]
theorem crc_ck (s : ByteArray) : (crcN s : Int) = 4294967295 - (ck s s.size : Int) := by
  have := ck_lt s s.size
  unfold crcN
  rw [← ck_all]
  omega

end Plain
end Go.Proofs.YtimpokbcfjgdaaaDoor
namespace Go.Proofs.YtimpokbcfjgdaaaDoor
open Go.RowKit
open Plain

theorem cut_cut (s : ByteArray) (a b : Nat) (h : a ≤ s.size) : (s.extract a s.size).extract b (s.extract a s.size).size = s.extract (a + b) s.size := by
  apply bl_inj
  rw [bl_extract, bl_extract, bl_extract, ba_len s a s.size h (Nat.le_refl _)]
  rw [List.take_of_length_le (by rw [List.length_drop, List.length_take, bl_length]; omega), List.drop_drop]
theorem cut_take (s : ByteArray) (a n : Nat) : (s.extract a s.size).extract 0 n = s.extract a (a + n) := by
  apply bl_inj
  have e : (bl s).take s.size = bl s := List.take_of_length_le (by rw [bl_length]; exact Nat.le_refl _)
  rw [bl_extract, bl_extract, bl_extract, List.drop_zero, e, List.take_drop]
theorem crcN_le (s : ByteArray) : crcN s ≤ 4294967295 := by
  have h := crc_ck s
  have := ck_lt s s.size
  omega
/-- The sum of a text, four bytes. -/
def sumS (t : ByteArray) : ByteArray := fixN (crcN t : Int) 4
theorem sumS_size (t : ByteArray) : (sumS t).size = 4 := by
  unfold sumS
  rw [fixN_in _ 4 (by rw [p32]; have := crcN_le t; omega), strOfNums_size, low_length]
def frameS (s : ByteArray) : ByteArray := if s.size ≤ 200 then sumS (textS s) ++ textS s else ⟨#[]⟩
theorem frameS_in (s : ByteArray) (h : s.size ≤ 200) : frameS s = sumS (textS s) ++ textS s := if_pos h
theorem frameS_out (s : ByteArray) (h : ¬ s.size ≤ 200) : frameS s = ⟨#[]⟩ := if_neg h
theorem textS_size' (s : ByteArray) : (textS s).size ≤ 7 + s.size := by
  unfold textS
  rw [ByteArray.size_append]
  have := varS_size (s.size : Int)
  omega
theorem frameS_size (s : ByteArray) : (frameS s).size ≤ 211 := by
  unfold frameS
  split
  · rw [ByteArray.size_append, sumS_size]
    have := textS_size' s
    omega
  · exact Nat.zero_le _

/-- A text that begins with a frame: of which text, and how many bytes the frame has. -/
def uf (s : ByteArray) : ByteArray × Nat :=
  if s.size < 5 ∨ (rv (s.extract 4 s.size)).2 = 0 ∨ 200 < (rv (s.extract 4 s.size)).1 ∨ s.size < 4 + (rv (s.extract 4 s.size)).2 + (rv (s.extract 4 s.size)).1 then (⟨#[]⟩, 0)
  else if s.extract 0 (4 + (rv (s.extract 4 s.size)).2 + (rv (s.extract 4 s.size)).1) = frameS (s.extract (4 + (rv (s.extract 4 s.size)).2) (4 + (rv (s.extract 4 s.size)).2 + (rv (s.extract 4 s.size)).1))
  then (s.extract (4 + (rv (s.extract 4 s.size)).2) (4 + (rv (s.extract 4 s.size)).2 + (rv (s.extract 4 s.size)).1), 4 + (rv (s.extract 4 s.size)).2 + (rv (s.extract 4 s.size)).1) else (⟨#[]⟩, 0)
/-- The same in words. -/
def UF (s t : ByteArray) (n : Nat) : Prop :=
  (t.size ≤ 200 ∧ n = (frameS t).size ∧ ∃ T, s = frameS t ++ T) ∨ (n = 0 ∧ t = ⟨#[]⟩ ∧ ∀ u T, u.size ≤ 200 → s ≠ frameS u ++ T)

theorem drop4 (A T : ByteArray) (h : A.size = 4) : (A ++ T).extract 4 (A ++ T).size = T := by
  have := ba_drop A T
  rw [h] at this
  exact this
theorem uf_frame (u T : ByteArray) (h : u.size ≤ 200) : uf (frameS u ++ T) = (u, (frameS u).size) := by
  have e0 : frameS u ++ T = sumS (textS u) ++ (textS u ++ T) := by rw [frameS_in u h, ByteArray.append_assoc]
  have e4 : (frameS u ++ T).extract 4 (frameS u ++ T).size = textS u ++ T := by rw [e0]; exact drop4 _ _ (sumS_size _)
  have e1 : textS u ++ T = varS (u.size : Int) ++ (u ++ T) := by unfold textS; rw [ByteArray.append_assoc]
  have er : rv (textS u ++ T) = (u.size, (varS (u.size : Int)).size) := by rw [e1]; exact rv_var u.size (by omega) _
  have hp := varS_pos u.size (by omega)
  have hz : (frameS u).size = 4 + (varS (u.size : Int)).size + u.size := by
    rw [frameS_in u h, ByteArray.size_append, sumS_size]
    unfold textS
    rw [ByteArray.size_append]
    omega
  have hs : (frameS u ++ T).size = (frameS u).size + T.size := ByteArray.size_append
  have et : (frameS u ++ T).extract (4 + (varS (u.size : Int)).size) (4 + (varS (u.size : Int)).size + u.size) = u := by
    have e5 : frameS u ++ T = (sumS (textS u) ++ varS (u.size : Int)) ++ (u ++ T) := by rw [e0, e1, ByteArray.append_assoc]
    have e6 := cut_take (frameS u ++ T) (4 + (varS (u.size : Int)).size) u.size
    rw [← e6]
    have e7 : (sumS (textS u) ++ varS (u.size : Int)).size = 4 + (varS (u.size : Int)).size := by rw [ByteArray.size_append, sumS_size]
    rw [e5, ← e7, ba_drop, ba_take]
  unfold uf
  rw [e4, er]
  simp only
  rw [if_neg (by omega), et, ← hz, ba_take, if_pos rfl]
theorem uf_UF (s : ByteArray) : UF s (uf s).1 (uf s).2 := by
  by_cases h : ∃ u T, u.size ≤ 200 ∧ s = frameS u ++ T
  · obtain ⟨u, T, h1, rfl⟩ := h
    rw [uf_frame u T h1]
    exact Or.inl ⟨h1, rfl, T, rfl⟩
  · have hn : ∀ u T, u.size ≤ 200 → s ≠ frameS u ++ T := fun u T h1 h2 => h ⟨u, T, h1, h2⟩
    refine Or.inr ?_
    unfold uf
    split
    · exact ⟨rfl, rfl, hn⟩
    · rename_i hc
      split
      · rename_i he
        exfalso
        have hsz : (s.extract (4 + (rv (s.extract 4 s.size)).2) (4 + (rv (s.extract 4 s.size)).2 + (rv (s.extract 4 s.size)).1)).size = (rv (s.extract 4 s.size)).1 := by rw [ba_len _ _ _ (by omega) (by omega)]; omega
        refine hn (s.extract (4 + (rv (s.extract 4 s.size)).2) (4 + (rv (s.extract 4 s.size)).2 + (rv (s.extract 4 s.size)).1)) (s.extract (4 + (rv (s.extract 4 s.size)).2 + (rv (s.extract 4 s.size)).1) s.size) ?_ ?_
        · rw [hsz]; omega
        · rw [← he, ba_split]
      · exact ⟨rfl, rfl, hn⟩
theorem UF_one {s t u : ByteArray} {n m : Nat} (h : UF s t n) (h' : UF s u m) : t = u ∧ n = m := by
  rcases h with ⟨h1, rfl, T, rfl⟩ | ⟨rfl, rfl, h1⟩
  · rcases h' with ⟨g1, rfl, T', e⟩ | ⟨_, _, g1⟩
    · have e1 := uf_frame t T h1
      rw [e, uf_frame u T' g1] at e1
      injection e1 with a b
      exact ⟨a.symm, b.symm⟩
    · exact absurd rfl (g1 t T h1)
  · rcases h' with ⟨g1, rfl, T', e⟩ | ⟨rfl, rfl, _⟩
    · exact absurd e (h1 u T' g1)
    · exact ⟨rfl, rfl⟩
theorem uf_of {s t : ByteArray} {n : Nat} (h : UF s t n) : uf s = (t, n) := by
  obtain ⟨h1, h2⟩ := UF_one (uf_UF s) h
  rw [← h1, ← h2]
theorem uf_bd (s : ByteArray) : (uf s).1.size ≤ 200 ∧ (uf s).2 ≤ s.size ∧ (uf s).2 ≤ 211 := by
  rcases uf_UF s with ⟨h1, h2, T, h3⟩ | ⟨h1, h2, _⟩
  · have := frameS_size (uf s).1
    have e : s.size = (frameS (uf s).1).size + T.size := by rw [← ByteArray.size_append, ← h3]
    omega
  · rw [h1, h2]
    exact ⟨Nat.zero_le _, Nat.zero_le _, Nat.zero_le _⟩

end Go.Proofs.YtimpokbcfjgdaaaDoor
namespace Go.Proofs.YtimpokbcfjgdaaaDoor
open Go.RowKit
open Plain

/-- Does the one text stand ahead of the other? -/
def klt (a b : ByteArray) : Bool := Op.bytesLess a.toList b.toList
theorem blt_lt : ∀ (x y : List UInt8), Op.bytesLess x y = decide (x < y)
  | x, [] => by simp [Op.bytesLess]
  | [], b :: y => by simp [Op.bytesLess]
  | a :: x, b :: y => by
    rw [Op.bytesLess, blt_lt x y]
    simp only [List.cons_lt_cons_iff]
    by_cases h1 : a < b <;> by_cases h2 : a = b <;> by_cases h3 : x < y <;> simp [h1, h2, h3]
theorem klt_iff {a b : ByteArray} : klt a b = true ↔ a.toList < b.toList := by unfold klt; rw [blt_lt, decide_eq_true_iff]
theorem klt_no {a b : ByteArray} : klt a b = false ↔ ¬ a.toList < b.toList := by unfold klt; rw [blt_lt, decide_eq_false_iff_not]
theorem klt_trans {a b c : ByteArray} (h : klt a b = true) (h2 : klt b c = true) : klt a c = true := klt_iff.2 (List.lt_trans (klt_iff.1 h) (klt_iff.1 h2))
theorem klt_asymm {a b : ByteArray} (h : klt a b = true) : klt b a = false := klt_no.2 (List.lt_asymm (klt_iff.1 h))
theorem klt_irrefl (a : ByteArray) : klt a a = false := klt_no.2 (List.lt_irrefl _)
theorem klt_other {a b : ByteArray} (h : klt a b = false) (hn : ¬ b = a) : klt b a = true := by
  rw [klt_no] at h
  rw [klt_iff]
  rcases List.le_iff_lt_or_eq.1 (List.not_lt.1 h) with h1 | h1
  · exact h1
  · exact absurd (toList_inj h1) hn
theorem klt_ne {a b : ByteArray} (h : klt a b = true) : ¬ a = b := fun e => by rw [e, klt_irrefl] at h; cases h
def dropE (xs : List EntV) (key : ByteArray) : List EntV := xs.filter (fun e => decide (¬ e.key = key))
def insE : List EntV → EntV → List EntV
  | [], e => [e]
  | x :: r, e => if klt e.key x.key = true then e :: x :: r else x :: insE r e
def putE (xs : List EntV) (e : EntV) : List EntV := insE (dropE xs e.key) e
def getE (xs : List EntV) (key : ByteArray) : Option EntV := xs.find? (fun e => decide (e.key = key))

theorem dropE_len (xs : List EntV) (key : ByteArray) : (dropE xs key).length ≤ xs.length := List.length_filter_le _ _
theorem dropE_succ_ne (xs : List EntV) (key : ByteArray) (k : Nat) (h : k < xs.length) (hk : ¬ (xs[k]).key = key) : dropE (xs.take (k + 1)) key = dropE (xs.take k) key ++ [xs[k]] := by
  unfold dropE
  rw [List.take_succ_eq_append_getElem h, List.filter_append]
  simp [hk]
theorem dropE_succ_eq (xs : List EntV) (key : ByteArray) (k : Nat) (h : k < xs.length) (hk : (xs[k]).key = key) : dropE (xs.take (k + 1)) key = dropE (xs.take k) key := by
  unfold dropE
  rw [List.take_succ_eq_append_getElem h, List.filter_append]
  simp [hk]
/-- No entry of the list stands behind e. -/
def NoneGt (xs : List EntV) (e : EntV) : Prop := ∀ x, x ∈ xs → klt e.key x.key = false
theorem insE_behind (xs : List EntV) (r : List EntV) (e : EntV) (h : NoneGt xs e) : insE (xs ++ r) e = xs ++ insE r e := by
  induction xs with
  | nil => rfl
  | cons x l ih =>
    have h1 := h x List.mem_cons_self
    rw [List.cons_append, insE, if_neg (by rw [h1]; simp), ih (fun y hy => h y (List.mem_cons_of_mem _ hy)), List.cons_append]
theorem insE_end (xs : List EntV) (e : EntV) (h : NoneGt xs e) : insE xs e = xs ++ [e] := by
  have := insE_behind xs [] e h
  rw [List.append_nil] at this
  exact this
theorem insE_more (xs : List EntV) (r : List EntV) (e : EntV) (h : ∃ x, x ∈ xs ∧ klt e.key x.key = true) : insE (xs ++ r) e = insE xs e ++ r := by
  induction xs with
  | nil => obtain ⟨x, hx, _⟩ := h; simp at hx
  | cons x l ih =>
    rw [List.cons_append, insE, insE]
    by_cases hx : klt e.key x.key = true
    · rw [if_pos hx, if_pos hx]
      rfl
    · rw [if_neg hx, if_neg hx, List.cons_append]
      obtain ⟨y, hy, hg⟩ := h
      rcases List.mem_cons.1 hy with rfl | hy
      · exact absurd hg hx
      · rw [ih ⟨y, hy, hg⟩]
theorem insE_len (xs : List EntV) (e : EntV) : (insE xs e).length = xs.length + 1 := by
  induction xs with
  | nil => rfl
  | cons x l ih =>
    rw [insE]
    split
    · rfl
    · rw [List.length_cons, ih, List.length_cons]
theorem insE_at (xs : List EntV) (e : EntV) (k : Nat) (hk : k < xs.length) (h1 : NoneGt (xs.take k) e) (h2 : klt e.key (xs[k]).key = true) : insE xs e = xs.take k ++ e :: xs.drop k := by
  have h := insE_behind (xs.take k) (xs.drop k) e h1
  rw [List.take_append_drop] at h
  rw [h, List.drop_eq_getElem_cons hk, insE, if_pos h2]

/-- What spec.DirPut holds behind its first k entries. -/
structure PutSt (xs : List EntV) (e : EntV) (k : Nat) (done : Bool) (out : List EntV) : Prop where
  no : done = false → out = dropE (xs.take k) e.key ∧ NoneGt (dropE (xs.take k) e.key) e
  yes : done = true → out = insE (dropE (xs.take k) e.key) e ∧ ∃ x, x ∈ dropE (xs.take k) e.key ∧ klt e.key x.key = true
theorem PutSt.start (xs : List EntV) (e : EntV) : PutSt xs e 0 false [] := ⟨fun _ => ⟨rfl, fun x hx => by simp [dropE] at hx⟩, fun h => by cases h⟩
theorem PutSt.same {xs : List EntV} {e : EntV} {k : Nat} {done : Bool} {out : List EntV} (h : PutSt xs e k done out) (hk : k < xs.length) (he : (xs[k]).key = e.key) : PutSt xs e (k + 1) done out := by
  have hd := dropE_succ_eq xs e.key k hk he
  exact ⟨fun q => by rw [hd]; exact h.no q, fun q => by rw [hd]; exact h.yes q⟩
theorem PutSt.gt {xs : List EntV} {e : EntV} {k : Nat} {out : List EntV} (h : PutSt xs e k false out) (hk : k < xs.length) (he : ¬ (xs[k]).key = e.key) (hg : klt e.key (xs[k]).key = true) : PutSt xs e (k + 1) true (out ++ [e] ++ [xs[k]]) := by
  have hd := dropE_succ_ne xs e.key k hk he
  obtain ⟨h1, h2⟩ := h.no rfl
  refine ⟨fun q => (by cases q), fun _ => ⟨?_, xs[k], ?_, hg⟩⟩
  · rw [hd, insE_behind _ _ _ h2, h1, insE, if_pos hg]
    simp
  · rw [hd]; simp
theorem PutSt.le {xs : List EntV} {e : EntV} {k : Nat} {out : List EntV} (h : PutSt xs e k false out) (hk : k < xs.length) (he : ¬ (xs[k]).key = e.key) (hg : klt e.key (xs[k]).key = false) : PutSt xs e (k + 1) false (out ++ [xs[k]]) := by
  have hd := dropE_succ_ne xs e.key k hk he
  obtain ⟨h1, h2⟩ := h.no rfl
  refine ⟨fun _ => ⟨by rw [hd, h1], fun x hx => ?_⟩, fun q => by cases q⟩
  rw [hd] at hx
  rcases List.mem_append.1 hx with hx | hx
  · exact h2 x hx
  · obtain rfl : x = xs[k] := by simpa using hx
    exact hg
theorem PutSt.on {xs : List EntV} {e : EntV} {k : Nat} {out : List EntV} (h : PutSt xs e k true out) (hk : k < xs.length) (he : ¬ (xs[k]).key = e.key) : PutSt xs e (k + 1) true (out ++ [xs[k]]) := by
  have hd := dropE_succ_ne xs e.key k hk he
  obtain ⟨h1, y, hy, hg⟩ := h.yes rfl
  refine ⟨fun q => (by cases q), fun _ => ⟨?_, y, ?_, hg⟩⟩
  · rw [hd, insE_more _ _ _ ⟨y, hy, hg⟩, h1]
  · rw [hd]; exact List.mem_append_left _ hy
theorem PutSt.end_no {xs : List EntV} {e : EntV} {out : List EntV} (h : PutSt xs e xs.length false out) : putE xs e = out ++ [e] := by
  obtain ⟨h1, h2⟩ := h.no rfl
  rw [List.take_length] at h1 h2
  unfold putE
  rw [insE_end _ _ h2, h1]
theorem PutSt.end_yes {xs : List EntV} {e : EntV} {out : List EntV} (h : PutSt xs e xs.length true out) : putE xs e = out := by
  obtain ⟨h1, _⟩ := h.yes rfl
  rw [List.take_length] at h1
  exact h1.symm
theorem PutSt.len {xs : List EntV} {e : EntV} {k : Nat} {done : Bool} {out : List EntV} (h : PutSt xs e k done out) : out.length ≤ k + 1 := by
  have h1 := dropE_len (xs.take k) e.key
  rw [List.length_take] at h1
  cases done with
  | false => rw [(h.no rfl).1]; omega
  | true => rw [(h.yes rfl).1, insE_len]; omega
theorem getE_none {xs : List EntV} {key : ByteArray} {k : Nat} (hk : k < xs.length) (h : getE (xs.take k) key = none) (hn : ¬ (xs[k]).key = key) : getE (xs.take (k + 1)) key = none := by
  unfold getE at h ⊢
  rw [List.take_succ_eq_append_getElem hk, List.find?_append, h]
  simp [hn]
theorem getE_here {xs : List EntV} {key : ByteArray} {k : Nat} (hk : k < xs.length) (h : getE (xs.take k) key = none) (hn : (xs[k]).key = key) : getE xs key = some (xs[k]) := by
  unfold getE at h ⊢
  have e : xs = xs.take k ++ xs[k] :: xs.drop (k + 1) := by
    rw [← List.drop_eq_getElem_cons hk, List.take_append_drop]
  have h2 : (xs.take k ++ xs[k] :: xs.drop (k + 1)).find? (fun e => decide (e.key = key)) = some (xs[k]) := by
    rw [List.find?_append, h, List.find?_cons_of_pos (by simpa using hn)]
    rfl
  rw [← e] at h2
  exact h2

end Go.Proofs.YtimpokbcfjgdaaaDoor
