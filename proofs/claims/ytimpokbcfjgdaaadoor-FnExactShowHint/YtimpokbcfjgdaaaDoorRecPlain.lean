/-
  The texts of records, with no Go in sight: what ShowRec makes, and how such a text is read back, piece by piece.
-/
import Derived.Test.YtimpokbcfjgdaaaDoorRecBase
import Derived.Test.YtimpokbcfjgdaaaDoorNumV
namespace Go.Proofs.YtimpokbcfjgdaaaDoor
open Go.RowKit
open Plain

/-- A text with its length ahead. -/
def textS (s : ByteArray) : ByteArray := varS (s.size : Int) ++ s
/-- A count and a sum. -/
def totS (c s : Int) : ByteArray := varS c ++ fixN s 4
/-- What follows kind and batch. -/
def bodyS (k : Int) (key val : ByteArray) (c s : Int) : ByteArray :=
  if k = 1 ∨ k = 4 then textS key ++ textS val else if k = 2 then textS key else totS c s
def showN (k b : Int) (key val : ByteArray) (c s : Int) : ByteArray :=
  if okN k b key.size val.size c s = true then varS k ++ varS b ++ bodyS k key val c s else ⟨#[]⟩
/-- What ShowRec makes. -/
def showS (r : RecV) : ByteArray := showN r.kind r.batch r.key r.val r.cnt r.sum
def zeroR : RecV := ⟨0, 0, ⟨#[]⟩, ⟨#[]⟩, 0, 0⟩

/-! ### A piece at a time -/
/-- What is left behind a number. -/
def numT (s : ByteArray) : ByteArray := s.extract (rv s).2 s.size
theorem numT_var (n : Nat) (h : n ≤ 562949953421311) (T : ByteArray) : numT (varS (n : Int) ++ T) = T := by
  unfold numT
  rw [rv_var n h T]
  exact ba_drop _ _
theorem numT_whole (s : ByteArray) (h : (rv s).2 ≠ 0) : varS ((rv s).1 : Int) ++ numT s = s := rv_whole s h
theorem numT_size (s : ByteArray) : (numT s).size = s.size - (rv s).2 := ba_len _ _ _ (rv_bd s).2.2 (Nat.le_refl _)

/-- The text of which the length stands ahead; nothing where it goes past the end. -/
def txtV (s : ByteArray) : ByteArray := if (numT s).size < (rv s).1 then ⟨#[]⟩ else (numT s).extract 0 (rv s).1
def txtR (s : ByteArray) : ByteArray := if (numT s).size < (rv s).1 then numT s else (numT s).extract (rv s).1 (numT s).size
def txtF (s : ByteArray) : Bool := decide ((rv s).2 = 0 ∨ (numT s).size < (rv s).1)
theorem txt_text (t T : ByteArray) (h : t.size ≤ 562949953421311) : txtV (textS t ++ T) = t ∧ txtR (textS t ++ T) = T ∧ txtF (textS t ++ T) = false := by
  have e : textS t ++ T = varS (t.size : Int) ++ (t ++ T) := by unfold textS; rw [ByteArray.append_assoc]
  have h1 := rv_var t.size h (t ++ T)
  have h2 := numT_var t.size h (t ++ T)
  have h3 : ¬ (t ++ T).size < t.size := by rw [ByteArray.size_append]; omega
  have h4 := varS_pos t.size h
  unfold txtV txtR txtF
  rw [e, h1, h2]
  refine ⟨?_, ?_, ?_⟩
  · rw [if_neg h3]; exact ba_take _ _
  · rw [if_neg h3]; exact ba_drop _ _
  · apply decide_eq_false
    rintro (h | h)
    · simp only at h; omega
    · exact h3 h
theorem txt_back (s : ByteArray) (h : txtF s = false) : textS (txtV s) ++ txtR s = s := by
  have h' := of_decide_eq_false h
  have h1 : (rv s).2 ≠ 0 := fun e => h' (Or.inl e)
  have h2 : ¬ (numT s).size < (rv s).1 := fun e => h' (Or.inr e)
  unfold textS txtV txtR
  rw [if_neg h2, if_neg h2, ba_len _ _ _ (Nat.zero_le _) (by omega), Nat.sub_zero, ByteArray.append_assoc, ba_split, numT_whole s h1]
theorem txtV_size (s : ByteArray) : (txtV s).size ≤ s.size := by
  unfold txtV
  split
  · exact Nat.zero_le _
  · rw [ba_len _ _ _ (Nat.zero_le _) (by omega)]
    have := numT_size s
    omega
theorem txtR_size (s : ByteArray) : (txtR s).size ≤ s.size := by
  have h1 := numT_size s
  unfold txtR
  split
  · omega
  · rw [ba_len _ _ _ (by omega) (Nat.le_refl _)]
    omega

/-- Four bytes that tell a sum. -/
def sumV (s : ByteArray) : Nat := if 4 ≤ s.size then fixVal s 4 else 0
def sumR (s : ByteArray) : ByteArray := if 4 ≤ s.size then s.extract 4 s.size else s
def sumF (s : ByteArray) : Bool := decide (s.size < 4)
theorem p32 : (256 : Nat) ^ 4 = 4294967296 := by decide
theorem sum_fix (n : Nat) (h : n ≤ 4294967295) (T : ByteArray) : sumV (fixN (n : Int) 4 ++ T) = n ∧ sumR (fixN (n : Int) 4 ++ T) = T ∧ sumF (fixN (n : Int) 4 ++ T) = false := by
  have hn : n < 256 ^ 4 := by rw [p32]; omega
  rw [fixN_in n 4 hn]
  have hs : (strOfNums (low n 4)).size = 4 := by rw [strOfNums_size, low_length]
  have h4 : 4 ≤ (strOfNums (low n 4) ++ T).size := by rw [ByteArray.size_append, hs]; omega
  unfold sumV sumR sumF
  rw [if_pos h4, if_pos h4]
  refine ⟨fixVal_m n 4 hn T, ?_, decide_eq_false (by omega)⟩
  have := ba_drop (strOfNums (low n 4)) T
  rw [hs] at this
  exact this
theorem sumV_bd (s : ByteArray) : sumV s ≤ 4294967295 := by
  unfold sumV
  split
  · have := fixVal_lt s 4
    rw [p32] at this
    omega
  · omega
theorem sum_back (s : ByteArray) (h : sumF s = false) : fixN (sumV s : Int) 4 ++ sumR s = s := by
  have h' : 4 ≤ s.size := by have := of_decide_eq_false h; omega
  unfold sumV sumR
  rw [if_pos h', if_pos h', fixN_in _ 4 (fixVal_lt s 4), fix_back s 4 h', ba_split]

/-! ### The whole -/
/-- What a text is read as, whether right or not. -/
def parse (s : ByteArray) : RecV :=
  if (rv s).1 = 1 ∨ (rv s).1 = 4 then ⟨(rv s).1, (rv (numT s)).1, txtV (numT (numT s)), txtV (txtR (numT (numT s))), 0, 0⟩
  else if (rv s).1 = 2 then ⟨(rv s).1, (rv (numT s)).1, txtV (numT (numT s)), ⟨#[]⟩, 0, 0⟩
  else ⟨(rv s).1, (rv (numT s)).1, ⟨#[]⟩, ⟨#[]⟩, (rv (numT (numT s))).1, sumV (numT (numT (numT s)))⟩
/-- Nothing was missing, and nothing is left. -/
def Clean (s : ByteArray) : Prop :=
  (rv s).2 ≠ 0 ∧ (rv (numT s)).2 ≠ 0 ∧
    (if (rv s).1 = 1 ∨ (rv s).1 = 4 then txtF (numT (numT s)) = false ∧ txtF (txtR (numT (numT s))) = false ∧ (txtR (txtR (numT (numT s)))).size = 0
     else if (rv s).1 = 2 then txtF (numT (numT s)) = false ∧ (txtR (numT (numT s))).size = 0
     else (rv (numT (numT s))).2 ≠ 0 ∧ sumF (numT (numT (numT s))) = false ∧ (sumR (numT (numT (numT s)))).size = 0)

theorem app_nil (s : ByteArray) : s ++ (⟨#[]⟩ : ByteArray) = s := by
  apply bl_inj
  rw [bl_append]
  simp [bl]
/-- How a right record's text begins. -/
theorem show_head (k b : Nat) (hk : k ≤ 562949953421311) (hb : b ≤ 562949953421311) (B : ByteArray) :
    rv (varS (k : Int) ++ varS (b : Int) ++ B) = (k, (varS (k : Int)).size) ∧ rv (numT (varS (k : Int) ++ varS (b : Int) ++ B)) = (b, (varS (b : Int)).size) ∧ numT (numT (varS (k : Int) ++ varS (b : Int) ++ B)) = B := by
  rw [ByteArray.append_assoc, rv_var k hk, numT_var k hk, rv_var b hb, numT_var b hb]
  exact ⟨rfl, rfl, rfl⟩

theorem forth (q : RecV) (h : recOkB q = true) : parse (showS q) = q ∧ Clean (showS q) := by
  obtain ⟨k, b, key, val, c, s⟩ := q
  have hok : RecOkP k b key.size val.size c s := okN_iff.1 h
  have hsh : showS ⟨k, b, key, val, c, s⟩ = varS k ++ varS b ++ bodyS k key val c s := by
    unfold showS showN
    exact if_pos h
  rw [hsh]
  have hk0 : 0 ≤ k := by unfold RecOkP at hok; omega
  have hb0 : 0 ≤ b := by unfold RecOkP at hok; omega
  obtain ⟨K, rfl⟩ := Int.eq_ofNat_of_zero_le hk0
  obtain ⟨B, rfl⟩ := Int.eq_ofNat_of_zero_le hb0
  have hK : K ≤ 5 ∧ B ≤ 1000000 := by unfold RecOkP at hok; omega
  obtain ⟨e1, e2, e3⟩ := show_head K B (by omega) (by omega) (bodyS (K : Int) key val c s)
  have p1 := varS_pos K (by omega)
  have p2 := varS_pos B (by omega)
  by_cases h14 : K = 1 ∨ K = 4
  · have hz : key.size ≤ 8 ∧ val.size ≤ 24 ∧ c = 0 ∧ s = 0 := by unfold RecOkP at hok; omega
    obtain ⟨z1, z2, rfl, rfl⟩ := hz
    have hbd : bodyS (K : Int) key val 0 0 = textS key ++ textS val := by unfold bodyS; rw [if_pos (by omega)]
    obtain ⟨t1, t2, t3⟩ := txt_text key (textS val) (by omega)
    obtain ⟨t4, t5, t6⟩ := txt_text val ⟨#[]⟩ (by omega)
    rw [app_nil] at t4 t5 t6
    unfold parse Clean
    rw [e1, e2, e3, hbd]
    simp only
    rw [if_pos h14, if_pos h14, t1, t2, t3, t4, t5, t6]
    exact ⟨rfl, by omega, by omega, rfl, rfl, rfl⟩
  · by_cases h2 : K = 2
    · have hz : key.size ≤ 8 ∧ val.size = 0 ∧ c = 0 ∧ s = 0 := by unfold RecOkP at hok; omega
      obtain ⟨z1, z2, rfl, rfl⟩ := hz
      have hbd : bodyS (K : Int) key val 0 0 = textS key := by unfold bodyS; rw [if_neg (by omega), if_pos (by omega)]
      obtain ⟨t1, t2, t3⟩ := txt_text key ⟨#[]⟩ (by omega)
      rw [app_nil] at t1 t2 t3
      unfold parse Clean
      rw [e1, e2, e3, hbd]
      simp only
      rw [if_neg h14, if_neg h14, if_pos h2, if_pos h2, t1, t2, t3, empty_of z2]
      exact ⟨rfl, by omega, by omega, rfl, rfl⟩
    · have hz : key.size = 0 ∧ val.size = 0 ∧ 0 ≤ c ∧ c ≤ 20 ∧ 0 ≤ s ∧ s ≤ 4294967295 := by unfold RecOkP at hok; omega
      obtain ⟨z1, z2, z3, z4, z5, z6⟩ := hz
      obtain ⟨C, rfl⟩ := Int.eq_ofNat_of_zero_le z3
      obtain ⟨S, rfl⟩ := Int.eq_ofNat_of_zero_le z5
      have hbd : bodyS (K : Int) key val (C : Int) (S : Int) = varS (C : Int) ++ fixN (S : Int) 4 := by unfold bodyS totS; rw [if_neg (by omega), if_neg (by omega)]
      obtain ⟨t1, t2, t3⟩ := sum_fix S (by omega) ⟨#[]⟩
      rw [app_nil] at t1 t2 t3
      have p3 := varS_pos C (by omega)
      unfold parse Clean
      rw [e1, e2, e3, hbd, rv_var C (by omega), numT_var C (by omega)]
      simp only
      rw [if_neg h14, if_neg h14, if_neg h2, if_neg h2, t1, t2, t3, empty_of z1, empty_of z2]
      exact ⟨rfl, by omega, by omega, by omega, rfl, rfl⟩

theorem back (s : ByteArray) (hc : Clean s) (h : recOkB (parse s) = true) : showS (parse s) = s := by
  have hsh : showS (parse s) = varS (parse s).kind ++ varS (parse s).batch ++ bodyS (parse s).kind (parse s).key (parse s).val (parse s).cnt (parse s).sum := by
    unfold showS showN
    exact if_pos h
  rw [hsh]
  obtain ⟨c1, c2, c3⟩ := hc
  have w1 := numT_whole s c1
  have w2 := numT_whole (numT s) c2
  unfold parse
  by_cases h14 : (rv s).1 = 1 ∨ (rv s).1 = 4
  · rw [if_pos h14] at c3 ⊢
    simp only
    have hbd : bodyS ((rv s).1 : Int) (txtV (numT (numT s))) (txtV (txtR (numT (numT s)))) 0 0 = textS (txtV (numT (numT s))) ++ textS (txtV (txtR (numT (numT s)))) := by unfold bodyS; rw [if_pos (by omega)]
    rw [hbd]
    have w3 := txt_back _ c3.1
    have w4 := txt_back _ c3.2.1
    rw [empty_of c3.2.2, app_nil] at w4
    rw [w4, w3, ByteArray.append_assoc, w2, w1]
  · rw [if_neg h14] at c3 ⊢
    by_cases h2 : (rv s).1 = 2
    · rw [if_pos h2] at c3 ⊢
      simp only
      have hbd : bodyS ((rv s).1 : Int) (txtV (numT (numT s))) ⟨#[]⟩ 0 0 = textS (txtV (numT (numT s))) := by unfold bodyS; rw [if_neg (by omega), if_pos (by omega)]
      rw [hbd]
      have w3 := txt_back _ c3.1
      rw [empty_of c3.2, app_nil] at w3
      rw [w3, ByteArray.append_assoc, w2, w1]
    · rw [if_neg h2] at c3 ⊢
      simp only
      have hbd : bodyS ((rv s).1 : Int) ⟨#[]⟩ ⟨#[]⟩ ((rv (numT (numT s))).1 : Int) (sumV (numT (numT (numT s))) : Int) = varS ((rv (numT (numT s))).1 : Int) ++ fixN (sumV (numT (numT (numT s))) : Int) 4 := by unfold bodyS totS; rw [if_neg (by omega), if_neg (by omega)]
      rw [hbd]
      have w3 := numT_whole _ c3.1
      have w4 := sum_back _ c3.2.1
      rw [empty_of c3.2.2, app_nil] at w4
      rw [w4, w3, ByteArray.append_assoc, w2, w1]

theorem show_pos (r : RecV) (h : recOkB r = true) : 0 < (showS r).size := by
  have hc := (forth r h).2.1
  have := rv_bd (showS r)
  omega
theorem show_none (r : RecV) (h : recOkB r = false) : showS r = ⟨#[]⟩ := by
  unfold showS showN
  rw [if_neg (by unfold recOkB at h; rw [h]; simp)]
theorem show_inj (r q : RecV) (h : recOkB r = true) (h' : recOkB q = true) (e : showS r = showS q) : r = q := by
  rw [← (forth r h).1, e, (forth q h').1]

/-- What ReadRec tells of a text. -/
def RR (s : ByteArray) (r : RecV) (ok : Bool) : Prop :=
  (ok = true ∧ recOkB r = true ∧ showS r = s) ∨ (ok = false ∧ r = zeroR ∧ ∀ q, recOkB q = true → showS q ≠ s)
theorem RR_one {s : ByteArray} {r q : RecV} {a b : Bool} (h : RR s r a) (h' : RR s q b) : r = q ∧ a = b := by
  rcases h with ⟨rfl, h1, h2⟩ | ⟨rfl, rfl, h1⟩
  · rcases h' with ⟨rfl, h3, h4⟩ | ⟨_, _, h3⟩
    · exact ⟨show_inj r q h1 h3 (h2.trans h4.symm), rfl⟩
    · exact absurd h2 (h3 r h1)
  · rcases h' with ⟨rfl, h3, h4⟩ | ⟨rfl, rfl, _⟩
    · exact absurd h4 (h1 q h3)
    · exact ⟨rfl, rfl⟩
/-- What is read clean and right is what was shown. -/
theorem RR_yes (s : ByteArray) (hc : Clean s) (h : recOkB (parse s) = true) : RR s (parse s) true := Or.inl ⟨rfl, h, back s hc h⟩
theorem RR_unclean (s : ByteArray) (hc : ¬ Clean s) : RR s zeroR false :=
  Or.inr ⟨rfl, rfl, fun q hq e => hc (by rw [← e]; exact (forth q hq).2)⟩
theorem RR_wrong (s : ByteArray) (h : recOkB (parse s) = false) : RR s zeroR false :=
  Or.inr ⟨rfl, rfl, fun q hq e => by rw [← e, (forth q hq).1, hq] at h; cases h⟩

end Go.Proofs.YtimpokbcfjgdaaaDoor
