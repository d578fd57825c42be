/-
  How the specification reads a record's text, with no Go in sight; spec.l5Text.
-/
import Derived.Test.YtkcjlalkniaapaaDoorRecNum
import Derived.Test.YtkcjlalkniaapaaDoorReadRecI
import Derived.BigQuiet
import Derived.Deep.QuietTactic
namespace Go.Proofs.YtkcjlalkniaapaaDoor
open Go.RowKit
open Plain

def t5V (s : ByteArray) : ByteArray := if txtF s = true then ⟨#[]⟩ else s.extract (rv s).2 ((rv s).2 + (rv s).1)
def t5R (s : ByteArray) : ByteArray := if txtF s = true then ⟨#[]⟩ else s.extract ((rv s).2 + (rv s).1) s.size
theorem cut_cut (s : ByteArray) (a b : Nat) (h : a ≤ s.size) : (s.extract a s.size).extract b (s.extract a s.size).size = s.extract (a + b) s.size := by
  apply bl_inj
  rw [bl_extract, bl_extract, bl_extract, ba_len s a s.size h (Nat.le_refl _)]
  rw [List.take_of_length_le (by rw [List.length_drop, List.length_take, bl_length]; omega), List.drop_drop]
theorem cut_take (s : ByteArray) (a n : Nat) : (s.extract a s.size).extract 0 n = s.extract a (a + n) := by
  apply bl_inj
  have e : (bl s).take s.size = bl s := List.take_of_length_le (by rw [bl_length]; exact Nat.le_refl _)
  rw [bl_extract, bl_extract, bl_extract, List.drop_zero, e, List.take_drop]
theorem t5_txt (s : ByteArray) (h : txtF s = false) : t5V s = txtV s ∧ t5R s = txtR s := by
  have h' := of_decide_eq_false h
  have h2 : ¬ (numT s).size < (rv s).1 := fun e => h' (Or.inr e)
  have e1 : t5V s = s.extract (rv s).2 ((rv s).2 + (rv s).1) := by unfold t5V; rw [if_neg (by rw [h]; simp)]
  have e2 : t5R s = s.extract ((rv s).2 + (rv s).1) s.size := by unfold t5R; rw [if_neg (by rw [h]; simp)]
  rw [e1, e2]
  unfold txtV txtR
  rw [if_neg h2, if_neg h2]
  unfold numT
  rw [cut_take, cut_cut s _ _ (rv_bd s).2.2]
  exact ⟨rfl, rfl⟩
theorem t5R_size (s : ByteArray) : (t5R s).size ≤ s.size := by
  unfold t5R
  split
  · exact Nat.zero_le _
  · rw [← bl_length, bl_extract, List.length_drop, List.length_take, bl_length]; omega
theorem t5V_size (s : ByteArray) : (t5V s).size ≤ s.size := by
  unfold t5V
  split
  · exact Nat.zero_le _
  · rw [← bl_length, bl_extract, List.length_drop, List.length_take, bl_length]; omega
theorem rest_eq (s : ByteArray) : s.extract ((rv s).2 + (rv (numT s)).2) s.size = numT (numT s) := by
  rw [numT.eq_1 (numT s)]
  conv => rhs; unfold numT
  rw [cut_cut s _ _ (rv_bd s).2.2]
  rfl

/-- What the specification reads, whether right or not. -/
def sparse (s : ByteArray) : RecV :=
  if (rv s).1 = 1 ∨ (rv s).1 = 4 then ⟨(rv s).1, (rv (numT s)).1, t5V (numT (numT s)), t5V (t5R (numT (numT s))), 0, 0⟩
  else if (rv s).1 = 2 then ⟨(rv s).1, (rv (numT s)).1, t5V (numT (numT s)), ⟨#[]⟩, 0, 0⟩
  else ⟨(rv s).1, (rv (numT s)).1, ⟨#[]⟩, ⟨#[]⟩, (rv (numT (numT s))).1, sumV (numT (numT (numT s)))⟩
theorem sparse_clean (s : ByteArray) (h : Clean s) : sparse s = parse s := by
  obtain ⟨_, _, h⟩ := h
  unfold sparse parse
  by_cases h14 : (rv s).1 = 1 ∨ (rv s).1 = 4
  · rw [if_pos h14] at h
    rw [if_pos h14, if_pos h14, (t5_txt _ h.1).1, (t5_txt _ h.1).2, (t5_txt _ h.2.1).1]
  · rw [if_neg h14] at h
    rw [if_neg h14, if_neg h14]
    by_cases h2 : (rv s).1 = 2
    · rw [if_pos h2] at h
      rw [if_pos h2, if_pos h2, (t5_txt _ h.1).1]
    · rw [if_neg h2, if_neg h2]
theorem forthS (q : RecV) (h : recOkB q = true) : sparse (showS q) = q := by
  rw [sparse_clean _ (forth q h).2, (forth q h).1]
theorem RR_same (s : ByteArray) (h0 : ¬ s.size = 0) (h : showS (sparse s) = s) : RR s (sparse s) true := by
  refine Or.inl ⟨rfl, ?_, h⟩
  cases hr : recOkB (sparse s) with
  | true => rfl
  | false =>
    rw [show_none _ hr] at h
    exact absurd (by rw [← h]; rfl) h0
theorem RR_other (s : ByteArray) (h : ¬ showS (sparse s) = s) : RR s zeroR false :=
  Or.inr ⟨rfl, rfl, fun q hq e => h (by rw [← e, forthS q hq])⟩
theorem RR_empty (s : ByteArray) (h0 : s.size = 0) : RR s zeroR false :=
  Or.inr ⟨rfl, rfl, fun q hq e => by have := show_pos q hq; rw [e] at this; omega⟩
theorem sparse_size (s : ByteArray) : (sparse s).val.size ≤ s.size := by
  have h1 := t5V_size (t5R (numT (numT s)))
  have h2 := t5R_size (numT (numT s))
  have h3 : (numT (numT s)).size ≤ s.size := by rw [numT_size, numT_size]; omega
  unfold sparse
  split
  · simp only; omega
  · split
    · exact Nat.zero_le _
    · exact Nat.zero_le _

set_option maxRecDepth 100000 in
set_option maxHeartbeats 1000000 in
theorem l5Text_any (s : ByteArray) (hs : s.size ≤ 1048576) : Ans 68 #[.string s] (.tuple #[.string (t5V s), .string (t5R s), .bool (!txtF s)]) := by
  intro w
  have HR := hide (specRV_any s hs)
  have hbd := rv_bd s
  have hz := numT_size s
  by_cases h0 : (rv s).2 = 0
  · have HF : Hid (txtF s = true ∧ t5V s = ⟨#[]⟩ ∧ t5R s = ⟨#[]⟩) := hide (by
      have e : txtF s = true := decide_eq_true (Or.inl h0)
      exact ⟨e, by unfold t5V; rw [if_pos e], by unfold t5R; rw [if_pos e]⟩)
    have t0 : (((rv s).2 : Int) == 0) = true := by simp; omega
    clear h0 hz hbd
    generalize (rv s).1 = n at *
    generalize (rv s).2 = k at *
    go_enter Tryd.func68, Tryd.ntmps68
    go_wp2_with (go_at_call 47; refine (HR.out _).mono ?_; rintro e w1 ⟨rfl, hb1⟩)
    obtain ⟨e1, e2, e3⟩ := HF.out
    rw [e1, e2, e3]
    refine bodyPost_ret (v := .tuple #[.string ⟨#[]⟩, .string ⟨#[]⟩, .bool false]) (by simp [results, Tryd.results68, go_sem]) rfl ⟨rfl, hb1⟩
  · have t0 : (((rv s).2 : Int) == 0) = false := by simp; omega
    by_cases h1 : (numT s).size < (rv s).1
    · have HF : Hid (txtF s = true ∧ t5V s = ⟨#[]⟩ ∧ t5R s = ⟨#[]⟩) := hide (by
        have e : txtF s = true := decide_eq_true (Or.inr h1)
        exact ⟨e, by unfold t5V; rw [if_pos e], by unfold t5R; rw [if_pos e]⟩)
      have t1 : decide ((s.size : Int) - ((rv s).2 : Int) < ((rv s).1 : Int)) = true := by simp; omega
      clear h0 hz h1
      generalize (rv s).1 = n at *
      generalize (rv s).2 = k at *
      go_enter Tryd.func68, Tryd.ntmps68
      go_wp2_with (go_at_call 47; refine (HR.out _).mono ?_; rintro e w1 ⟨rfl, hb1⟩)
      obtain ⟨e1, e2, e3⟩ := HF.out
      rw [e1, e2, e3]
      refine bodyPost_ret (v := .tuple #[.string ⟨#[]⟩, .string ⟨#[]⟩, .bool false]) (by simp [results, Tryd.results68, go_sem]) rfl ⟨rfl, hb1⟩
    · have HF : Hid (txtF s = false ∧ t5V s = s.extract (rv s).2 ((rv s).2 + (rv s).1) ∧ t5R s = s.extract ((rv s).2 + (rv s).1) s.size) := hide (by
        have e : txtF s = false := decide_eq_false (by omega)
        exact ⟨e, by unfold t5V; rw [if_neg (by rw [e]; simp)], by unfold t5R; rw [if_neg (by rw [e]; simp)]⟩)
      have t1 : decide ((s.size : Int) - ((rv s).2 : Int) < ((rv s).1 : Int)) = false := by simp; omega
      have hle : (rv s).2 + (rv s).1 ≤ s.size := by omega
      clear h0 hz h1
      generalize (rv s).1 = n at *
      generalize (rv s).2 = k at *
      go_enter Tryd.func68, Tryd.ntmps68
      go_wp2_with (go_at_call 47; refine (HR.out _).mono ?_; rintro e w1 ⟨rfl, hb1⟩)
      have b1 : (0 : Int) ≤ (k : Int) := by omega
      have b2 : (k : Int) ≤ (k : Int) + (n : Int) := by omega
      have b3 : (k : Int) + (n : Int) ≤ (s.size : Int) := by omega
      have b4 : (0 : Int) ≤ (k : Int) + (n : Int) := by omega
      have b5 : IntKind.i64.wrap ((k : Int) + (n : Int)) = (k : Int) + (n : Int) := by rw [IntKind.wrap_i64]; omega
      go_quiet (fail)
      go_wp2
      obtain ⟨e1, e2, e3⟩ := HF.out
      rw [e1, e2, e3]
      refine bodyPost_ret (v := .tuple #[.string (s.extract k (k + n)), .string (s.extract (k + n) s.size), .bool true]) (by simp [results, Tryd.results68, go_sem]) rfl ⟨rfl, ⟨hb1.os, hb1.tape, hb1.output, hb1.size, hb1.block⟩⟩

end Go.Proofs.YtkcjlalkniaapaaDoor
