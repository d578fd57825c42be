/-
  The number of a name, as the two programs look for it: what stands behind the first three bytes, or the first four.
-/
import Derived.Test.YthnealhaleccpabDoorNamesPlain
namespace Go.Proofs.YthnealhaleccpabDoor
open Go.RowKit
open Plain

/-- ReadDec as a function. -/
def rd (s : ByteArray) : Int × Bool :=
  match Lib.atoi s.data.toList with
  | some n => if Lib.itoa n = s.data.toList ∧ -999999999 ≤ n ∧ n ≤ 999999999 then (n, true) else (0, false)
  | none => (0, false)
theorem rd_DA (s : ByteArray) : DA s (rd s).1 (rd s).2 := by
  unfold rd
  split
  · rename_i n h
    split
    · rename_i h1
      exact Or.inl ⟨rfl, h1⟩
    · rename_i h1
      refine Or.inr ⟨rfl, rfl, fun m m1 m2 e => h1 ?_⟩
      rw [← e, atoi_itoa] at h
      injection h with h
      subst h
      exact ⟨e, m1, m2⟩
  · rename_i h
    refine Or.inr ⟨rfl, rfl, fun m _ _ e => ?_⟩
    rw [← e, atoi_itoa] at h
    cases h
theorem rd_of {s : ByteArray} {n : Int} {ok : Bool} (h : DA s n ok) : rd s = (n, ok) := by
  obtain ⟨h1, h2⟩ := DA_one (rd_DA s) h
  rw [← h1, ← h2]
theorem rd_itoa (n : Int) (h1 : -999999999 ≤ n) (h2 : n ≤ 999999999) : rd (itoaS n) = (n, true) := rd_of (Or.inl ⟨rfl, rfl, h1, h2⟩)
theorem rd_bd (s : ByteArray) : -999999999 ≤ (rd s).1 ∧ (rd s).1 ≤ 999999999 := by
  rcases rd_DA s with ⟨_, _, h⟩ | ⟨_, h, _⟩
  · exact h
  · omega
/-- Does the number behind the first k bytes make this name? -/
def cutN (s : ByteArray) (k : Nat) : ByteArray := s.extract k s.size
def hitB (s : ByteArray) (k : Nat) : Bool := decide (k < s.size) && ((rd (cutN s k)).2 && (decide (1 ≤ (rd (cutN s k)).1) && (decide (segS (rd (cutN s k)).1 = s) || decide (hintS (rd (cutN s k)).1 = s))))
theorem hit_name {s : ByteArray} {k : Nat} (h : hitB s k = true) : IsName s (rd (cutN s k)).1 := by
  unfold hitB at h
  rw [Bool.and_eq_true, Bool.and_eq_true, Bool.and_eq_true, Bool.or_eq_true, decide_eq_true_iff, decide_eq_true_iff, decide_eq_true_iff, decide_eq_true_iff] at h
  obtain ⟨h1, _, h3, h4⟩ := h
  have hb : (rd (cutN s k)).1 ≤ 100000 := by
    rcases Int.lt_or_le 100000 (rd (cutN s k)).1 with hlt | hle
    · exfalso
      rcases h4 with h4 | h4
      · unfold segS at h4
        rw [if_neg (by omega)] at h4
        rw [← h4] at h1
        exact absurd h1 (by simp [ByteArray.size])
      · unfold hintS at h4
        rw [if_neg (by omega)] at h4
        rw [← h4] at h1
        exact absurd h1 (by simp [ByteArray.size])
    · exact hle
  exact ⟨⟨h3, hb⟩, h4⟩
theorem itoaS_pos (n : Int) : 0 < (itoaS n).size := by
  have h := first_itoa (itoaS n) n rfl
  exact h.1
theorem hit_seg (n : Int) (h : 1 ≤ n ∧ n ≤ 100000) : hitB (segS n) 3 = true := by
  have e : cutN (segS n) 3 = itoaS n := seg_cut n h
  have hz : 3 < (segS n).size := by
    rw [segS_in n h, ByteArray.size_append]
    have := itoaS_pos n
    have e3 : segP.size = 3 := rfl
    omega
  unfold hitB
  rw [e, rd_itoa n (by omega) (by omega)]
  simp [hz, h.1]
theorem hit_hint (n : Int) (h : 1 ≤ n ∧ n ≤ 100000) : hitB (hintS n) 4 = true := by
  have e : cutN (hintS n) 4 = itoaS n := hint_cut n h
  have hz : 4 < (hintS n).size := by
    rw [hintS_in n h, ByteArray.size_append]
    have := itoaS_pos n
    have e3 : hintP.size = 4 := rfl
    omega
  unfold hitB
  rw [e, rd_itoa n (by omega) (by omega)]
  simp [hz, h.1]
theorem no_hit {s : ByteArray} (h3 : hitB s 3 = false) (h4 : hitB s 4 = false) : ∀ m, ¬ IsName s m := by
  rintro m ⟨hm, rfl | rfl⟩
  · rw [hit_seg m hm] at h3
    cases h3
  · rw [hit_hint m hm] at h4
    cases h4
theorem io_hit {s : ByteArray} {k : Nat} (h : hitB s k = true) : io s = ((rd (cutN s k)).1, true) := io_of (Or.inl ⟨rfl, hit_name h⟩)
theorem io_none {s : ByteArray} (h3 : hitB s 3 = false) (h4 : hitB s 4 = false) : io s = (0, false) := io_of (Or.inr ⟨rfl, rfl, no_hit h3 h4⟩)

end Go.Proofs.YthnealhaleccpabDoor
