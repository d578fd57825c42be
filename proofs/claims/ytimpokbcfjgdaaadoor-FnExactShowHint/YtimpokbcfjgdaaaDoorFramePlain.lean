/-
  Frames with no Go in sight: what Frame makes, and with whose frame a text begins.
-/
import Derived.Test.YtimpokbcfjgdaaaDoorRecPlain
import Derived.Test.YtimpokbcfjgdaaaDoorCrcPlain
namespace Go.Proofs.YtimpokbcfjgdaaaDoor
open Go.RowKit
open Plain

theorem cut_cut (s : ByteArray) (a b : Nat) (h : a ≤ s.size) : (s.extract a s.size).extract b (s.extract a s.size).size = s.extract (a + b) s.size := by
  apply bl_inj
  rw [bl_extract, bl_extract, bl_extract, ba_len s a s.size h (Nat.le_refl _)]
  rw [List.take_of_length_le (by rw [List.length_drop, List.length_take, bl_length]; omega), List.drop_drop]
theorem cut_take (s : ByteArray) (a n : Nat) : (s.extract a s.size).extract 0 n = s.extract a (a + n) := by
  apply bl_inj
  have e : (bl s).take s.size = bl s := List.take_of_length_le (by rw [bl_length]; exact Nat.le_refl _)
  rw [bl_extract, bl_extract, bl_extract, List.drop_zero, e, List.take_drop]
theorem crcN_le (s : ByteArray) : crcN s ≤ 4294967295 := by
  have h := crc_ck s
  have := ck_lt s s.size
  omega
/-- The sum of a text, four bytes. -/
def sumS (t : ByteArray) : ByteArray := fixN (crcN t : Int) 4
theorem sumS_size (t : ByteArray) : (sumS t).size = 4 := by
  unfold sumS
  rw [fixN_in _ 4 (by rw [p32]; have := crcN_le t; omega), strOfNums_size, low_length]
def frameS (s : ByteArray) : ByteArray := if s.size ≤ 200 then sumS (textS s) ++ textS s else ⟨#[]⟩
theorem frameS_in (s : ByteArray) (h : s.size ≤ 200) : frameS s = sumS (textS s) ++ textS s := if_pos h
theorem frameS_out (s : ByteArray) (h : ¬ s.size ≤ 200) : frameS s = ⟨#[]⟩ := if_neg h
theorem textS_size' (s : ByteArray) : (textS s).size ≤ 7 + s.size := by
  unfold textS
  rw [ByteArray.size_append]
  have := varS_size (s.size : Int)
  omega
theorem frameS_size (s : ByteArray) : (frameS s).size ≤ 211 := by
  unfold frameS
  split
  · rw [ByteArray.size_append, sumS_size]
    have := textS_size' s
    omega
  · exact Nat.zero_le _

/-- A text that begins with a frame: of which text, and how many bytes the frame has. -/
def uf (s : ByteArray) : ByteArray × Nat :=
  if s.size < 5 ∨ (rv (s.extract 4 s.size)).2 = 0 ∨ 200 < (rv (s.extract 4 s.size)).1 ∨ s.size < 4 + (rv (s.extract 4 s.size)).2 + (rv (s.extract 4 s.size)).1 then (⟨#[]⟩, 0)
  else if s.extract 0 (4 + (rv (s.extract 4 s.size)).2 + (rv (s.extract 4 s.size)).1) = frameS (s.extract (4 + (rv (s.extract 4 s.size)).2) (4 + (rv (s.extract 4 s.size)).2 + (rv (s.extract 4 s.size)).1))
  then (s.extract (4 + (rv (s.extract 4 s.size)).2) (4 + (rv (s.extract 4 s.size)).2 + (rv (s.extract 4 s.size)).1), 4 + (rv (s.extract 4 s.size)).2 + (rv (s.extract 4 s.size)).1) else (⟨#[]⟩, 0)
/-- The same in words. -/
def UF (s t : ByteArray) (n : Nat) : Prop :=
  (t.size ≤ 200 ∧ n = (frameS t).size ∧ ∃ T, s = frameS t ++ T) ∨ (n = 0 ∧ t = ⟨#[]⟩ ∧ ∀ u T, u.size ≤ 200 → s ≠ frameS u ++ T)

theorem drop4 (A T : ByteArray) (h : A.size = 4) : (A ++ T).extract 4 (A ++ T).size = T := by
  have := ba_drop A T
  rw [h] at this
  exact this
theorem uf_frame (u T : ByteArray) (h : u.size ≤ 200) : uf (frameS u ++ T) = (u, (frameS u).size) := by
  have e0 : frameS u ++ T = sumS (textS u) ++ (textS u ++ T) := by rw [frameS_in u h, ByteArray.append_assoc]
  have e4 : (frameS u ++ T).extract 4 (frameS u ++ T).size = textS u ++ T := by rw [e0]; exact drop4 _ _ (sumS_size _)
  have e1 : textS u ++ T = varS (u.size : Int) ++ (u ++ T) := by unfold textS; rw [ByteArray.append_assoc]
  have er : rv (textS u ++ T) = (u.size, (varS (u.size : Int)).size) := by rw [e1]; exact rv_var u.size (by omega) _
  have hp := varS_pos u.size (by omega)
  have hz : (frameS u).size = 4 + (varS (u.size : Int)).size + u.size := by
    rw [frameS_in u h, ByteArray.size_append, sumS_size]
    unfold textS
    rw [ByteArray.size_append]
    omega
  have hs : (frameS u ++ T).size = (frameS u).size + T.size := ByteArray.size_append
  have et : (frameS u ++ T).extract (4 + (varS (u.size : Int)).size) (4 + (varS (u.size : Int)).size + u.size) = u := by
    have e5 : frameS u ++ T = (sumS (textS u) ++ varS (u.size : Int)) ++ (u ++ T) := by rw [e0, e1, ByteArray.append_assoc]
    have e6 := cut_take (frameS u ++ T) (4 + (varS (u.size : Int)).size) u.size
    rw [← e6]
    have e7 : (sumS (textS u) ++ varS (u.size : Int)).size = 4 + (varS (u.size : Int)).size := by rw [ByteArray.size_append, sumS_size]
    rw [e5, ← e7, ba_drop, ba_take]
  unfold uf
  rw [e4, er]
  simp only
  rw [if_neg (by omega), et, ← hz, ba_take, if_pos rfl]
theorem uf_UF (s : ByteArray) : UF s (uf s).1 (uf s).2 := by
  by_cases h : ∃ u T, u.size ≤ 200 ∧ s = frameS u ++ T
  · obtain ⟨u, T, h1, rfl⟩ := h
    rw [uf_frame u T h1]
    exact Or.inl ⟨h1, rfl, T, rfl⟩
  · have hn : ∀ u T, u.size ≤ 200 → s ≠ frameS u ++ T := fun u T h1 h2 => h ⟨u, T, h1, h2⟩
    refine Or.inr ?_
    unfold uf
    split
    · exact ⟨rfl, rfl, hn⟩
    · rename_i hc
      split
      · rename_i he
        exfalso
        have hsz : (s.extract (4 + (rv (s.extract 4 s.size)).2) (4 + (rv (s.extract 4 s.size)).2 + (rv (s.extract 4 s.size)).1)).size = (rv (s.extract 4 s.size)).1 := by rw [ba_len _ _ _ (by omega) (by omega)]; omega
        refine hn (s.extract (4 + (rv (s.extract 4 s.size)).2) (4 + (rv (s.extract 4 s.size)).2 + (rv (s.extract 4 s.size)).1)) (s.extract (4 + (rv (s.extract 4 s.size)).2 + (rv (s.extract 4 s.size)).1) s.size) ?_ ?_
        · rw [hsz]; omega
        · rw [← he, ba_split]
      · exact ⟨rfl, rfl, hn⟩
theorem UF_one {s t u : ByteArray} {n m : Nat} (h : UF s t n) (h' : UF s u m) : t = u ∧ n = m := by
  rcases h with ⟨h1, rfl, T, rfl⟩ | ⟨rfl, rfl, h1⟩
  · rcases h' with ⟨g1, rfl, T', e⟩ | ⟨_, _, g1⟩
    · have e1 := uf_frame t T h1
      rw [e, uf_frame u T' g1] at e1
      injection e1 with a b
      exact ⟨a.symm, b.symm⟩
    · exact absurd rfl (g1 t T h1)
  · rcases h' with ⟨g1, rfl, T', e⟩ | ⟨rfl, rfl, _⟩
    · exact absurd e (h1 u T' g1)
    · exact ⟨rfl, rfl⟩
theorem uf_of {s t : ByteArray} {n : Nat} (h : UF s t n) : uf s = (t, n) := by
  obtain ⟨h1, h2⟩ := UF_one (uf_UF s) h
  rw [← h1, ← h2]
theorem uf_bd (s : ByteArray) : (uf s).1.size ≤ 200 ∧ (uf s).2 ≤ s.size ∧ (uf s).2 ≤ 211 := by
  rcases uf_UF s with ⟨h1, h2, T, h3⟩ | ⟨h1, h2, _⟩
  · have := frameS_size (uf s).1
    have e : s.size = (frameS (uf s).1).size + T.size := by rw [← ByteArray.size_append, ← h3]
    omega
  · rw [h1, h2]
    exact ⟨Nat.zero_le _, Nat.zero_le _, Nat.zero_le _⟩

end Go.Proofs.YtimpokbcfjgdaaaDoor
