/-
  What impl.ReadDec answers at every text of at most 1048576 bytes, where the library's table and its sentinel are as its text lays them; it makes new memory only.
-/
import Derived.Test.YthnealhaleccpabDoorPlainDec
import Derived.Test.YthnealhaleccpabDoorDecImpl
import Derived.Lib.AtoiBound
import Derived.WalkSmall
namespace Go.Proofs.YthnealhaleccpabDoor
open Go.RowKit
open Plain

def Syn (w : World) : Prop := ∃ tp p, w.var? Tryd.prog "strconv.ErrSyntax" = some #[.iface tp p]
theorem gSyn : Tryd.prog.globalNamed "strconv.ErrSyntax" = some 0 := by kernel_rfl

theorem Syn.later {w w' : World} (h : Syn w) (hb : Below w.heap.size w w') : Syn w' := by
  obtain ⟨tp, p, hv⟩ := h
  refine ⟨tp, p, ?_⟩
  have hg : 0 < w.heap.size := by
    unfold World.var? at hv
    rw [gSyn] at hv
    rcases Nat.lt_or_ge 0 w.heap.size with h | h
    · exact h
    · rw [Option.bind_some, Array.getElem?_eq_none h] at hv
      simp at hv
  exact var?_below hb gSyn hg hv

set_option maxRecDepth 100000 in
set_option maxHeartbeats 800000 in
theorem implReadDec_any (s : ByteArray) (w : World) (hs : s.size ≤ 1048576) (htab : Tab w) (hsyn : Syn w) :
    Calls Tryd.prog 24 #[.string s] w fun e w' => (∃ n ok, e = .returned (.tuple #[.int .i64 n, .bool ok]) ∧ DA s n ok) ∧ Below w.heap.size w w' := by
  have HT := hide htab
  have HY := hide hsyn
  clear htab hsyn
  by_cases hl : (Lib.trimPrefix s.data.toList [45]).length ≤ 9
  · have hsz : s.size ≤ 10 := by
      have := trim_len s.data.toList
      have e : s.data.toList.length = s.size := by simp
      omega
    cases ha : Lib.atoi s.data.toList with
    | none =>
      have HN : Hid (DA s 0 false) := hide (Or.inr ⟨rfl, rfl, fun m _ _ h => by rw [← h, atoi_itoa] at ha; cases ha⟩)
      have HA := hide ha
      clear ha
      go_enter Tryd.func24, Tryd.ntmps24
      go_wp2_with fail
      refine (Tryd.strings_TrimPrefix s ⟨#[45]⟩ _).mono ?_
      rintro e w1 ⟨rfl, rfl⟩
      have hl2 : (Lib.trimPrefix s.data.toList (ByteArray.mk #[45]).data.toList).length ≤ 9 := hl
      generalize Lib.trimPrefix s.data.toList (ByteArray.mk #[45]).data.toList = t at *
      clear hl
      go_wp2_with fail
      obtain ⟨tp, p, hvar⟩ := HY.out
      refine (Tryd.strconv_Atoi_err_var s (by omega) HA.out tp p _ hvar).mono ?_
      rintro e w2 ⟨N, rfl, _, _, hb⟩
      clear hvar HT HY HA
      go_wp2
      go_ret2
      exact ⟨⟨_, _, rfl, HN.out⟩, hb⟩
    | some n =>
      have hbd := Lib.atoi_bound ha (by have e : s.data.toList.length = s.size := by simp
                                        omega)
      by_cases hq : Lib.itoa n = s.data.toList
      · have HD : Hid (DA s n true) := hide (Or.inl ⟨rfl, hq, trim_range n (by rw [hq]; exact hl)⟩)
        have heq : ((itoaS n).toList == s.toList) = true := by
          rw [beq_iff_eq, ByteArray.toList_eq, ByteArray.toList_eq]; exact hq
        have HA := hide ha
        clear ha hq
        go_enter Tryd.func24, Tryd.ntmps24
        go_wp2_with fail
        refine (Tryd.strings_TrimPrefix s ⟨#[45]⟩ _).mono ?_
        rintro e w1 ⟨rfl, hw1⟩
        subst hw1
        have hl2 : (Lib.trimPrefix s.data.toList (ByteArray.mk #[45]).data.toList).length ≤ 9 := hl
        generalize Lib.trimPrefix s.data.toList (ByteArray.mk #[45]).data.toList = t at *
        clear hl
        go_wp2_with fail
        refine (Tryd.strconv_Atoi s n (by omega) HA.out _).mono ?_
        rintro e w2 ⟨rfl, u, rfl⟩
        have hb := Go.Joins.below_bytesWorld w1.heap.size w1 5 u (Nat.le_refl _)
        have HT2 := hide (HT.out.later hb)
        generalize Lib.bytesWorld w1 5 u = w2 at *
        go_wp2_with fail
        refine (implDec_any n _ (by omega) (by omega) HT2.out).mono ?_
        rintro e w3 ⟨rfl, hb3⟩
        have hB := hb.trans (hb3.mono hb.size)
        clear hb hb3 HT HT2 HY HA
        go_wp2
        go_ret2
        exact ⟨⟨_, _, rfl, HD.out⟩, hB⟩
      · have HD : Hid (DA s 0 false) := hide (Or.inr ⟨rfl, rfl, fun m _ _ h => by rw [← h, atoi_itoa] at ha; cases ha; exact hq h⟩)
        have heq : ((itoaS n).toList == s.toList) = false := by
          rw [beq_eq_false_iff_ne, ByteArray.toList_eq, ByteArray.toList_eq]; exact hq
        have HA := hide ha
        clear ha hq
        go_enter Tryd.func24, Tryd.ntmps24
        go_wp2_with fail
        refine (Tryd.strings_TrimPrefix s ⟨#[45]⟩ _).mono ?_
        rintro e w1 ⟨rfl, hw1⟩
        subst hw1
        have hl2 : (Lib.trimPrefix s.data.toList (ByteArray.mk #[45]).data.toList).length ≤ 9 := hl
        generalize Lib.trimPrefix s.data.toList (ByteArray.mk #[45]).data.toList = t at *
        clear hl
        go_wp2_with fail
        refine (Tryd.strconv_Atoi s n (by omega) HA.out _).mono ?_
        rintro e w2 ⟨rfl, u, rfl⟩
        have hb := Go.Joins.below_bytesWorld w1.heap.size w1 5 u (Nat.le_refl _)
        have HT2 := hide (HT.out.later hb)
        generalize Lib.bytesWorld w1 5 u = w2 at *
        go_wp2_with fail
        refine (implDec_any n _ (by omega) (by omega) HT2.out).mono ?_
        rintro e w3 ⟨rfl, hb3⟩
        have hB := hb.trans (hb3.mono hb.size)
        clear hb hb3 HT HT2 HY HA
        go_wp2
        go_ret2
        exact ⟨⟨_, _, rfl, HD.out⟩, hB⟩
  · have HD : Hid (DA s 0 false) := hide (Or.inr ⟨rfl, rfl, fun m h1 h2 h => hl (by rw [← h]; exact trim_short m h1 h2)⟩)
    go_enter Tryd.func24, Tryd.ntmps24
    go_wp2_with fail
    refine (Tryd.strings_TrimPrefix s ⟨#[45]⟩ _).mono ?_
    rintro e w1 ⟨rfl, hw1⟩
    subst hw1
    have hl2 : ¬ (Lib.trimPrefix s.data.toList (ByteArray.mk #[45]).data.toList).length ≤ 9 := hl
    have hl3 : (Lib.trimPrefix s.data.toList (ByteArray.mk #[45]).data.toList).length ≤ s.size := by
      unfold Lib.trimPrefix
      have e : s.data.toList.length = s.size := by simp
      split
      · rw [List.length_drop]; omega
      · omega
    generalize Lib.trimPrefix s.data.toList (ByteArray.mk #[45]).data.toList = t at *
    clear hl HT HY
    go_wp2
    go_ret2
    exact ⟨⟨_, _, rfl, HD.out⟩, Below.refl _ _⟩

end Go.Proofs.YthnealhaleccpabDoor
