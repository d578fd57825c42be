/-
  What impl.ReadDec answers at every text of at most 1048576 bytes, where the library's table and its sentinel are as its text lays them; it makes new memory only. impl.IdOf, where the library's table and its sentinel are as its text lays them. impl.NameOk: a name is 1 to 12 bytes, each from a to z or 0 to 9. impl.bytesIn: how many bytes all files have.
-/
import Derived.Test.YthnealhaleccpaaGreatDoorG17
import Derived.Lib.AtoiBound
import Derived.WalkSmall
import Derived.Test.YthnealhaleccpaaGreatDoorG08
import Derived.Test.YthnealhaleccpaaGreatDoorG00
namespace Go.Proofs.YthnealhaleccpaaGreatDoor
open Go.RowKit
open Plain

def Syn (w : World) : Prop := ∃ tp p, w.var? Tryz.prog "strconv.ErrSyntax" = some #[.iface tp p]
theorem gSyn : Tryz.prog.globalNamed "strconv.ErrSyntax" = some 1 := by kernel_rfl

theorem Syn.later {w w' : World} (h : Syn w) (hb : Below w.heap.size w w') : Syn w' := by
  obtain ⟨tp, p, hv⟩ := h
  refine ⟨tp, p, ?_⟩
  have hg : 1 < w.heap.size := by
    unfold World.var? at hv
    rw [gSyn] at hv
    rcases Nat.lt_or_ge 1 w.heap.size with h | h
    · exact h
    · rw [Option.bind_some, Array.getElem?_eq_none h] at hv
      simp at hv
  exact var?_below hb gSyn hg hv

set_option maxRecDepth 100000 in
set_option maxHeartbeats 800000 in
theorem implReadDec_any (s : ByteArray) (w : World) (hs : s.size ≤ 1048576) (htab : Tab w) (hsyn : Syn w) :
    Calls Tryz.prog 32 #[.string s] w fun e w' => (∃ n ok, e = .returned (.tuple #[.int .i64 n, .bool ok]) ∧ DA s n ok) ∧ Below w.heap.size w w' := by
  have HT := hide htab
  have HY := hide hsyn
  clear htab hsyn
  by_cases hl : (Lib.trimPrefix s.data.toList [45]).length ≤ 9
  · have hsz : s.size ≤ 10 := by
      have := trim_len s.data.toList
      have e : s.data.toList.length = s.size := by simp
      omega
    cases ha : Lib.atoi s.data.toList with
    | none =>
      have HN : Hid (DA s 0 false) := hide (Or.inr ⟨rfl, rfl, fun m _ _ h => by rw [← h, atoi_itoa] at ha; cases ha⟩)
      have HA := hide ha
      clear ha
      go_enter Tryz.func32, Tryz.ntmps32
      go_wp2_with fail
      refine (Tryz.strings_TrimPrefix s ⟨#[45]⟩ _).mono ?_
      rintro e w1 ⟨rfl, rfl⟩
      have hl2 : (Lib.trimPrefix s.data.toList (ByteArray.mk #[45]).data.toList).length ≤ 9 := hl
      generalize Lib.trimPrefix s.data.toList (ByteArray.mk #[45]).data.toList = t at *
      clear hl
      go_wp2_with fail
      obtain ⟨tp, p, hvar⟩ := HY.out
      refine (Tryz.strconv_Atoi_err_var s (by omega) HA.out tp p _ hvar).mono ?_
      rintro e w2 ⟨N, rfl, _, _, hb⟩
      clear hvar HT HY HA
      go_wp2
      go_ret2
      exact ⟨⟨_, _, rfl, HN.out⟩, hb⟩
    | some n =>
      have hbd := Lib.atoi_bound ha (by have e : s.data.toList.length = s.size := by simp
                                        omega)
      by_cases hq : Lib.itoa n = s.data.toList
      · have HD : Hid (DA s n true) := hide (Or.inl ⟨rfl, hq, trim_range n (by rw [hq]; exact hl)⟩)
        have heq : ((itoaS n).toList == s.toList) = true := by
          rw [beq_iff_eq, ByteArray.toList_eq, ByteArray.toList_eq]; exact hq
        have HA := hide ha
        clear ha hq
        go_enter Tryz.func32, Tryz.ntmps32
        go_wp2_with fail
        refine (Tryz.strings_TrimPrefix s ⟨#[45]⟩ _).mono ?_
        rintro e w1 ⟨rfl, hw1⟩
        subst hw1
        have hl2 : (Lib.trimPrefix s.data.toList (ByteArray.mk #[45]).data.toList).length ≤ 9 := hl
        generalize Lib.trimPrefix s.data.toList (ByteArray.mk #[45]).data.toList = t at *
        clear hl
        go_wp2_with fail
        refine (Tryz.strconv_Atoi s n (by omega) HA.out _).mono ?_
        rintro e w2 ⟨rfl, u, rfl⟩
        have hb := Go.Joins.below_bytesWorld w1.heap.size w1 5 u (Nat.le_refl _)
        have HT2 := hide (HT.out.later hb)
        generalize Lib.bytesWorld w1 5 u = w2 at *
        go_wp2_with fail
        refine (implDec_any n _ (by omega) (by omega) HT2.out).mono ?_
        rintro e w3 ⟨rfl, hb3⟩
        have hB := hb.trans (hb3.mono hb.size)
        clear hb hb3 HT HT2 HY HA
        go_wp2
        go_ret2
        exact ⟨⟨_, _, rfl, HD.out⟩, hB⟩
      · have HD : Hid (DA s 0 false) := hide (Or.inr ⟨rfl, rfl, fun m _ _ h => by rw [← h, atoi_itoa] at ha; cases ha; exact hq h⟩)
        have heq : ((itoaS n).toList == s.toList) = false := by
          rw [beq_eq_false_iff_ne, ByteArray.toList_eq, ByteArray.toList_eq]; exact hq
        have HA := hide ha
        clear ha hq
        go_enter Tryz.func32, Tryz.ntmps32
        go_wp2_with fail
        refine (Tryz.strings_TrimPrefix s ⟨#[45]⟩ _).mono ?_
        rintro e w1 ⟨rfl, hw1⟩
        subst hw1
        have hl2 : (Lib.trimPrefix s.data.toList (ByteArray.mk #[45]).data.toList).length ≤ 9 := hl
        generalize Lib.trimPrefix s.data.toList (ByteArray.mk #[45]).data.toList = t at *
        clear hl
        go_wp2_with fail
        refine (Tryz.strconv_Atoi s n (by omega) HA.out _).mono ?_
        rintro e w2 ⟨rfl, u, rfl⟩
        have hb := Go.Joins.below_bytesWorld w1.heap.size w1 5 u (Nat.le_refl _)
        have HT2 := hide (HT.out.later hb)
        generalize Lib.bytesWorld w1 5 u = w2 at *
        go_wp2_with fail
        refine (implDec_any n _ (by omega) (by omega) HT2.out).mono ?_
        rintro e w3 ⟨rfl, hb3⟩
        have hB := hb.trans (hb3.mono hb.size)
        clear hb hb3 HT HT2 HY HA
        go_wp2
        go_ret2
        exact ⟨⟨_, _, rfl, HD.out⟩, hB⟩
  · have HD : Hid (DA s 0 false) := hide (Or.inr ⟨rfl, rfl, fun m h1 h2 h => hl (by rw [← h]; exact trim_short m h1 h2)⟩)
    go_enter Tryz.func32, Tryz.ntmps32
    go_wp2_with fail
    refine (Tryz.strings_TrimPrefix s ⟨#[45]⟩ _).mono ?_
    rintro e w1 ⟨rfl, hw1⟩
    subst hw1
    have hl2 : ¬ (Lib.trimPrefix s.data.toList (ByteArray.mk #[45]).data.toList).length ≤ 9 := hl
    have hl3 : (Lib.trimPrefix s.data.toList (ByteArray.mk #[45]).data.toList).length ≤ s.size := by
      unfold Lib.trimPrefix
      have e : s.data.toList.length = s.size := by simp
      split
      · rw [List.length_drop]; omega
      · omega
    generalize Lib.trimPrefix s.data.toList (ByteArray.mk #[45]).data.toList = t at *
    clear hl HT HY
    go_wp2
    go_ret2
    exact ⟨⟨_, _, rfl, HD.out⟩, Below.refl _ _⟩

end Go.Proofs.YthnealhaleccpaaGreatDoor
namespace Go.Proofs.YthnealhaleccpaaGreatDoor
open Go.RowKit
open Plain

theorem prefix_of {l p : List UInt8} (h : Lib.hasPrefix l p = true) : l = p ++ Lib.trimPrefix l p := by
  have h1 : p <+: l := by
    unfold Lib.hasPrefix at h
    simpa using h
  obtain ⟨t, rfl⟩ := h1
  unfold Lib.trimPrefix
  rw [if_pos h]
  simp
theorem prefix_yes (p t : List UInt8) : Lib.hasPrefix (p ++ t) p = true := by
  unfold Lib.hasPrefix
  rw [List.isPrefixOf_iff_prefix]
  exact List.prefix_append p t
/-- The number of a name off what stands behind its word. -/
theorem io_word (w t : ByteArray) (n : Int) (ok : Bool) (hr : rd t = (n, ok)) (hw : w = segP ∨ w = hintP) :
    io (w ++ t) = if ok = true ∧ 1 ≤ n ∧ n ≤ 100000 then (n, true) else (0, false) := by
  have hd := rd_DA t
  rw [hr] at hd
  split
  · rename_i h
    obtain ⟨rfl, h1, h2⟩ := h
    rcases hd with ⟨_, hi, _⟩ | ⟨h, _⟩
    · have ht : itoaS n = t := by unfold itoaS; rw [hi]
      refine io_of (Or.inl ⟨rfl, ⟨h1, h2⟩, ?_⟩)
      rcases hw with rfl | rfl
      · exact Or.inl (by rw [segS_in n ⟨h1, h2⟩, ht])
      · exact Or.inr (by rw [hintS_in n ⟨h1, h2⟩, ht])
    · cases h
  · rename_i h
    refine io_of (Or.inr ⟨rfl, rfl, ?_⟩)
    rintro m ⟨hm, he⟩
    have key : t = itoaS m := by
      rcases hw with rfl | rfl
      · rcases he with he | he
        · rw [segS_in m hm] at he
          have := seg_cut m hm
          rw [segS_in m hm, he] at this
          exact (ba_drop segP t).symm.trans this
        · exfalso
          have h1 := hint_head m hm
          rw [he, ByteArray.data_append, Array.toList_append] at h1
          cases h1
      · rcases he with he | he
        · exfalso
          have h1 := seg_head m hm
          rw [he, ByteArray.data_append, Array.toList_append] at h1
          cases h1
        · have := hint_cut m hm
          rw [he] at this
          exact (ba_drop hintP t).symm.trans this
    subst key
    rw [rd_itoa m (by omega) (by omega)] at hr
    injection hr with h1 h2
    subst h1; subst h2
    exact h ⟨rfl, hm⟩
theorem io_other (s : ByteArray) (h1 : Lib.hasPrefix s.data.toList segP.data.toList = false) (h2 : Lib.hasPrefix s.data.toList hintP.data.toList = false) : io s = (0, false) := by
  refine io_of (Or.inr ⟨rfl, rfl, ?_⟩)
  rintro m ⟨hm, rfl | rfl⟩
  · rw [segS_in m hm, ByteArray.data_append, Array.toList_append, prefix_yes] at h1
    cases h1
  · rw [hintS_in m hm, ByteArray.data_append, Array.toList_append, prefix_yes] at h2
    cases h2

theorem implRD_any (s : ByteArray) (hs : s.size ≤ 1048576) (w : World) (htab : Tab w) (hsyn : Syn w) : Calls Tryz.prog 32 #[.string s] w fun e w' => e = .returned (.tuple #[.int .i64 (rd s).1, .bool (rd s).2]) ∧ Below w.heap.size w w' := by
  refine (implReadDec_any s w hs htab hsyn).mono ?_
  rintro e w' ⟨⟨n, ok, rfl, h⟩, hb⟩
  rw [rd_of h]
  exact ⟨rfl, hb⟩

/-- What stands behind a word. -/
def behind (s p : ByteArray) : ByteArray := ⟨(Lib.trimPrefix s.data.toList p.data.toList).toArray⟩
theorem behind_eq {s p : ByteArray} (h : Lib.hasPrefix s.data.toList p.data.toList = true) : s = p ++ behind s p := by
  have e := prefix_of h
  have e2 : s.data.toList = (p ++ behind s p).data.toList := by
    rw [ByteArray.data_append, Array.toList_append]
    exact e
  exact toList_inj (by rw [ByteArray.toList_eq, ByteArray.toList_eq]; exact e2)
theorem behind_size (s p : ByteArray) : (behind s p).size ≤ s.size := by
  have e : s.data.toList.length = s.size := rfl
  show (Lib.trimPrefix s.data.toList p.data.toList).toArray.size ≤ s.size
  rw [List.size_toArray]
  unfold Lib.trimPrefix
  split
  · rw [List.length_drop]; omega
  · omega

set_option maxRecDepth 100000 in
set_option maxHeartbeats 4000000 in
theorem implIdOf_any (s : ByteArray) (hs : s.size ≤ 1048576) (w : World) (htab : Tab w) (hsyn : Syn w) : Calls Tryz.prog 11 #[.string s] w fun e w' => e = .returned (.tuple #[.int .i64 (io s).1, .bool (io s).2]) ∧ Below w.heap.size w w' := by
  have HC1 : Hid (Calls Tryz.prog 31 #[.string s, .string ⟨#[115, 101, 103]⟩] w fun e w' => e = .returned (.tuple #[.string (behind s segP), .bool (Lib.hasPrefix s.data.toList segP.data.toList)]) ∧ w' = w) := hide (Tryz.strings_CutPrefix s ⟨#[115, 101, 103]⟩ w)
  have HC2 : Hid (Calls Tryz.prog 31 #[.string s, .string ⟨#[104, 105, 110, 116]⟩] w fun e w' => e = .returned (.tuple #[.string (behind s hintP), .bool (Lib.hasPrefix s.data.toList hintP.data.toList)]) ∧ w' = w) := hide (Tryz.strings_CutPrefix s ⟨#[104, 105, 110, 116]⟩ w)
  have HID := hide (fun n W => idOk_any n W)
  have hz1 := behind_size s segP
  have hz2 := behind_size s hintP
  by_cases h1 : Lib.hasPrefix s.data.toList segP.data.toList = true
  · have hi := fun n ok h => io_word segP (behind s segP) n ok h (Or.inl rfl)
    rw [← behind_eq h1] at hi
    have HRD := hide (implRD_any (behind s segP) (by omega) w htab hsyn)
    obtain ⟨n, hn⟩ : ∃ n, (rd (behind s segP)).1 = n := ⟨_, rfl⟩
    obtain ⟨ok, hok⟩ : ∃ ok, (rd (behind s segP)).2 = ok := ⟨_, rfl⟩
    have HF : Hid ((ok = true ∧ 1 ≤ n ∧ n ≤ 100000 → io s = (n, true)) ∧ (¬ (ok = true ∧ 1 ≤ n ∧ n ≤ 100000) → io s = (0, false))) := hide (by
      have h := hi n ok (by rw [← hn, ← hok])
      exact ⟨fun q => by rw [h, if_pos q], fun q => by rw [h, if_neg q]⟩)
    rw [hn, hok] at HRD
    rw [h1] at HC1
    clear hn hok hi h1 hz1 hz2 HC2 htab hsyn
    generalize behind s segP = t at *
    go_enter Tryz.func11, Tryz.ntmps11
    go_wp2_with fail
    refine HC1.out.mono ?_
    rintro e w1 ⟨rfl, hw1⟩
    subst hw1
    clear HC1
    go_wp2_with fail
    refine HRD.out.mono ?_
    rintro e w2 ⟨rfl, hb2⟩
    have HB2 := hide hb2
    clear hb2 HRD
    cases ok with
    | false =>
      go_wp2
      go_ret2
      exact ⟨by rw [HF.out.2 (fun h => by cases h.1)]; rfl, HB2.out⟩
    | true =>
      go_wp2_with fail
      refine (HID.out n _).mono ?_
      rintro e w3 ⟨rfl, rfl⟩
      by_cases hb : 1 ≤ n ∧ n ≤ 100000
      · rw [decide_eq_true hb]
        have HV := hide (HF.out.1 ⟨by trivial, hb⟩)
        clear hb HF
        go_wp2
        go_ret2
        exact ⟨by rw [HV.out]; rfl, HB2.out⟩
      · rw [decide_eq_false hb]
        have HV := hide (HF.out.2 (fun h => hb h.2))
        clear hb HF
        go_wp2
        go_ret2
        exact ⟨by rw [HV.out]; rfl, HB2.out⟩
  · have h1 : Lib.hasPrefix s.data.toList segP.data.toList = false := by simpa using h1
    rw [h1] at HC1
    by_cases h2 : Lib.hasPrefix s.data.toList hintP.data.toList = true
    · have hi := fun n ok h => io_word hintP (behind s hintP) n ok h (Or.inr rfl)
      rw [← behind_eq h2] at hi
      have HRD := hide (implRD_any (behind s hintP) (by omega) w htab hsyn)
      obtain ⟨n, hn⟩ : ∃ n, (rd (behind s hintP)).1 = n := ⟨_, rfl⟩
      obtain ⟨ok, hok⟩ : ∃ ok, (rd (behind s hintP)).2 = ok := ⟨_, rfl⟩
      have HF : Hid ((ok = true ∧ 1 ≤ n ∧ n ≤ 100000 → io s = (n, true)) ∧ (¬ (ok = true ∧ 1 ≤ n ∧ n ≤ 100000) → io s = (0, false))) := hide (by
        have h := hi n ok (by rw [← hn, ← hok])
        exact ⟨fun q => by rw [h, if_pos q], fun q => by rw [h, if_neg q]⟩)
      rw [hn, hok] at HRD
      rw [h2] at HC2
      clear hn hok hi h1 h2 hz1 hz2 htab hsyn
      generalize behind s segP = t0 at *
      generalize behind s hintP = t at *
      go_enter Tryz.func11, Tryz.ntmps11
      go_wp2_with fail
      refine HC1.out.mono ?_
      rintro e w1 ⟨rfl, hw1⟩
      subst hw1
      clear HC1
      go_wp2_with fail
      refine HC2.out.mono ?_
      rintro e w1 ⟨rfl, hw1⟩
      subst hw1
      clear HC2
      go_wp2_with fail
      refine HRD.out.mono ?_
      rintro e w2 ⟨rfl, hb2⟩
      have HB2 := hide hb2
      clear hb2 HRD
      cases ok with
      | false =>
        go_wp2
        go_ret2
        exact ⟨by rw [HF.out.2 (fun h => by cases h.1)]; rfl, HB2.out⟩
      | true =>
        go_wp2_with fail
        refine (HID.out n _).mono ?_
        rintro e w3 ⟨rfl, rfl⟩
        by_cases hb : 1 ≤ n ∧ n ≤ 100000
        · rw [decide_eq_true hb]
          have HV := hide (HF.out.1 ⟨by trivial, hb⟩)
          clear hb HF
          go_wp2
          go_ret2
          exact ⟨by rw [HV.out]; rfl, HB2.out⟩
        · rw [decide_eq_false hb]
          have HV := hide (HF.out.2 (fun h => hb h.2))
          clear hb HF
          go_wp2
          go_ret2
          exact ⟨by rw [HV.out]; rfl, HB2.out⟩
    · have h2 : Lib.hasPrefix s.data.toList hintP.data.toList = false := by simpa using h2
      have HV := hide (io_other s h1 h2)
      have HRD := hide (implRD_any (behind s hintP) (by omega) w htab hsyn)
      rw [h2] at HC2
      clear h1 h2 hz1 hz2 htab hsyn
      generalize (rd (behind s hintP)).1 = n at *
      generalize (rd (behind s hintP)).2 = ok at *
      generalize behind s segP = t0 at *
      generalize behind s hintP = t at *
      go_enter Tryz.func11, Tryz.ntmps11
      go_wp2_with fail
      refine HC1.out.mono ?_
      rintro e w1 ⟨rfl, hw1⟩
      subst hw1
      clear HC1
      go_wp2_with fail
      refine HC2.out.mono ?_
      rintro e w1 ⟨rfl, hw1⟩
      subst hw1
      clear HC2
      go_wp2_with fail
      refine HRD.out.mono ?_
      rintro e w2 ⟨rfl, hb2⟩
      have HB2 := hide hb2
      clear hb2 HRD
      go_wp2
      go_ret2
      exact ⟨by rw [HV.out]; rfl, HB2.out⟩

end Go.Proofs.YthnealhaleccpaaGreatDoor
namespace Go.Proofs.YthnealhaleccpaaGreatDoor
open Go.RowKit
open Plain

set_option maxRecDepth 100000 in
set_option maxHeartbeats 1000000 in
theorem implName_any (s : ByteArray) (w : World) (hs : s.size ≤ 1099511627776) :
    Calls Tryz.prog 64 #[.string s] w fun e w' => e = .returned (.bool (nameOk s)) ∧ w = w' := by
  by_cases q1 : s.size < 1
  · have t1 : decide ((s.size : Int) < 1) = true := by simp; omega
    have HV : Hid (nameOk s = false) := hide (by unfold nameOk; rw [decide_eq_false (p := 1 ≤ s.size ∧ s.size ≤ 12) (by omega), Bool.and_false])
    go_enter Tryz.func64, Tryz.ntmps64
    go_wp2
    go_ret
    exact ⟨by rw [HV.out]; rfl, rfl⟩
  · have t1 : decide ((s.size : Int) < 1) = false := by simp; omega
    by_cases q2 : 12 < s.size
    · have t2 : decide ((12 : Int) < (s.size : Int)) = true := by simp; omega
      have HV : Hid (nameOk s = false) := hide (by unfold nameOk; rw [decide_eq_false (p := 1 ≤ s.size ∧ s.size ≤ 12) (by omega), Bool.and_false])
      go_enter Tryz.func64, Tryz.ntmps64
      go_wp2
      go_ret
      exact ⟨by rw [HV.out]; rfl, rfl⟩
    · have t2 : decide ((12 : Int) < (s.size : Int)) = false := by simp; omega
      go_enter Tryz.func64, Tryz.ntmps64
      go_wp2
      go_loop [16] (fun i => ∃ k : Nat, k ≤ s.size ∧ i = .int .i64 k ∧ Hid (((bl s).take k).all nmB = true)) (fun i => s.size - (intOf i).toNat)
      case atStart => exact ⟨0, by omega, rfl, hide (by simp)⟩
      case round =>
        obtain ⟨k, hk, rfl, HA⟩ := hrel
        by_cases hlt : k < s.size
        · have hb := UInt8.toNat_lt s[k]
          have HS := hide (all_take_succ s k hlt)
          have HN : Hid (nmB s[k].toNat = true → ((bl s).take (k + 1)).all nmB = true) := hide (fun h => by rw [HS.out, HA.out, h]; rfl)
          have HF : Hid (nmB s[k].toNat = false → nameOk s = false) := hide (fun h => by
            unfold nameOk
            have h2 : (bl s).all nmB = false := by
              cases hall : (bl s).all nmB with
              | false => rfl
              | true =>
                have h3 := List.all_eq_true.1 hall (s[k].toNat) (by
                  have := bl_get s k hlt
                  exact List.mem_of_getElem? this)
                rw [h] at h3
                cases h3
            rw [h2]
            rfl)
          clear HS HA
          by_cases c1 : 97 ≤ s[k].toNat
          · by_cases c2 : s[k].toNat ≤ 122
            · have HN2 := hide (HN.out (by simp [nmB, c1, c2]))
              have d1 : decide ((97 : Int) ≤ (s[k].toNat : Int)) = true := by simp; omega
              have d2 : decide ((s[k].toNat : Int) ≤ 122) = true := by simp; omega
              have d3 : decide ((48 : Int) ≤ (s[k].toNat : Int)) = true := by simp; omega
              have d4 : decide ((s[k].toNat : Int) ≤ 57) = false := by simp; omega
              go_wp2
              go_round
              case rel => exact ⟨k + 1, by omega, by go_num, HN2⟩
              case measure => first | (simp [intOf]; done) | (simp [intOf]; omega)
            · have HF2 := hide (HF.out (by simp [nmB]; omega))
              have d1 : decide ((97 : Int) ≤ (s[k].toNat : Int)) = true := by simp; omega
              have d2 : decide ((s[k].toNat : Int) ≤ 122) = false := by simp; omega
              have d3 : decide ((48 : Int) ≤ (s[k].toNat : Int)) = true := by simp; omega
              have d4 : decide ((s[k].toNat : Int) ≤ 57) = false := by simp; omega
              go_wp2
              go_ret
              exact ⟨by rw [HF2.out]; rfl, rfl⟩
          · by_cases c3 : 48 ≤ s[k].toNat
            · by_cases c4 : s[k].toNat ≤ 57
              · have HN2 := hide (HN.out (by simp [nmB, c3, c4]))
                have d1 : decide ((97 : Int) ≤ (s[k].toNat : Int)) = false := by simp; omega
                have d3 : decide ((48 : Int) ≤ (s[k].toNat : Int)) = true := by simp; omega
                have d4 : decide ((s[k].toNat : Int) ≤ 57) = true := by simp; omega
                go_wp2
                go_round
                case rel => exact ⟨k + 1, by omega, by go_num, HN2⟩
                case measure => first | (simp [intOf]; done) | (simp [intOf]; omega)
              · have HF2 := hide (HF.out (by simp [nmB]; omega))
                have d1 : decide ((97 : Int) ≤ (s[k].toNat : Int)) = false := by simp; omega
                have d3 : decide ((48 : Int) ≤ (s[k].toNat : Int)) = true := by simp; omega
                have d4 : decide ((s[k].toNat : Int) ≤ 57) = false := by simp; omega
                go_wp2
                go_ret
                exact ⟨by rw [HF2.out]; rfl, rfl⟩
            · have HF2 := hide (HF.out (by simp [nmB]; omega))
              have d1 : decide ((97 : Int) ≤ (s[k].toNat : Int)) = false := by simp; omega
              have d3 : decide ((48 : Int) ≤ (s[k].toNat : Int)) = false := by simp; omega
              go_wp2
              go_ret
              exact ⟨by rw [HF2.out]; rfl, rfl⟩
        · obtain rfl : k = s.size := by omega
          have HL : Hid (nameOk s = true) := hide (by
            have h := HA.out
            rw [List.take_of_length_le (by rw [bl_length]; exact Nat.le_refl _)] at h
            unfold nameOk
            rw [h, Bool.true_and]
            exact decide_eq_true (by omega))
          go_wp2
          go_ret
          exact ⟨by rw [HL.out]; rfl, rfl⟩

end Go.Proofs.YthnealhaleccpaaGreatDoor
namespace Go.Proofs.YthnealhaleccpaaGreatDoor
open Go.RowKit
open Plain

set_option maxRecDepth 100000 in
set_option maxHeartbeats 1000000 in
theorem implBytes_any (w : World) (a : Option Addr) (n cap : Nat) (fs : List FileV) (hr : FRow w 0 a n fs) (hn : n ≤ 1099511627776) (hu : usedF fs ≤ 1099511627776) :
    Calls Tryz.prog 65 #[.slice a n cap] w fun e w' => e = .returned (.int .i64 (usedF fs)) ∧ Below w.heap.size w w' := by
  have HR := hide hr
  have hlen := hr.len
  clear hr
  go_enter Tryz.func65, Tryz.ntmps65
  go_wp2
  go_loopw [3, 8] (fun v i wr => ∃ k : Nat, k ≤ n ∧ i = .int .i64 k ∧ v = .int .i64 (usedF (fs.take k) : Nat) ∧ Hid (Below w.heap.size w wr)) (fun _ i _ => n - (intOf i).toNat)
  case atStart => exact ⟨0, by omega, rfl, by simp [usedF], hide (Below.refl _ _)⟩
  case round =>
    obtain ⟨k, hk, rfl, rfl, HB⟩ := hrel
    by_cases hlt : k < n
    · have hkf : k < fs.length := by omega
      obtain ⟨b, off, rfl, -, hbw, e1, e2, e3⟩ := (HR.out.later HB.out (Nat.le_refl _)).cells k hkf
      have hst := hide (usedF_take_succ fs k hkf)
      have hle := usedF_take_le fs (k + 1)
      have hst2 := hst.out
      have hS : usedF (fs.take k) + (fs[k]).text.size ≤ 1099511627776 := by omega
      clear hle hst2
      generalize usedF (fs.take k) = S at *
      go_wp2
      go_roundw
      case rel => exact ⟨k + 1, by omega, by go_num, by rw [hst.out]; go_num, hide (HB.out.alloc HB.out.size _)⟩
      case measure => first | (simp [intOf]; done) | (simp [intOf]; omega)
    · obtain rfl : k = n := by omega
      rw [List.take_of_length_le (by omega)]
      go_wp2
      go_ret
      exact ⟨rfl, HB.out⟩

end Go.Proofs.YthnealhaleccpaaGreatDoor
