/-
  impl.IdOf, where the library's table and its sentinel are as its text lays them.
-/
import Derived.Test.YthnealhaleccpabDoorNamesIdP
import Derived.Test.YthnealhaleccpabDoorIdOkI
import Derived.Test.YthnealhaleccpabDoorReadDecImpl
import Derived.Test.YthnealhaleccpabDoorRecBase
namespace Go.Proofs.YthnealhaleccpabDoor
open Go.RowKit
open Plain

theorem prefix_of {l p : List UInt8} (h : Lib.hasPrefix l p = true) : l = p ++ Lib.trimPrefix l p := by
  have h1 : p <+: l := by
    unfold Lib.hasPrefix at h
    simpa using h
  obtain ⟨t, rfl⟩ := h1
  unfold Lib.trimPrefix
  rw [if_pos h]
  simp
theorem prefix_yes (p t : List UInt8) : Lib.hasPrefix (p ++ t) p = true := by
  unfold Lib.hasPrefix
  rw [List.isPrefixOf_iff_prefix]
  exact List.prefix_append p t
/-- The number of a name off what stands behind its word. -/
theorem io_word (w t : ByteArray) (n : Int) (ok : Bool) (hr : rd t = (n, ok)) (hw : w = segP ∨ w = hintP) :
    io (w ++ t) = if ok = true ∧ 1 ≤ n ∧ n ≤ 100000 then (n, true) else (0, false) := by
  have hd := rd_DA t
  rw [hr] at hd
  split
  · rename_i h
    obtain ⟨rfl, h1, h2⟩ := h
    rcases hd with ⟨_, hi, _⟩ | ⟨h, _⟩
    · have ht : itoaS n = t := by unfold itoaS; rw [hi]
      refine io_of (Or.inl ⟨rfl, ⟨h1, h2⟩, ?_⟩)
      rcases hw with rfl | rfl
      · exact Or.inl (by rw [segS_in n ⟨h1, h2⟩, ht])
      · exact Or.inr (by rw [hintS_in n ⟨h1, h2⟩, ht])
    · cases h
  · rename_i h
    refine io_of (Or.inr ⟨rfl, rfl, ?_⟩)
    rintro m ⟨hm, he⟩
    have key : t = itoaS m := by
      rcases hw with rfl | rfl
      · rcases he with he | he
        · rw [segS_in m hm] at he
          have := seg_cut m hm
          rw [segS_in m hm, he] at this
          exact (ba_drop segP t).symm.trans this
        · exfalso
          have h1 := hint_head m hm
          rw [he, ByteArray.data_append, Array.toList_append] at h1
          cases h1
      · rcases he with he | he
        · exfalso
          have h1 := seg_head m hm
          rw [he, ByteArray.data_append, Array.toList_append] at h1
          cases h1
        · have := hint_cut m hm
          rw [he] at this
          exact (ba_drop hintP t).symm.trans this
    subst key
    rw [rd_itoa m (by omega) (by omega)] at hr
    injection hr with h1 h2
    subst h1; subst h2
    exact h ⟨rfl, hm⟩
theorem io_other (s : ByteArray) (h1 : Lib.hasPrefix s.data.toList segP.data.toList = false) (h2 : Lib.hasPrefix s.data.toList hintP.data.toList = false) : io s = (0, false) := by
  refine io_of (Or.inr ⟨rfl, rfl, ?_⟩)
  rintro m ⟨hm, rfl | rfl⟩
  · rw [segS_in m hm, ByteArray.data_append, Array.toList_append, prefix_yes] at h1
    cases h1
  · rw [hintS_in m hm, ByteArray.data_append, Array.toList_append, prefix_yes] at h2
    cases h2

theorem implRD_any (s : ByteArray) (hs : s.size ≤ 1048576) (w : World) (htab : Tab w) (hsyn : Syn w) : Calls Tryd.prog 24 #[.string s] w fun e w' => e = .returned (.tuple #[.int .i64 (rd s).1, .bool (rd s).2]) ∧ Below w.heap.size w w' := by
  refine (implReadDec_any s w hs htab hsyn).mono ?_
  rintro e w' ⟨⟨n, ok, rfl, h⟩, hb⟩
  rw [rd_of h]
  exact ⟨rfl, hb⟩

/-- What stands behind a word. -/
def behind (s p : ByteArray) : ByteArray := ⟨(Lib.trimPrefix s.data.toList p.data.toList).toArray⟩
theorem behind_eq {s p : ByteArray} (h : Lib.hasPrefix s.data.toList p.data.toList = true) : s = p ++ behind s p := by
  have e := prefix_of h
  have e2 : s.data.toList = (p ++ behind s p).data.toList := by
    rw [ByteArray.data_append, Array.toList_append]
    exact e
  exact toList_inj (by rw [ByteArray.toList_eq, ByteArray.toList_eq]; exact e2)
theorem behind_size (s p : ByteArray) : (behind s p).size ≤ s.size := by
  have e : s.data.toList.length = s.size := rfl
  show (Lib.trimPrefix s.data.toList p.data.toList).toArray.size ≤ s.size
  rw [List.size_toArray]
  unfold Lib.trimPrefix
  split
  · rw [List.length_drop]; omega
  · omega

set_option maxRecDepth 100000 in
set_option maxHeartbeats 4000000 in
theorem implIdOf_any (s : ByteArray) (hs : s.size ≤ 1048576) (w : World) (htab : Tab w) (hsyn : Syn w) : Calls Tryd.prog 6 #[.string s] w fun e w' => e = .returned (.tuple #[.int .i64 (io s).1, .bool (io s).2]) ∧ Below w.heap.size w w' := by
  have HC1 : Hid (Calls Tryd.prog 23 #[.string s, .string ⟨#[115, 101, 103]⟩] w fun e w' => e = .returned (.tuple #[.string (behind s segP), .bool (Lib.hasPrefix s.data.toList segP.data.toList)]) ∧ w' = w) := hide (Tryd.strings_CutPrefix s ⟨#[115, 101, 103]⟩ w)
  have HC2 : Hid (Calls Tryd.prog 23 #[.string s, .string ⟨#[104, 105, 110, 116]⟩] w fun e w' => e = .returned (.tuple #[.string (behind s hintP), .bool (Lib.hasPrefix s.data.toList hintP.data.toList)]) ∧ w' = w) := hide (Tryd.strings_CutPrefix s ⟨#[104, 105, 110, 116]⟩ w)
  have HID := hide (fun n W => idOk_any n W)
  have hz1 := behind_size s segP
  have hz2 := behind_size s hintP
  by_cases h1 : Lib.hasPrefix s.data.toList segP.data.toList = true
  · have hi := fun n ok h => io_word segP (behind s segP) n ok h (Or.inl rfl)
    rw [← behind_eq h1] at hi
    have HRD := hide (implRD_any (behind s segP) (by omega) w htab hsyn)
    obtain ⟨n, hn⟩ : ∃ n, (rd (behind s segP)).1 = n := ⟨_, rfl⟩
    obtain ⟨ok, hok⟩ : ∃ ok, (rd (behind s segP)).2 = ok := ⟨_, rfl⟩
    have HF : Hid ((ok = true ∧ 1 ≤ n ∧ n ≤ 100000 → io s = (n, true)) ∧ (¬ (ok = true ∧ 1 ≤ n ∧ n ≤ 100000) → io s = (0, false))) := hide (by
      have h := hi n ok (by rw [← hn, ← hok])
      exact ⟨fun q => by rw [h, if_pos q], fun q => by rw [h, if_neg q]⟩)
    rw [hn, hok] at HRD
    rw [h1] at HC1
    clear hn hok hi h1 hz1 hz2 HC2 htab hsyn
    generalize behind s segP = t at *
    go_enter Tryd.func6, Tryd.ntmps6
    go_wp2_with fail
    refine HC1.out.mono ?_
    rintro e w1 ⟨rfl, hw1⟩
    subst hw1
    clear HC1
    go_wp2_with fail
    refine HRD.out.mono ?_
    rintro e w2 ⟨rfl, hb2⟩
    have HB2 := hide hb2
    clear hb2 HRD
    cases ok with
    | false =>
      go_wp2
      go_ret2
      exact ⟨by rw [HF.out.2 (fun h => by cases h.1)]; rfl, HB2.out⟩
    | true =>
      go_wp2_with fail
      refine (HID.out n _).mono ?_
      rintro e w3 ⟨rfl, rfl⟩
      by_cases hb : 1 ≤ n ∧ n ≤ 100000
      · rw [decide_eq_true hb]
        have HV := hide (HF.out.1 ⟨by trivial, hb⟩)
        clear hb HF
        go_wp2
        go_ret2
        exact ⟨by rw [HV.out]; rfl, HB2.out⟩
      · rw [decide_eq_false hb]
        have HV := hide (HF.out.2 (fun h => hb h.2))
        clear hb HF
        go_wp2
        go_ret2
        exact ⟨by rw [HV.out]; rfl, HB2.out⟩
  · have h1 : Lib.hasPrefix s.data.toList segP.data.toList = false := by simpa using h1
    rw [h1] at HC1
    by_cases h2 : Lib.hasPrefix s.data.toList hintP.data.toList = true
    · have hi := fun n ok h => io_word hintP (behind s hintP) n ok h (Or.inr rfl)
      rw [← behind_eq h2] at hi
      have HRD := hide (implRD_any (behind s hintP) (by omega) w htab hsyn)
      obtain ⟨n, hn⟩ : ∃ n, (rd (behind s hintP)).1 = n := ⟨_, rfl⟩
      obtain ⟨ok, hok⟩ : ∃ ok, (rd (behind s hintP)).2 = ok := ⟨_, rfl⟩
      have HF : Hid ((ok = true ∧ 1 ≤ n ∧ n ≤ 100000 → io s = (n, true)) ∧ (¬ (ok = true ∧ 1 ≤ n ∧ n ≤ 100000) → io s = (0, false))) := hide (by
        have h := hi n ok (by rw [← hn, ← hok])
        exact ⟨fun q => by rw [h, if_pos q], fun q => by rw [h, if_neg q]⟩)
      rw [hn, hok] at HRD
      rw [h2] at HC2
      clear hn hok hi h1 h2 hz1 hz2 htab hsyn
      generalize behind s segP = t0 at *
      generalize behind s hintP = t at *
      go_enter Tryd.func6, Tryd.ntmps6
      go_wp2_with fail
      refine HC1.out.mono ?_
      rintro e w1 ⟨rfl, hw1⟩
      subst hw1
      clear HC1
      go_wp2_with fail
      refine HC2.out.mono ?_
      rintro e w1 ⟨rfl, hw1⟩
      subst hw1
      clear HC2
      go_wp2_with fail
      refine HRD.out.mono ?_
      rintro e w2 ⟨rfl, hb2⟩
      have HB2 := hide hb2
      clear hb2 HRD
      cases ok with
      | false =>
        go_wp2
        go_ret2
        exact ⟨by rw [HF.out.2 (fun h => by cases h.1)]; rfl, HB2.out⟩
      | true =>
        go_wp2_with fail
        refine (HID.out n _).mono ?_
        rintro e w3 ⟨rfl, rfl⟩
        by_cases hb : 1 ≤ n ∧ n ≤ 100000
        · rw [decide_eq_true hb]
          have HV := hide (HF.out.1 ⟨by trivial, hb⟩)
          clear hb HF
          go_wp2
          go_ret2
          exact ⟨by rw [HV.out]; rfl, HB2.out⟩
        · rw [decide_eq_false hb]
          have HV := hide (HF.out.2 (fun h => hb h.2))
          clear hb HF
          go_wp2
          go_ret2
          exact ⟨by rw [HV.out]; rfl, HB2.out⟩
    · have h2 : Lib.hasPrefix s.data.toList hintP.data.toList = false := by simpa using h2
      have HV := hide (io_other s h1 h2)
      have HRD := hide (implRD_any (behind s hintP) (by omega) w htab hsyn)
      rw [h2] at HC2
      clear h1 h2 hz1 hz2 htab hsyn
      generalize (rd (behind s hintP)).1 = n at *
      generalize (rd (behind s hintP)).2 = ok at *
      generalize behind s segP = t0 at *
      generalize behind s hintP = t at *
      go_enter Tryd.func6, Tryd.ntmps6
      go_wp2_with fail
      refine HC1.out.mono ?_
      rintro e w1 ⟨rfl, hw1⟩
      subst hw1
      clear HC1
      go_wp2_with fail
      refine HC2.out.mono ?_
      rintro e w1 ⟨rfl, hw1⟩
      subst hw1
      clear HC2
      go_wp2_with fail
      refine HRD.out.mono ?_
      rintro e w2 ⟨rfl, hb2⟩
      have HB2 := hide hb2
      clear hb2 HRD
      go_wp2
      go_ret2
      exact ⟨by rw [HV.out]; rfl, HB2.out⟩

end Go.Proofs.YthnealhaleccpabDoor
