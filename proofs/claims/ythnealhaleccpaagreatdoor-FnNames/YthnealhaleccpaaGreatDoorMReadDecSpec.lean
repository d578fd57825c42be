/-
  What spec.ReadDec answers at every text of at most 1048576 bytes; it makes new memory only.
-/
import Derived.Test.YthnealhaleccpaaGreatDoorG17
import Derived.Test.YthnealhaleccpaaGreatDoorG06
namespace Go.Proofs.YthnealhaleccpaaGreatDoor
open Go.RowKit
open Plain

def RDPost (s : ByteArray) (e : Ending) : Prop := ∃ n ok, e = .returned (.tuple #[.int .i64 n, .bool ok]) ∧ DA s n ok
theorem rd_mk {s : ByteArray} {n : Int} {ok : Bool} (h : DA s n ok) : RDPost s (.returned (.tuple #[.int .i64 n, .bool ok])) := ⟨n, ok, rfl, h⟩
theorem sv_small (l : List Nat) (h : l.length ≤ 10) : (sv l).1 < 10000000000 ∧ (sv l).2 ≤ 10 := by
  have hb := sv_bd l
  have h2 : 10 ^ (sv l).2 ≤ 10 ^ 10 := Nat.pow_le_pow_right (by omega) (by omega)
  have h3 : (10 : Nat) ^ 10 = 10000000000 := by decide
  omega
theorem sv_small11 (l : List Nat) (h : l.length ≤ 11) : (sv l).1 < 100000000000 ∧ (sv l).2 ≤ 11 := by
  have hb := sv_bd l
  have h2 : 10 ^ (sv l).2 ≤ 10 ^ 11 := Nat.pow_le_pow_right (by omega) (by omega)
  have h3 : (10 : Nat) ^ 11 = 100000000000 := by decide
  omega
theorem sv_digit (s : ByteArray) (j : Nat) (h : j < s.size) (hd : 48 ≤ s[j].toNat ∧ s[j].toNat ≤ 57) : sv ((bl s).take (j + 1)) = ((sv ((bl s).take j)).1 * 10 + (s[j].toNat - 48), (sv ((bl s).take j)).2 + 1) := by
  rw [bl_take_succ s j h, sv_snoc]; unfold svStep; rw [if_pos hd]
theorem sv_other (s : ByteArray) (j : Nat) (h : j < s.size) (hd : ¬ (48 ≤ s[j].toNat ∧ s[j].toNat ≤ 57)) : sv ((bl s).take (j + 1)) = sv ((bl s).take j) := by
  rw [bl_take_succ s j h, sv_snoc]; unfold svStep; rw [if_neg hd]
theorem long_no (s : ByteArray) (h : 10 < s.size) : DA s 0 false := Or.inr ⟨rfl, rfl, fun m h1 h2 e => by
  have := size_itoa s m e
  have h3 := (digits_len 8 m.natAbs).2 (by rw [pow9]; omega)
  omega⟩
theorem many_no (s : ByteArray) (h : 9 < (sv (bl s)).2) : DA s 0 false := Or.inr ⟨rfl, rfl, fun m h1 h2 e => by
  rw [sv_of s m e] at h
  have h3 := (digits_len 8 m.natAbs).2 (by rw [pow9]; omega)
  omega⟩
theorem fit_yes (s : ByteArray) (n : Int) (h : (sv (bl s)).2 ≤ 9) (e : Lib.itoa n = s.data.toList) : DA s n true := Or.inl ⟨rfl, e, by
  rw [sv_of s n e] at h
  have h3 := (digits_len 8 n.natAbs).1 h
  rw [pow9] at h3
  omega⟩
theorem fit_no (s : ByteArray) (n : Int) (hn : 0 < s.size → n = if (bl s).getD 0 0 = 45 then -((sv (bl s)).1 : Int) else ((sv (bl s)).1 : Int)) (e : Lib.itoa n ≠ s.data.toList) : DA s 0 false := Or.inr ⟨rfl, rfl, fun m _ _ em => by
  have h1 := first_itoa s m em
  have h2 := sv_of s m em
  have hn' := hn h1.1
  rw [h2] at hn'
  apply e
  rw [← em]
  congr 1
  rw [hn']
  by_cases hm : m < 0
  · rw [if_pos (h1.2.2 hm)]; simp only; omega
  · rw [if_neg (fun h => hm (h1.2.1 h))]; simp only; omega⟩

set_option maxRecDepth 100000 in
set_option maxHeartbeats 1600000 in
theorem specReadDec_any (s : ByteArray) (w : World) (hs : s.size ≤ 1048576) :
    Calls Tryz.prog 38 #[.string s] w fun e w' => RDPost s e ∧ Below w.heap.size w w' := by
  go_enter Tryz.func38, Tryz.ntmps38
  go_wp2
  go_loop [4, 5, 6] (fun n k i => ∃ j : Nat, j ≤ s.size ∧ j ≤ 11 ∧ i = .int .i64 j ∧ n = .int .i64 ((sv ((bl s).take j)).1 : Nat) ∧ k = .int .i64 ((sv ((bl s).take j)).2 : Nat)) (fun _ _ i => 11 - (intOf i).toNat)
  case atStart => exact ⟨0, by omega, by omega, rfl, rfl, rfl⟩
  case round =>
    obtain ⟨j, hj, hj11, rfl, rfl, rfl⟩ := hrel
    by_cases hlt : j < s.size ∧ j < 11
    · obtain ⟨hj1, hj2⟩ := hlt
      have hbd := sv_small ((bl s).take j) (by rw [List.length_take]; omega)
      have hc := UInt8.toNat_lt s[j]
      by_cases hd : 48 ≤ s[j].toNat ∧ s[j].toNat ≤ 57
      · have HS := hide (sv_digit s j hj1 hd)
        obtain ⟨hd1, hd2⟩ := hd
        generalize sv ((bl s).take j) = p at *
        go_wp2
        go_round
        case rel => exact ⟨j + 1, by omega, by omega, by go_num, val_int (by rw [HS.out]; simp only; omega), val_int (by rw [HS.out]; simp only; omega)⟩
        case measure => simp [intOf]; omega
      · have HS := hide (sv_other s j hj1 hd)
        by_cases hd1 : 48 ≤ s[j].toNat
        · have hd2 : ¬ s[j].toNat ≤ 57 := fun h => hd ⟨hd1, h⟩
          clear hd
          generalize sv ((bl s).take j) = p at *
          go_wp2
          go_round
          case rel => exact ⟨j + 1, by omega, by omega, by go_num, val_int (by rw [HS.out]), val_int (by rw [HS.out])⟩
          case measure => simp [intOf]; omega
        · have hd3 : decide ((48 : Int) ≤ (s[j].toNat : Int)) = false := by simp; omega
          clear hd
          generalize sv ((bl s).take j) = p at *
          go_wp2
          go_round
          case rel => exact ⟨j + 1, by omega, by omega, by go_num, val_int (by rw [HS.out]), val_int (by rw [HS.out])⟩
          case measure => simp [intOf]; omega
    · have hbd := sv_small11 ((bl s).take j) (by rw [List.length_take]; omega)
      by_cases hbig : 10 < s.size
      · have HN := hide (long_no s hbig)
        generalize sv ((bl s).take j) = p at *
        have hz : 0 < s.size := by omega
        by_cases hjs : j < s.size
        · have hj2 : ¬ j < 11 := fun h => hlt ⟨hjs, h⟩
          clear hlt
          by_cases h45 : s[0].toNat = 45
          · have hq : ((s[0].toNat : Int) == 45) = true := by simp [h45]
            clear h45
            by_cases hk : 9 < p.2
            all_goals
              go_wp2
              go_ret2
              exact ⟨rd_mk HN.out, Below.refl _ _⟩
          · have hq : ((s[0].toNat : Int) == 45) = false := by simp; omega
            clear h45
            by_cases hk : 9 < p.2
            all_goals
              go_wp2
              go_ret2
              exact ⟨rd_mk HN.out, Below.refl _ _⟩
        · have hdj : decide (j < s.size) = false := by simpa using hjs
          clear hlt
          by_cases h45 : s[0].toNat = 45
          · have hq : ((s[0].toNat : Int) == 45) = true := by simp [h45]
            clear h45
            by_cases hk : 9 < p.2
            all_goals
              go_wp2
              go_ret2
              exact ⟨rd_mk HN.out, Below.refl _ _⟩
          · have hq : ((s[0].toNat : Int) == 45) = false := by simp; omega
            clear h45
            by_cases hk : 9 < p.2
            all_goals
              go_wp2
              go_ret2
              exact ⟨rd_mk HN.out, Below.refl _ _⟩
      · obtain rfl : j = s.size := by omega
        rw [bl_take_all] at hbd ⊢
        have hdj : decide (s.size < s.size) = false := by simp
        clear hlt
        by_cases hk : 9 < (sv (bl s)).2
        · have HN := hide (many_no s hk)
          generalize sv (bl s) = p at *
          by_cases hz : 0 < s.size
          · by_cases h45 : s[0].toNat = 45
            · have hq : ((s[0].toNat : Int) == 45) = true := by simp [h45]
              clear h45
              go_wp2
              go_ret2
              exact ⟨rd_mk HN.out, Below.refl _ _⟩
            · have hq : ((s[0].toNat : Int) == 45) = false := by simp; omega
              clear h45
              go_wp2
              go_ret2
              exact ⟨rd_mk HN.out, Below.refl _ _⟩
          · have hdz : decide (0 < s.size) = false := by simpa using hz
            go_wp2
            go_ret2
            exact ⟨rd_mk HN.out, Below.refl _ _⟩
        · have hk2 : (sv (bl s)).2 ≤ 9 := by omega
          have HK := hide hk2
          have HYes := fun (n : Int) e => hide (fit_yes s n hk2 e)
          have HNo := fun (n : Int) h e => hide (fit_no s n h e)
          by_cases hz : 0 < s.size
          · have hg := getD_bl s 0 hz
            by_cases h45 : s[0].toNat = 45
            · have hq : ((s[0].toNat : Int) == 45) = true := by simp [h45]
              have hn : 0 < s.size → -((sv (bl s)).1 : Int) = if (bl s).getD 0 0 = 45 then -((sv (bl s)).1 : Int) else ((sv (bl s)).1 : Int) := fun _ => by rw [hg, if_pos h45]
              by_cases hi : Lib.itoa (-((sv (bl s)).1 : Int)) = s.data.toList
              · have HD := HYes _ hi
                have heq : ((itoaS (-((sv (bl s)).1 : Int))).toList == s.toList) = true := by
                  rw [beq_iff_eq, ByteArray.toList_eq, ByteArray.toList_eq]; exact hi
                clear HYes HNo hn hi hg h45 HK
                generalize sv (bl s) = p at *
                go_wp2_with fail
                refine (specDec_any (-(p.1 : Int)) _ (by omega) (by omega)).mono ?_
                rintro e w2 ⟨rfl, hb⟩
                go_wp2
                go_ret2
                exact ⟨rd_mk HD.out, hb⟩
              · have HD := HNo _ hn hi
                have heq : ((itoaS (-((sv (bl s)).1 : Int))).toList == s.toList) = false := by
                  rw [beq_eq_false_iff_ne, ByteArray.toList_eq, ByteArray.toList_eq]; exact hi
                clear HYes HNo hn hi hg h45 HK
                generalize sv (bl s) = p at *
                go_wp2_with fail
                refine (specDec_any (-(p.1 : Int)) _ (by omega) (by omega)).mono ?_
                rintro e w2 ⟨rfl, hb⟩
                go_wp2
                go_ret2
                exact ⟨rd_mk HD.out, hb⟩
            · have hq : ((s[0].toNat : Int) == 45) = false := by simp; omega
              have hn : 0 < s.size → ((sv (bl s)).1 : Int) = if (bl s).getD 0 0 = 45 then -((sv (bl s)).1 : Int) else ((sv (bl s)).1 : Int) := fun _ => by rw [hg, if_neg h45]
              by_cases hi : Lib.itoa ((sv (bl s)).1 : Int) = s.data.toList
              · have HD := HYes _ hi
                have heq : ((itoaS ((sv (bl s)).1 : Int)).toList == s.toList) = true := by
                  rw [beq_iff_eq, ByteArray.toList_eq, ByteArray.toList_eq]; exact hi
                clear HYes HNo hn hi hg h45 HK
                generalize sv (bl s) = p at *
                go_wp2_with fail
                refine (specDec_any (p.1 : Int) _ (by omega) (by omega)).mono ?_
                rintro e w2 ⟨rfl, hb⟩
                go_wp2
                go_ret2
                exact ⟨rd_mk HD.out, hb⟩
              · have HD := HNo _ hn hi
                have heq : ((itoaS ((sv (bl s)).1 : Int)).toList == s.toList) = false := by
                  rw [beq_eq_false_iff_ne, ByteArray.toList_eq, ByteArray.toList_eq]; exact hi
                clear HYes HNo hn hi hg h45 HK
                generalize sv (bl s) = p at *
                go_wp2_with fail
                refine (specDec_any (p.1 : Int) _ (by omega) (by omega)).mono ?_
                rintro e w2 ⟨rfl, hb⟩
                go_wp2
                go_ret2
                exact ⟨rd_mk HD.out, hb⟩
          · have hdz : decide (0 < s.size) = false := by simpa using hz
            have hn : 0 < s.size → ((sv (bl s)).1 : Int) = if (bl s).getD 0 0 = 45 then -((sv (bl s)).1 : Int) else ((sv (bl s)).1 : Int) := fun h => absurd h hz
            have hi : Lib.itoa ((sv (bl s)).1 : Int) ≠ s.data.toList := fun e => hz (first_itoa s _ e).1
            have HD := HNo _ hn hi
            have heq : ((itoaS ((sv (bl s)).1 : Int)).toList == s.toList) = false := by
              rw [beq_eq_false_iff_ne, ByteArray.toList_eq, ByteArray.toList_eq]; exact hi
            clear HYes HNo hn hi HK
            generalize sv (bl s) = p at *
            go_wp2_with fail
            refine (specDec_any (p.1 : Int) _ (by omega) (by omega)).mono ?_
            rintro e w2 ⟨rfl, hb⟩
            go_wp2
            go_ret2
            exact ⟨rd_mk HD.out, hb⟩

end Go.Proofs.YthnealhaleccpaaGreatDoor
