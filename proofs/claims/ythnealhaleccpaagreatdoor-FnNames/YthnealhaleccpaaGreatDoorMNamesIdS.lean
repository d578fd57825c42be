/-
  spec.IdOf.
-/
import Derived.Test.YthnealhaleccpaaGreatDoorG17
import Derived.Test.YthnealhaleccpaaGreatDoorMReadDecSpec
import Derived.Deep.RegionHeld3
namespace Go.Proofs.YthnealhaleccpaaGreatDoor
open Go.RowKit
open Plain

theorem specRD_any (s : ByteArray) (hs : s.size ≤ 1048576) : Ans 38 #[.string s] (.tuple #[.int .i64 (rd s).1, .bool (rd s).2]) := by
  intro w
  refine (specReadDec_any s w hs).mono ?_
  rintro e w' ⟨⟨n, ok, rfl, h⟩, hb⟩
  rw [rd_of h]
  exact ⟨rfl, hb⟩

set_option maxRecDepth 100000 in
set_option maxHeartbeats 4000000 in
theorem specIdOf_any (s : ByteArray) (hs : s.size ≤ 1048576) : Ans 16 #[.string s] (.tuple #[.int .i64 (io s).1, .bool (io s).2]) := by
  intro w
  go_enter Tryz.func16, Tryz.ntmps16
  go_wp2
  go_loopw [4] (fun k wr => ∃ j : Nat, 3 ≤ j ∧ j ≤ 5 ∧ k = .int .i64 j ∧ Hid (∀ i, 3 ≤ i → i < j → hitB s i = false) ∧ Hid (Below w.heap.size w wr)) (fun k _ => 5 - (intOf k).toNat)
  case atStart => exact ⟨3, by omega, by omega, rfl, hide (fun i h1 h2 => absurd h1 (by omega)), hide (Below.refl _ _)⟩
  case round =>
    obtain ⟨j, hj3, hj5, rfl, HM, HB⟩ := hrel
    by_cases h4 : j ≤ 4
    · have HN : Hid (hitB s j = false → ∀ i, 3 ≤ i → i < j + 1 → hitB s i = false) := hide (fun h i h1 h2 => by
        by_cases e : i = j
        · subst e; exact h
        · exact HM.out i h1 (by omega))
      have HIT := hide (io_hit (s := s) (k := j))
      clear HM
      by_cases hz : j < s.size
      · have hcz : (cutN s j).size ≤ 1048576 := by unfold cutN; rw [ba_len _ _ _ (by omega) (Nat.le_refl _)]; omega
        have HR := hide (specRD_any (cutN s j) hcz)
        have HHB : Hid (hitB s j = ((rd (cutN s j)).2 && (decide (1 ≤ (rd (cutN s j)).1) && (decide (segS (rd (cutN s j)).1 = s) || decide (hintS (rd (cutN s j)).1 = s))))) := hide (by unfold hitB; rw [decide_eq_true hz, Bool.true_and])
        have hbd := rd_bd (cutN s j)
        have hhb := HHB.out
        have hit := HIT.out
        unfold cutN at HR hhb hit hbd
        generalize (rd (s.extract j s.size)).1 = n at *
        generalize (rd (s.extract j s.size)).2 = ok at *
        have HSG := hide (specSeg_any n)
        have HHT := hide (specHint_any n)
        clear hcz HHB HIT
        cases ok with
        | false =>
          have HN2 := hide (HN.out (by rw [hhb]; rfl))
          clear hhb hit HN HSG HHT hbd
          go_wp2_with fail
          refine (HR.out _).mono ?_
          rintro e w2 ⟨rfl, hb2⟩
          have HB2 := hide (HB.out.trans (hb2.mono HB.out.size))
          clear hb2 HB HR
          go_wp2
          go_roundw
          case rel => exact ⟨j + 1, by omega, by omega, by go_num, HN2, HB2⟩
          case measure => first | (simp [intOf]; done) | (simp [intOf]; omega)
        | true =>
          by_cases h1 : 1 ≤ n
          · have t1 : decide (1 ≤ n) = true := by simpa using h1
            by_cases h2 : segS n = s
            · have q1 := str_eq _ _ h2
              have HV := hide (hit (by rw [hhb, t1, decide_eq_true h2]; rfl))
              clear hhb hit HN HHT hbd h1 h2
              go_wp2_with fail
              refine (HR.out _).mono ?_
              rintro e w2 ⟨rfl, hb2⟩
              have HB2 := hide (HB.out.trans (hb2.mono HB.out.size))
              clear hb2 HB HR
              go_wp2_with fail
              refine (HSG.out _).mono ?_
              rintro e w3 ⟨rfl, hb3⟩
              have HB3 := hide (HB2.out.trans (hb3.mono HB2.out.size))
              clear hb3 HB2 HSG
              generalize segS n = S at *
              go_wp2
              go_ret2
              exact ⟨by rw [HV.out]; rfl, HB3.out⟩
            · have q1 := str_ne _ _ h2
              by_cases h3 : hintS n = s
              · have q2 := str_eq _ _ h3
                have HV := hide (hit (by rw [hhb, t1, decide_eq_true h3]; simp))
                clear hhb hit HN hbd h1 h2 h3
                go_wp2_with fail
                refine (HR.out _).mono ?_
                rintro e w2 ⟨rfl, hb2⟩
                have HB2 := hide (HB.out.trans (hb2.mono HB.out.size))
                clear hb2 HB HR
                go_wp2_with fail
                refine (HSG.out _).mono ?_
                rintro e w3 ⟨rfl, hb3⟩
                have HB3 := hide (HB2.out.trans (hb3.mono HB2.out.size))
                clear hb3 HB2 HSG
                generalize segS n = S at *
                go_wp2_with fail
                refine (HHT.out _).mono ?_
                rintro e w4 ⟨rfl, hb4⟩
                have HB4 := hide (HB3.out.trans (hb4.mono HB3.out.size))
                clear hb4 HB3 HHT
                generalize hintS n = S2 at *
                go_wp2
                go_ret2
                exact ⟨by rw [HV.out]; rfl, HB4.out⟩
              · have q2 := str_ne _ _ h3
                have HN2 := hide (HN.out (by rw [hhb, decide_eq_false h2, decide_eq_false h3]; simp))
                clear hhb hit HN hbd h1 h2 h3
                go_wp2_with fail
                refine (HR.out _).mono ?_
                rintro e w2 ⟨rfl, hb2⟩
                have HB2 := hide (HB.out.trans (hb2.mono HB.out.size))
                clear hb2 HB HR
                go_wp2_with fail
                refine (HSG.out _).mono ?_
                rintro e w3 ⟨rfl, hb3⟩
                have HB3 := hide (HB2.out.trans (hb3.mono HB2.out.size))
                clear hb3 HB2 HSG
                generalize segS n = S at *
                go_wp2_with fail
                refine (HHT.out _).mono ?_
                rintro e w4 ⟨rfl, hb4⟩
                have HB4 := hide (HB3.out.trans (hb4.mono HB3.out.size))
                clear hb4 HB3 HHT
                generalize hintS n = S2 at *
                go_wp2
                go_roundw
                case rel => exact ⟨j + 1, by omega, by omega, by go_num, HN2, HB4⟩
                case measure => first | (simp [intOf]; done) | (simp [intOf]; omega)
          · have t1 : decide (1 ≤ n) = false := by simpa using h1
            have HN2 := hide (HN.out (by rw [hhb, t1]; rfl))
            clear hhb hit HN HSG HHT hbd h1
            go_wp2_with fail
            refine (HR.out _).mono ?_
            rintro e w2 ⟨rfl, hb2⟩
            have HB2 := hide (HB.out.trans (hb2.mono HB.out.size))
            clear hb2 HB HR
            go_wp2
            go_roundw
            case rel => exact ⟨j + 1, by omega, by omega, by go_num, HN2, HB2⟩
            case measure => first | (simp [intOf]; done) | (simp [intOf]; omega)
      · have HN2 := hide (HN.out (by unfold hitB; rw [decide_eq_false hz]; rfl))
        have t1 : decide ((j : Int) < (s.size : Int)) = false := by simp; omega
        clear HN HIT
        go_wp2
        go_roundw
        case rel => exact ⟨j + 1, by omega, by omega, by go_num, HN2, HB⟩
        case measure => first | (simp [intOf]; done) | (simp [intOf]; omega)
    · have HV := hide (io_none (HM.out 3 (by omega) (by omega)) (HM.out 4 (by omega) (by omega)))
      go_wp2
      go_ret2
      exact ⟨by rw [HV.out]; rfl, HB.out⟩

end Go.Proofs.YthnealhaleccpaaGreatDoor
