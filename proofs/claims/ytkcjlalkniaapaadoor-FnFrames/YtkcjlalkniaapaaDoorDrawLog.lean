/-
  spec.l6Log and spec.DrawScanRecs: a log, drawn.
-/
import Derived.Test.YtkcjlalkniaapaaDoorDraw6
import Derived.Test.YtkcjlalkniaapaaDoorSpoil
import Derived.Test.YtkcjlalkniaapaaDoorSumOfSpec
namespace Go.Proofs.YtkcjlalkniaapaaDoor
open Go.RowKit
open Plain

theorem frameS_size71 (s : ByteArray) (h : s.size ≤ 60) : (frameS s).size ≤ 71 := by
  rw [frameS_in s (by omega), ByteArray.size_append, sumS_size]
  have := textS_size' s
  omega

theorem grown_chain2 {a b c : World} {r : Option Nat} (h : a.grownBy b r) (k : Below b.heap.size b c) : a.grownBy c r := grown_trans h (below_grown r k)

set_option maxRecDepth 100000 in
set_option maxHeartbeats 4000000 in
theorem log6_any (w : World) (B : Nat) (a : Option Addr) (len cap : Nat) (zs : List Int) (hc : CurX w B a len cap zs) :
    Calls Tryd.prog 39 #[.pointer (some ⟨B, 0, none⟩)] w fun e w' => (∃ S : ByteArray, e = .returned (.string S) ∧ S.size ≤ 1000) ∧ w.grownBy w' (some B) := by
  have hB := hc.lt
  have HC := hide hc
  clear hc
  go_enter Tryd.func39, Tryd.ntmps39
  go_wp2_with fail
  refine (recs6_any 5 (by omega) (by omega) w B a len cap zs HC.out).mono ?_
  rintro e w1 ⟨⟨b, m, capb, xs, rfl, hm, hsm, ho⟩, hc1, hg1⟩
  have HC1 := hide hc1
  have HG1 := hide hg1
  have hxl := ho.len
  have HR := hide ho.row
  have HV : Hid (∀ i, (h : i < xs.length) → (xs[i]).val.size ≤ maxLen) := hide (fun i h => by have := (hsm _ (List.getElem_mem h)).2; unfold maxLen; omega)
  clear hc1 hg1 ho HC hsm
  go_wp2
  go_loopw [3, 5] (fun v x wr => ∃ (k : Nat) (S : ByteArray), k ≤ m ∧ x = .int .i64 k ∧ v = .string S ∧ S.size ≤ 71 * k ∧ Hid (Below w1.heap.size w1 wr)) (fun _ x _ => m - (intOf x).toNat)
  case atStart => exact ⟨0, ⟨#[]⟩, by omega, rfl, rfl, Nat.zero_le _, hide (Below.refl _ _)⟩
  case round =>
    obtain ⟨k, S, hk, rfl, rfl, hS, HB⟩ := hrel
    by_cases hlt : k < m
    · have hkx : k < xs.length := by omega
      obtain ⟨b', off, rfl, hbw, c0, c1, c2, c3, c4, c5⟩ := rec_cells (HR.out.later HB.out) k hkx
      have HSH := hide (specShow_any (xs[k]) (HV.out k hkx))
      have h60 := show_size' (xs[k])
      have h71 := frameS_size71 (showS (xs[k])) h60
      have HFR := hide (specFrame_any (showS (xs[k])) (by omega))
      have HAP : Hid ((S ++ frameS (showS (xs[k]))).size ≤ 71 * (k + 1)) := hide (by rw [ByteArray.size_append]; omega)
      have z1 : ¬ 9223372036854775807 < S.size + (frameS (showS (xs[k]))).size := by omega
      generalize frameS (showS (xs[k])) = F at *
      generalize showS (xs[k]) = T at *
      have hk2 : (k : Int) < (m : Int) := by omega
      go_wp2_with fail
      refine (HSH.out _).mono ?_
      rintro e w2 ⟨rfl, hb2⟩
      have HB2 := hide (HB.out.trans (hb2.mono HB.out.size))
      clear hb2 HB HSH c0 c1 c2 c3 c4 c5
      go_wp2_with fail
      refine (HFR.out _).mono ?_
      rintro e w3 ⟨rfl, hb3⟩
      have HB3 := hide (HB2.out.trans (hb3.mono HB2.out.size))
      clear hb3 HB2 HFR
      go_wp2
      go_roundw
      case rel => exact ⟨k + 1, _, by omega, by go_num, rfl, HAP.out, HB3⟩
      case measure => first | (simp [intOf]; done) | (simp [intOf]; omega)
    · obtain rfl : k = m := by omega
      have hS2 : S.size ≤ 355 := by omega
      have HCx := hide (HC1.out.below HB.out (by have := HC1.out.lt; exact this))
      have HGx := hide (grown_chain2 HG1.out HB.out)
      clear HC1 HG1 HR HV HB
      obtain ⟨st, hst⟩ := HCx.out
      have HST := hide hst
      clear hst HCx
      have hd := lV_bd zs 5 st (by omega)
      have HBL := hide (below_any 5 wr B a len cap zs st HST.out)
      obtain ⟨d, hdd⟩ : ∃ d, lV zs 5 st = d := ⟨_, rfl⟩
      obtain ⟨st2, hst2⟩ : ∃ st2, lS zs 5 st = st2 := ⟨_, rfl⟩
      rw [hdd] at hd HBL
      rw [hst2] at HBL
      clear hdd hst2 HST
      go_wp2_with fail
      refine HBL.out.mono ?_
      rintro e w2 ⟨rfl, hc2, hg2⟩
      have HC2 := hide hc2
      have HG2 := hide (grown_trans HGx.out hg2)
      clear hc2 hg2 HBL HGx
      by_cases e0 : d = 0
      · subst e0
        have HSPO := hide (spoil_any S (by omega) w2 B a len cap zs st2 HC2.out)
        have hsz := spV_size zs S st2
        generalize spV zs S st2 = T at *
        go_wp2_with fail
        refine HSPO.out.mono ?_
        rintro e w3 ⟨rfl, hg3⟩
        have HG3 := hide (grown_trans HG2.out hg3)
        clear hg3 HG2 HSPO
        go_wp2
        go_ret
        exact ⟨⟨T, rfl, by omega⟩, HG3.out⟩
      by_cases e1 : d = 1
      · subst e1
        have HBL := hide (below_any ((S.size : Int) + 1) w2 B a len cap zs st2 HC2.out)
        have hl := lV_bd zs ((S.size : Int) + 1) st2 (by omega)
        generalize lV zs ((S.size : Int) + 1) st2 = q at *
        obtain ⟨q', rfl⟩ := Int.eq_ofNat_of_zero_le hl.1
        have b1 : (0 : Int) ≤ (q' : Int) := by omega
        have b2 : (q' : Int) ≤ (S.size : Int) := by omega
        have hsz : (S.extract 0 q').size ≤ 355 := by rw [ba_len _ _ _ (by omega) (by omega)]; omega
        go_wp2_with fail
        refine HBL.out.mono ?_
        rintro e w3 ⟨rfl, _, hg3⟩
        have HG3 := hide (grown_trans HG2.out hg3)
        clear hg3 HG2 HBL
        go_wp2
        go_ret
        exact ⟨⟨_, rfl, by simpa using (show (S.extract 0 q').size ≤ 1000 by omega)⟩, HG3.out⟩
      by_cases e2 : d = 2
      · subst e2
        have hlen := tV_length zs 4 st2 (by omega)
        have HTX := hide (text_any 4 (by omega) (by omega) w2 B a len cap zs st2 HC2.out)
        have hts : (strOfNums (tV zs 4 st2)).size ≤ 4 := by rw [strOfNums_size]; omega
        generalize strOfNums (tV zs 4 st2) = T at *
        have HFR := hide (specFrame_any T (by omega))
        have hf := frameS_size T
        generalize frameS T = F at *
        have z1 : ¬ 9223372036854775807 < S.size + F.size := by omega
        have HAP : Hid ((S ++ F).size ≤ 1000) := hide (by rw [ByteArray.size_append]; omega)
        clear hlen
        go_wp2_with fail
        refine HTX.out.mono ?_
        rintro e w3 ⟨rfl, _, hg3⟩
        have HG3 := hide (grown_trans HG2.out hg3)
        clear hg3 HG2 HTX
        go_wp2_with fail
        refine (HFR.out _).mono ?_
        rintro e w4 ⟨rfl, hb4⟩
        have HG4 := hide (grown_chain2 HG3.out hb4)
        clear hb4 HG3 HFR
        go_wp2
        go_ret
        exact ⟨⟨_, rfl, HAP.out⟩, HG4.out⟩
      · have q0 : (d == 0) = false := by simpa using e0
        have q1 : (d == 1) = false := by simpa using e1
        have q2 : (d == 2) = false := by simpa using e2
        clear e0 e1 e2
        go_wp2
        go_ret
        exact ⟨⟨S, rfl, by omega⟩, HG2.out⟩

set_option maxRecDepth 100000 in
set_option maxHeartbeats 1000000 in
theorem drawScan_any (w : World) (a : Option Addr) (len cap : Nat) (zs : List Int) (hc : CodeAt w a len zs) :
    Calls Tryd.prog 13 #[.slice a len cap] w fun e w' => (∃ S : ByteArray, e = .returned (.string S) ∧ S.size ≤ 1000) ∧ Below w.heap.size w w' := by
  have HC := hide hc
  clear hc
  go_enter Tryd.func13, Tryd.ntmps13
  go_wp2_with fail
  refine (new_any w a len cap zs HC.out).mono ?_
  rintro e w1 ⟨rfl, hc1, hb1⟩
  have HC1 := hide hc1
  have HB1 := hide hb1
  clear hc1 hb1
  go_wp2_with fail
  refine (log6_any w1 w.heap.size a len cap zs ⟨_, HC1.out⟩).mono ?_
  rintro e w2 ⟨⟨S, rfl, hS⟩, hg2⟩
  have HB2 := hide (below_cur HB1.out hg2)
  clear hg2 HB1 HC1
  go_wp2
  go_ret
  exact ⟨⟨S, rfl, hS⟩, HB2.out⟩

end Go.Proofs.YtkcjlalkniaapaaDoor
