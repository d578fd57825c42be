/-
  The law FnNumbers returns true at every code, where the library's tables and sentinels are as its text lays them.
-/
import Derived.Test.YtelfhodaahpggacDoorNumLaw
namespace Go.Proofs.YtelfhodaahpggacDoor
open Go.RowKit
open Plain

set_option maxRecDepth 100000 in
set_option maxHeartbeats 16000000 in
theorem numbers_walk (a0 : Option Addr) (len0 cap0 : Nat) (zs : List Int) (w : World) (hc : CodeAt w a0 len0 zs) (hlen : len0 ≤ 1048576) (htab : Tab w) (hsyn : Syn w) :
    Calls Tryd.prog 3 #[.slice a0 len0 cap0] w fun e w' => e = .returned (.bool true) ∧ Below w.heap.size w w' := by
  have HC := hide hc
  have HT := hide htab
  have HY := hide hsyn
  clear hc htab hsyn
  have hbig : decide (1048576 < len0) = false := by simp; omega
  have hn := nV_bd zs (st0 zs)
  have hTs : (strOfNums (tV zs 40 (st0 zs))).size ≤ 40 := by
    have := tV_length zs 40 (st0 zs) (by omega)
    rw [strOfNums_size]; omega
  have hRs := drV_size zs
  go_enter Tryd.func3, Tryd.ntmps3
  go_wp2_with fail
  refine (big_any a0 len0 cap0 w).mono ?_
  rintro e w0 ⟨rfl, rfl⟩
  rw [hbig]
  go_wp2_with fail
  refine (drawVar w a0 len0 cap0 zs HC.out).mono ?_
  rintro e w1 ⟨rfl, hb1⟩
  have HB1 := hide hb1
  clear hb1
  generalize nV zs (st0 zs) = n at *
  go_wp2_with fail
  refine (drawHex w1 a0 len0 cap0 zs (HC.out.later HB1.out)).mono ?_
  rintro e w2 ⟨rfl, hb2⟩
  have HB2 := hide (HB1.out.trans (hb2.mono HB1.out.size))
  clear hb2 HB1
  generalize strOfNums (tV zs 40 (st0 zs)) = T at *
  have hv7 := varS_size n
  have hf7 := fixS_size n
  have hi30 := itoaS_size n hn.1 hn.2
  go_wp2_with fail
  refine (implVar_any n w2).mono ?_
  rintro e w3 ⟨rfl, hb3⟩
  have HB3 := hide (HB2.out.trans (hb3.mono HB2.out.size))
  clear hb3 HB2
  go_wp2_with fail
  refine (implReadVar_any (varS n ++ T) w3 (by rw [ByteArray.size_append]; omega)).mono ?_
  rintro e w4 ⟨⟨x, k, rfl, hr⟩, rfl⟩
  have hask1 := ask1 n T x k hr
  have hask2 := ask2 n T
  clear hr
  generalize varS n = V at *
  rcases hask1 with ⟨⟨hA1, hA2⟩, hA3, hA4, hA5⟩ | ⟨hA1, hA3⟩
  · have hxb : ((x : Int) != n) = false := by rw [hA4]; simp
    have hkb : ((k : Int) != (V.size : Int)) = false := by rw [hA5]; simp
    clear hA4 hA5
    rcases hask2 with ⟨⟨hF1, hF2⟩, hF3, hF4, hF5, hF6⟩ | ⟨hF1, _⟩
    · have hyb : (r7 (fixS n ++ T) != n) = false := by rw [hF5]; simp
      clear hF5
      go_wp2_with fail
      refine (implFixed_any n w3 hn.2).mono ?_
      rintro e w5 ⟨rfl, hb5⟩
      have HB5 := hide (HB3.out.trans (hb5.mono HB3.out.size))
      clear hb5 HB3
      go_wp2_with fail
      refine (implReadFixed_7 (fixS n ++ T) w5 (by rw [ByteArray.size_append]; omega)).mono ?_
      rintro e w5b ⟨rfl, rfl⟩
      generalize fixS n ++ T = FT at *
      generalize fixS n = F at *
      go_wp2_with fail
      refine (implDec_any n w5 hn.1 hn.2 (HT.out.later HB5.out)).mono ?_
      rintro e w6 ⟨rfl, hb6⟩
      have HB6 := hide (HB5.out.trans (hb6.mono HB5.out.size))
      clear hb6
      go_wp2_with fail
      refine (implReadDec_any (itoaS n) w6 (by omega) (HT.out.later HB6.out) (HY.out.later HB6.out)).mono ?_
      rintro e w7 ⟨⟨d, fine, rfl, hd⟩, hb7⟩
      have HB7 := hide (HB6.out.trans (hb7.mono HB6.out.size))
      have hdec := DA_itoa n d fine hd
      clear hb7 hd HB6 HB5
      by_cases hdi : -1000000000 < n ∧ n < 1000000000
      · obtain ⟨hfine, hdn⟩ := hdec.1 hdi
        obtain ⟨hdi1, hdi2⟩ := hdi
        have hdb : (d != n) = false := by rw [hdn]; simp
        subst hfine
        clear hdec hdn
        go_wp2_with fail
        refine (implHex_any T w7 (by omega)).mono ?_
        rintro e w8 ⟨rfl, hb8⟩
        have HB8 := hide (HB7.out.trans (hb8.mono HB7.out.size))
        clear hb8
        go_wp2_with fail
        refine (implUnhex_any (strOfNums (hx (bl T))) w8 (by rw [hex_size]; omega)).mono ?_
        rintro e w9 ⟨⟨u, good, rfl, hu⟩, hb9⟩
        have HB9 := hide (HB8.out.trans (hb9.mono HB8.out.size))
        obtain ⟨hu1, hu2⟩ := UX_one hu (UX_hex T)
        subst hu1
        subst hu2
        clear hb9 hu HB8 HB7
        go_wp2_with fail
        refine (drawReadVar w9 a0 len0 cap0 zs (HC.out.later HB9.out)).mono ?_
        rintro e w10 ⟨rfl, hb10⟩
        have HB10 := hide (HB9.out.trans (hb10.mono HB9.out.size))
        clear hb10 HB9
        go_wp2_with fail
        refine (implReadVar_any (drV zs) w10 (by omega)).mono ?_
        rintro e w11 ⟨⟨z, j, rfl, hz⟩, rfl⟩
        have hback := RV_back (drV zs) z j hz
        clear hz
        rcases hback with rfl | ⟨hj1, hj2, hj3⟩
        · go_wp2
          go_ret
          exact ⟨rfl, HB10.out⟩
        · have hj0 : ((j : Int) == 0) = false := by rw [beq_eq_false_iff_ne]; omega
          go_wp2_with fail
          refine (drawReadVar w10 a0 len0 cap0 zs (HC.out.later HB10.out)).mono ?_
          rintro e w12 ⟨rfl, hb12⟩
          have HB12 := hide (HB10.out.trans (hb12.mono HB10.out.size))
          clear hb12
          go_wp2_with fail
          refine (implVar_any (z : Int) w12).mono ?_
          rintro e w13 ⟨rfl, hb13⟩
          have HB13 := hide (HB12.out.trans (hb13.mono HB12.out.size))
          clear hb13
          go_wp2_with fail
          refine (drawReadVar w13 a0 len0 cap0 zs (HC.out.later HB13.out)).mono ?_
          rintro e w14 ⟨rfl, hb14⟩
          have HB14 := hide (HB13.out.trans (hb14.mono HB13.out.size))
          clear hb14
          go_wp2
          go_ret
          exact ⟨rfl, HB14.out⟩
      · have hfine := hdec.2 hdi
        subst hfine
        clear hdec
        by_cases hdi1 : -1000000000 < n
        · have hdi2 : ¬ n < 1000000000 := fun h => hdi ⟨hdi1, h⟩
          clear hdi
          go_wp2_with fail
          refine (implHex_any T w7 (by omega)).mono ?_
          rintro e w8 ⟨rfl, hb8⟩
          have HB8 := hide (HB7.out.trans (hb8.mono HB7.out.size))
          clear hb8
          go_wp2_with fail
          refine (implUnhex_any (strOfNums (hx (bl T))) w8 (by rw [hex_size]; omega)).mono ?_
          rintro e w9 ⟨⟨u, good, rfl, hu⟩, hb9⟩
          have HB9 := hide (HB8.out.trans (hb9.mono HB8.out.size))
          obtain ⟨hu1, hu2⟩ := UX_one hu (UX_hex T)
          subst hu1
          subst hu2
          clear hb9 hu HB8 HB7
          go_wp2_with fail
          refine (drawReadVar w9 a0 len0 cap0 zs (HC.out.later HB9.out)).mono ?_
          rintro e w10 ⟨rfl, hb10⟩
          have HB10 := hide (HB9.out.trans (hb10.mono HB9.out.size))
          clear hb10 HB9
          go_wp2_with fail
          refine (implReadVar_any (drV zs) w10 (by omega)).mono ?_
          rintro e w11 ⟨⟨z, j, rfl, hz⟩, rfl⟩
          have hback := RV_back (drV zs) z j hz
          clear hz
          rcases hback with rfl | ⟨hj1, hj2, hj3⟩
          · go_wp2
            go_ret
            exact ⟨rfl, HB10.out⟩
          · have hj0 : ((j : Int) == 0) = false := by rw [beq_eq_false_iff_ne]; omega
            go_wp2_with fail
            refine (drawReadVar w10 a0 len0 cap0 zs (HC.out.later HB10.out)).mono ?_
            rintro e w12 ⟨rfl, hb12⟩
            have HB12 := hide (HB10.out.trans (hb12.mono HB10.out.size))
            clear hb12
            go_wp2_with fail
            refine (implVar_any (z : Int) w12).mono ?_
            rintro e w13 ⟨rfl, hb13⟩
            have HB13 := hide (HB12.out.trans (hb13.mono HB12.out.size))
            clear hb13
            go_wp2_with fail
            refine (drawReadVar w13 a0 len0 cap0 zs (HC.out.later HB13.out)).mono ?_
            rintro e w14 ⟨rfl, hb14⟩
            have HB14 := hide (HB13.out.trans (hb14.mono HB13.out.size))
            clear hb14
            go_wp2
            go_ret
            exact ⟨rfl, HB14.out⟩
        · have hdi3 : decide (-1000000000 < n) = false := by simpa using hdi1
          clear hdi
          go_wp2_with fail
          refine (implHex_any T w7 (by omega)).mono ?_
          rintro e w8 ⟨rfl, hb8⟩
          have HB8 := hide (HB7.out.trans (hb8.mono HB7.out.size))
          clear hb8
          go_wp2_with fail
          refine (implUnhex_any (strOfNums (hx (bl T))) w8 (by rw [hex_size]; omega)).mono ?_
          rintro e w9 ⟨⟨u, good, rfl, hu⟩, hb9⟩
          have HB9 := hide (HB8.out.trans (hb9.mono HB8.out.size))
          obtain ⟨hu1, hu2⟩ := UX_one hu (UX_hex T)
          subst hu1
          subst hu2
          clear hb9 hu HB8 HB7
          go_wp2_with fail
          refine (drawReadVar w9 a0 len0 cap0 zs (HC.out.later HB9.out)).mono ?_
          rintro e w10 ⟨rfl, hb10⟩
          have HB10 := hide (HB9.out.trans (hb10.mono HB9.out.size))
          clear hb10 HB9
          go_wp2_with fail
          refine (implReadVar_any (drV zs) w10 (by omega)).mono ?_
          rintro e w11 ⟨⟨z, j, rfl, hz⟩, rfl⟩
          have hback := RV_back (drV zs) z j hz
          clear hz
          rcases hback with rfl | ⟨hj1, hj2, hj3⟩
          · go_wp2
            go_ret
            exact ⟨rfl, HB10.out⟩
          · have hj0 : ((j : Int) == 0) = false := by rw [beq_eq_false_iff_ne]; omega
            go_wp2_with fail
            refine (drawReadVar w10 a0 len0 cap0 zs (HC.out.later HB10.out)).mono ?_
            rintro e w12 ⟨rfl, hb12⟩
            have HB12 := hide (HB10.out.trans (hb12.mono HB10.out.size))
            clear hb12
            go_wp2_with fail
            refine (implVar_any (z : Int) w12).mono ?_
            rintro e w13 ⟨rfl, hb13⟩
            have HB13 := hide (HB12.out.trans (hb13.mono HB12.out.size))
            clear hb13
            go_wp2_with fail
            refine (drawReadVar w13 a0 len0 cap0 zs (HC.out.later HB13.out)).mono ?_
            rintro e w14 ⟨rfl, hb14⟩
            have HB14 := hide (HB13.out.trans (hb14.mono HB13.out.size))
            clear hb14
            go_wp2
            go_ret
            exact ⟨rfl, HB14.out⟩
    · exfalso; omega
  · rcases hask2 with ⟨⟨hF1, hF2⟩, hF3, hF4, hF5, hF6⟩ | ⟨hF1, hF3⟩
    · have hA6 : 562949953421311 < n := by omega
      have hyb : (r7 (fixS n ++ T) != n) = false := by rw [hF5]; simp
      clear hF5 hA1
      go_wp2_with fail
      refine (implFixed_any n w3 hn.2).mono ?_
      rintro e w5 ⟨rfl, hb5⟩
      have HB5 := hide (HB3.out.trans (hb5.mono HB3.out.size))
      clear hb5 HB3
      go_wp2_with fail
      refine (implReadFixed_7 (fixS n ++ T) w5 (by rw [ByteArray.size_append]; omega)).mono ?_
      rintro e w5b ⟨rfl, rfl⟩
      generalize fixS n ++ T = FT at *
      generalize fixS n = F at *
      go_wp2_with fail
      refine (implDec_any n w5 hn.1 hn.2 (HT.out.later HB5.out)).mono ?_
      rintro e w6 ⟨rfl, hb6⟩
      have HB6 := hide (HB5.out.trans (hb6.mono HB5.out.size))
      clear hb6
      go_wp2_with fail
      refine (implReadDec_any (itoaS n) w6 (by omega) (HT.out.later HB6.out) (HY.out.later HB6.out)).mono ?_
      rintro e w7 ⟨⟨d, fine, rfl, hd⟩, hb7⟩
      have HB7 := hide (HB6.out.trans (hb7.mono HB6.out.size))
      have hdec := DA_itoa n d fine hd
      clear hb7 hd HB6 HB5
      by_cases hdi : -1000000000 < n ∧ n < 1000000000
      · obtain ⟨hfine, hdn⟩ := hdec.1 hdi
        obtain ⟨hdi1, hdi2⟩ := hdi
        have hdb : (d != n) = false := by rw [hdn]; simp
        subst hfine
        clear hdec hdn
        go_wp2_with fail
        refine (implHex_any T w7 (by omega)).mono ?_
        rintro e w8 ⟨rfl, hb8⟩
        have HB8 := hide (HB7.out.trans (hb8.mono HB7.out.size))
        clear hb8
        go_wp2_with fail
        refine (implUnhex_any (strOfNums (hx (bl T))) w8 (by rw [hex_size]; omega)).mono ?_
        rintro e w9 ⟨⟨u, good, rfl, hu⟩, hb9⟩
        have HB9 := hide (HB8.out.trans (hb9.mono HB8.out.size))
        obtain ⟨hu1, hu2⟩ := UX_one hu (UX_hex T)
        subst hu1
        subst hu2
        clear hb9 hu HB8 HB7
        go_wp2_with fail
        refine (drawReadVar w9 a0 len0 cap0 zs (HC.out.later HB9.out)).mono ?_
        rintro e w10 ⟨rfl, hb10⟩
        have HB10 := hide (HB9.out.trans (hb10.mono HB9.out.size))
        clear hb10 HB9
        go_wp2_with fail
        refine (implReadVar_any (drV zs) w10 (by omega)).mono ?_
        rintro e w11 ⟨⟨z, j, rfl, hz⟩, rfl⟩
        have hback := RV_back (drV zs) z j hz
        clear hz
        rcases hback with rfl | ⟨hj1, hj2, hj3⟩
        · go_wp2
          go_ret
          exact ⟨rfl, HB10.out⟩
        · have hj0 : ((j : Int) == 0) = false := by rw [beq_eq_false_iff_ne]; omega
          go_wp2_with fail
          refine (drawReadVar w10 a0 len0 cap0 zs (HC.out.later HB10.out)).mono ?_
          rintro e w12 ⟨rfl, hb12⟩
          have HB12 := hide (HB10.out.trans (hb12.mono HB10.out.size))
          clear hb12
          go_wp2_with fail
          refine (implVar_any (z : Int) w12).mono ?_
          rintro e w13 ⟨rfl, hb13⟩
          have HB13 := hide (HB12.out.trans (hb13.mono HB12.out.size))
          clear hb13
          go_wp2_with fail
          refine (drawReadVar w13 a0 len0 cap0 zs (HC.out.later HB13.out)).mono ?_
          rintro e w14 ⟨rfl, hb14⟩
          have HB14 := hide (HB13.out.trans (hb14.mono HB13.out.size))
          clear hb14
          go_wp2
          go_ret
          exact ⟨rfl, HB14.out⟩
      · have hfine := hdec.2 hdi
        subst hfine
        clear hdec
        by_cases hdi1 : -1000000000 < n
        · have hdi2 : ¬ n < 1000000000 := fun h => hdi ⟨hdi1, h⟩
          clear hdi
          go_wp2_with fail
          refine (implHex_any T w7 (by omega)).mono ?_
          rintro e w8 ⟨rfl, hb8⟩
          have HB8 := hide (HB7.out.trans (hb8.mono HB7.out.size))
          clear hb8
          go_wp2_with fail
          refine (implUnhex_any (strOfNums (hx (bl T))) w8 (by rw [hex_size]; omega)).mono ?_
          rintro e w9 ⟨⟨u, good, rfl, hu⟩, hb9⟩
          have HB9 := hide (HB8.out.trans (hb9.mono HB8.out.size))
          obtain ⟨hu1, hu2⟩ := UX_one hu (UX_hex T)
          subst hu1
          subst hu2
          clear hb9 hu HB8 HB7
          go_wp2_with fail
          refine (drawReadVar w9 a0 len0 cap0 zs (HC.out.later HB9.out)).mono ?_
          rintro e w10 ⟨rfl, hb10⟩
          have HB10 := hide (HB9.out.trans (hb10.mono HB9.out.size))
          clear hb10 HB9
          go_wp2_with fail
          refine (implReadVar_any (drV zs) w10 (by omega)).mono ?_
          rintro e w11 ⟨⟨z, j, rfl, hz⟩, rfl⟩
          have hback := RV_back (drV zs) z j hz
          clear hz
          rcases hback with rfl | ⟨hj1, hj2, hj3⟩
          · go_wp2
            go_ret
            exact ⟨rfl, HB10.out⟩
          · have hj0 : ((j : Int) == 0) = false := by rw [beq_eq_false_iff_ne]; omega
            go_wp2_with fail
            refine (drawReadVar w10 a0 len0 cap0 zs (HC.out.later HB10.out)).mono ?_
            rintro e w12 ⟨rfl, hb12⟩
            have HB12 := hide (HB10.out.trans (hb12.mono HB10.out.size))
            clear hb12
            go_wp2_with fail
            refine (implVar_any (z : Int) w12).mono ?_
            rintro e w13 ⟨rfl, hb13⟩
            have HB13 := hide (HB12.out.trans (hb13.mono HB12.out.size))
            clear hb13
            go_wp2_with fail
            refine (drawReadVar w13 a0 len0 cap0 zs (HC.out.later HB13.out)).mono ?_
            rintro e w14 ⟨rfl, hb14⟩
            have HB14 := hide (HB13.out.trans (hb14.mono HB13.out.size))
            clear hb14
            go_wp2
            go_ret
            exact ⟨rfl, HB14.out⟩
        · have hdi3 : decide (-1000000000 < n) = false := by simpa using hdi1
          clear hdi
          go_wp2_with fail
          refine (implHex_any T w7 (by omega)).mono ?_
          rintro e w8 ⟨rfl, hb8⟩
          have HB8 := hide (HB7.out.trans (hb8.mono HB7.out.size))
          clear hb8
          go_wp2_with fail
          refine (implUnhex_any (strOfNums (hx (bl T))) w8 (by rw [hex_size]; omega)).mono ?_
          rintro e w9 ⟨⟨u, good, rfl, hu⟩, hb9⟩
          have HB9 := hide (HB8.out.trans (hb9.mono HB8.out.size))
          obtain ⟨hu1, hu2⟩ := UX_one hu (UX_hex T)
          subst hu1
          subst hu2
          clear hb9 hu HB8 HB7
          go_wp2_with fail
          refine (drawReadVar w9 a0 len0 cap0 zs (HC.out.later HB9.out)).mono ?_
          rintro e w10 ⟨rfl, hb10⟩
          have HB10 := hide (HB9.out.trans (hb10.mono HB9.out.size))
          clear hb10 HB9
          go_wp2_with fail
          refine (implReadVar_any (drV zs) w10 (by omega)).mono ?_
          rintro e w11 ⟨⟨z, j, rfl, hz⟩, rfl⟩
          have hback := RV_back (drV zs) z j hz
          clear hz
          rcases hback with rfl | ⟨hj1, hj2, hj3⟩
          · go_wp2
            go_ret
            exact ⟨rfl, HB10.out⟩
          · have hj0 : ((j : Int) == 0) = false := by rw [beq_eq_false_iff_ne]; omega
            go_wp2_with fail
            refine (drawReadVar w10 a0 len0 cap0 zs (HC.out.later HB10.out)).mono ?_
            rintro e w12 ⟨rfl, hb12⟩
            have HB12 := hide (HB10.out.trans (hb12.mono HB10.out.size))
            clear hb12
            go_wp2_with fail
            refine (implVar_any (z : Int) w12).mono ?_
            rintro e w13 ⟨rfl, hb13⟩
            have HB13 := hide (HB12.out.trans (hb13.mono HB12.out.size))
            clear hb13
            go_wp2_with fail
            refine (drawReadVar w13 a0 len0 cap0 zs (HC.out.later HB13.out)).mono ?_
            rintro e w14 ⟨rfl, hb14⟩
            have HB14 := hide (HB13.out.trans (hb14.mono HB13.out.size))
            clear hb14
            go_wp2
            go_ret
            exact ⟨rfl, HB14.out⟩
    · by_cases hn0 : n < 0
      · have hdn0 : decide (0 ≤ n) = false := by simp; omega
        clear hA1 hF1
        go_wp2_with fail
        refine (implFixed_any n w3 hn.2).mono ?_
        rintro e w5 ⟨rfl, hb5⟩
        have HB5 := hide (HB3.out.trans (hb5.mono HB3.out.size))
        clear hb5 HB3
        go_wp2_with fail
        refine (implReadFixed_7 (fixS n ++ T) w5 (by rw [ByteArray.size_append]; omega)).mono ?_
        rintro e w5b ⟨rfl, rfl⟩
        generalize fixS n ++ T = FT at *
        generalize fixS n = F at *
        go_wp2_with fail
        refine (implDec_any n w5 hn.1 hn.2 (HT.out.later HB5.out)).mono ?_
        rintro e w6 ⟨rfl, hb6⟩
        have HB6 := hide (HB5.out.trans (hb6.mono HB5.out.size))
        clear hb6
        go_wp2_with fail
        refine (implReadDec_any (itoaS n) w6 (by omega) (HT.out.later HB6.out) (HY.out.later HB6.out)).mono ?_
        rintro e w7 ⟨⟨d, fine, rfl, hd⟩, hb7⟩
        have HB7 := hide (HB6.out.trans (hb7.mono HB6.out.size))
        have hdec := DA_itoa n d fine hd
        clear hb7 hd HB6 HB5
        by_cases hdi : -1000000000 < n ∧ n < 1000000000
        · obtain ⟨hfine, hdn⟩ := hdec.1 hdi
          obtain ⟨hdi1, hdi2⟩ := hdi
          have hdb : (d != n) = false := by rw [hdn]; simp
          subst hfine
          clear hdec hdn
          go_wp2_with fail
          refine (implHex_any T w7 (by omega)).mono ?_
          rintro e w8 ⟨rfl, hb8⟩
          have HB8 := hide (HB7.out.trans (hb8.mono HB7.out.size))
          clear hb8
          go_wp2_with fail
          refine (implUnhex_any (strOfNums (hx (bl T))) w8 (by rw [hex_size]; omega)).mono ?_
          rintro e w9 ⟨⟨u, good, rfl, hu⟩, hb9⟩
          have HB9 := hide (HB8.out.trans (hb9.mono HB8.out.size))
          obtain ⟨hu1, hu2⟩ := UX_one hu (UX_hex T)
          subst hu1
          subst hu2
          clear hb9 hu HB8 HB7
          go_wp2_with fail
          refine (drawReadVar w9 a0 len0 cap0 zs (HC.out.later HB9.out)).mono ?_
          rintro e w10 ⟨rfl, hb10⟩
          have HB10 := hide (HB9.out.trans (hb10.mono HB9.out.size))
          clear hb10 HB9
          go_wp2_with fail
          refine (implReadVar_any (drV zs) w10 (by omega)).mono ?_
          rintro e w11 ⟨⟨z, j, rfl, hz⟩, rfl⟩
          have hback := RV_back (drV zs) z j hz
          clear hz
          rcases hback with rfl | ⟨hj1, hj2, hj3⟩
          · go_wp2
            go_ret
            exact ⟨rfl, HB10.out⟩
          · have hj0 : ((j : Int) == 0) = false := by rw [beq_eq_false_iff_ne]; omega
            go_wp2_with fail
            refine (drawReadVar w10 a0 len0 cap0 zs (HC.out.later HB10.out)).mono ?_
            rintro e w12 ⟨rfl, hb12⟩
            have HB12 := hide (HB10.out.trans (hb12.mono HB10.out.size))
            clear hb12
            go_wp2_with fail
            refine (implVar_any (z : Int) w12).mono ?_
            rintro e w13 ⟨rfl, hb13⟩
            have HB13 := hide (HB12.out.trans (hb13.mono HB12.out.size))
            clear hb13
            go_wp2_with fail
            refine (drawReadVar w13 a0 len0 cap0 zs (HC.out.later HB13.out)).mono ?_
            rintro e w14 ⟨rfl, hb14⟩
            have HB14 := hide (HB13.out.trans (hb14.mono HB13.out.size))
            clear hb14
            go_wp2
            go_ret
            exact ⟨rfl, HB14.out⟩
        · have hfine := hdec.2 hdi
          subst hfine
          clear hdec
          by_cases hdi1 : -1000000000 < n
          · exact absurd ⟨hdi1, by omega⟩ hdi
          · have hdi3 : decide (-1000000000 < n) = false := by simpa using hdi1
            clear hdi
            go_wp2_with fail
            refine (implHex_any T w7 (by omega)).mono ?_
            rintro e w8 ⟨rfl, hb8⟩
            have HB8 := hide (HB7.out.trans (hb8.mono HB7.out.size))
            clear hb8
            go_wp2_with fail
            refine (implUnhex_any (strOfNums (hx (bl T))) w8 (by rw [hex_size]; omega)).mono ?_
            rintro e w9 ⟨⟨u, good, rfl, hu⟩, hb9⟩
            have HB9 := hide (HB8.out.trans (hb9.mono HB8.out.size))
            obtain ⟨hu1, hu2⟩ := UX_one hu (UX_hex T)
            subst hu1
            subst hu2
            clear hb9 hu HB8 HB7
            go_wp2_with fail
            refine (drawReadVar w9 a0 len0 cap0 zs (HC.out.later HB9.out)).mono ?_
            rintro e w10 ⟨rfl, hb10⟩
            have HB10 := hide (HB9.out.trans (hb10.mono HB9.out.size))
            clear hb10 HB9
            go_wp2_with fail
            refine (implReadVar_any (drV zs) w10 (by omega)).mono ?_
            rintro e w11 ⟨⟨z, j, rfl, hz⟩, rfl⟩
            have hback := RV_back (drV zs) z j hz
            clear hz
            rcases hback with rfl | ⟨hj1, hj2, hj3⟩
            · go_wp2
              go_ret
              exact ⟨rfl, HB10.out⟩
            · have hj0 : ((j : Int) == 0) = false := by rw [beq_eq_false_iff_ne]; omega
              go_wp2_with fail
              refine (drawReadVar w10 a0 len0 cap0 zs (HC.out.later HB10.out)).mono ?_
              rintro e w12 ⟨rfl, hb12⟩
              have HB12 := hide (HB10.out.trans (hb12.mono HB10.out.size))
              clear hb12
              go_wp2_with fail
              refine (implVar_any (z : Int) w12).mono ?_
              rintro e w13 ⟨rfl, hb13⟩
              have HB13 := hide (HB12.out.trans (hb13.mono HB12.out.size))
              clear hb13
              go_wp2_with fail
              refine (drawReadVar w13 a0 len0 cap0 zs (HC.out.later HB13.out)).mono ?_
              rintro e w14 ⟨rfl, hb14⟩
              have HB14 := hide (HB13.out.trans (hb14.mono HB13.out.size))
              clear hb14
              go_wp2
              go_ret
              exact ⟨rfl, HB14.out⟩
      · have hA6 : 72057594037927936 ≤ n := by omega
        have hdn0 : decide (n < 0) = false := by simp; omega
        clear hA1 hF1
        go_wp2_with fail
        refine (implFixed_any n w3 hn.2).mono ?_
        rintro e w5 ⟨rfl, hb5⟩
        have HB5 := hide (HB3.out.trans (hb5.mono HB3.out.size))
        clear hb5 HB3
        go_wp2_with fail
        refine (implReadFixed_7 (fixS n ++ T) w5 (by rw [ByteArray.size_append]; omega)).mono ?_
        rintro e w5b ⟨rfl, rfl⟩
        generalize fixS n ++ T = FT at *
        generalize fixS n = F at *
        go_wp2_with fail
        refine (implDec_any n w5 hn.1 hn.2 (HT.out.later HB5.out)).mono ?_
        rintro e w6 ⟨rfl, hb6⟩
        have HB6 := hide (HB5.out.trans (hb6.mono HB5.out.size))
        clear hb6
        go_wp2_with fail
        refine (implReadDec_any (itoaS n) w6 (by omega) (HT.out.later HB6.out) (HY.out.later HB6.out)).mono ?_
        rintro e w7 ⟨⟨d, fine, rfl, hd⟩, hb7⟩
        have HB7 := hide (HB6.out.trans (hb7.mono HB6.out.size))
        have hdec := DA_itoa n d fine hd
        clear hb7 hd HB6 HB5
        by_cases hdi : -1000000000 < n ∧ n < 1000000000
        · obtain ⟨hfine, hdn⟩ := hdec.1 hdi
          obtain ⟨hdi1, hdi2⟩ := hdi
          have hdb : (d != n) = false := by rw [hdn]; simp
          subst hfine
          clear hdec hdn
          go_wp2_with fail
          refine (implHex_any T w7 (by omega)).mono ?_
          rintro e w8 ⟨rfl, hb8⟩
          have HB8 := hide (HB7.out.trans (hb8.mono HB7.out.size))
          clear hb8
          go_wp2_with fail
          refine (implUnhex_any (strOfNums (hx (bl T))) w8 (by rw [hex_size]; omega)).mono ?_
          rintro e w9 ⟨⟨u, good, rfl, hu⟩, hb9⟩
          have HB9 := hide (HB8.out.trans (hb9.mono HB8.out.size))
          obtain ⟨hu1, hu2⟩ := UX_one hu (UX_hex T)
          subst hu1
          subst hu2
          clear hb9 hu HB8 HB7
          go_wp2_with fail
          refine (drawReadVar w9 a0 len0 cap0 zs (HC.out.later HB9.out)).mono ?_
          rintro e w10 ⟨rfl, hb10⟩
          have HB10 := hide (HB9.out.trans (hb10.mono HB9.out.size))
          clear hb10 HB9
          go_wp2_with fail
          refine (implReadVar_any (drV zs) w10 (by omega)).mono ?_
          rintro e w11 ⟨⟨z, j, rfl, hz⟩, rfl⟩
          have hback := RV_back (drV zs) z j hz
          clear hz
          rcases hback with rfl | ⟨hj1, hj2, hj3⟩
          · go_wp2
            go_ret
            exact ⟨rfl, HB10.out⟩
          · have hj0 : ((j : Int) == 0) = false := by rw [beq_eq_false_iff_ne]; omega
            go_wp2_with fail
            refine (drawReadVar w10 a0 len0 cap0 zs (HC.out.later HB10.out)).mono ?_
            rintro e w12 ⟨rfl, hb12⟩
            have HB12 := hide (HB10.out.trans (hb12.mono HB10.out.size))
            clear hb12
            go_wp2_with fail
            refine (implVar_any (z : Int) w12).mono ?_
            rintro e w13 ⟨rfl, hb13⟩
            have HB13 := hide (HB12.out.trans (hb13.mono HB12.out.size))
            clear hb13
            go_wp2_with fail
            refine (drawReadVar w13 a0 len0 cap0 zs (HC.out.later HB13.out)).mono ?_
            rintro e w14 ⟨rfl, hb14⟩
            have HB14 := hide (HB13.out.trans (hb14.mono HB13.out.size))
            clear hb14
            go_wp2
            go_ret
            exact ⟨rfl, HB14.out⟩
        · have hfine := hdec.2 hdi
          subst hfine
          clear hdec
          by_cases hdi1 : -1000000000 < n
          · have hdi2 : ¬ n < 1000000000 := fun h => hdi ⟨hdi1, h⟩
            clear hdi
            go_wp2_with fail
            refine (implHex_any T w7 (by omega)).mono ?_
            rintro e w8 ⟨rfl, hb8⟩
            have HB8 := hide (HB7.out.trans (hb8.mono HB7.out.size))
            clear hb8
            go_wp2_with fail
            refine (implUnhex_any (strOfNums (hx (bl T))) w8 (by rw [hex_size]; omega)).mono ?_
            rintro e w9 ⟨⟨u, good, rfl, hu⟩, hb9⟩
            have HB9 := hide (HB8.out.trans (hb9.mono HB8.out.size))
            obtain ⟨hu1, hu2⟩ := UX_one hu (UX_hex T)
            subst hu1
            subst hu2
            clear hb9 hu HB8 HB7
            go_wp2_with fail
            refine (drawReadVar w9 a0 len0 cap0 zs (HC.out.later HB9.out)).mono ?_
            rintro e w10 ⟨rfl, hb10⟩
            have HB10 := hide (HB9.out.trans (hb10.mono HB9.out.size))
            clear hb10 HB9
            go_wp2_with fail
            refine (implReadVar_any (drV zs) w10 (by omega)).mono ?_
            rintro e w11 ⟨⟨z, j, rfl, hz⟩, rfl⟩
            have hback := RV_back (drV zs) z j hz
            clear hz
            rcases hback with rfl | ⟨hj1, hj2, hj3⟩
            · go_wp2
              go_ret
              exact ⟨rfl, HB10.out⟩
            · have hj0 : ((j : Int) == 0) = false := by rw [beq_eq_false_iff_ne]; omega
              go_wp2_with fail
              refine (drawReadVar w10 a0 len0 cap0 zs (HC.out.later HB10.out)).mono ?_
              rintro e w12 ⟨rfl, hb12⟩
              have HB12 := hide (HB10.out.trans (hb12.mono HB10.out.size))
              clear hb12
              go_wp2_with fail
              refine (implVar_any (z : Int) w12).mono ?_
              rintro e w13 ⟨rfl, hb13⟩
              have HB13 := hide (HB12.out.trans (hb13.mono HB12.out.size))
              clear hb13
              go_wp2_with fail
              refine (drawReadVar w13 a0 len0 cap0 zs (HC.out.later HB13.out)).mono ?_
              rintro e w14 ⟨rfl, hb14⟩
              have HB14 := hide (HB13.out.trans (hb14.mono HB13.out.size))
              clear hb14
              go_wp2
              go_ret
              exact ⟨rfl, HB14.out⟩
          · have hdi3 : decide (-1000000000 < n) = false := by simpa using hdi1
            clear hdi
            go_wp2_with fail
            refine (implHex_any T w7 (by omega)).mono ?_
            rintro e w8 ⟨rfl, hb8⟩
            have HB8 := hide (HB7.out.trans (hb8.mono HB7.out.size))
            clear hb8
            go_wp2_with fail
            refine (implUnhex_any (strOfNums (hx (bl T))) w8 (by rw [hex_size]; omega)).mono ?_
            rintro e w9 ⟨⟨u, good, rfl, hu⟩, hb9⟩
            have HB9 := hide (HB8.out.trans (hb9.mono HB8.out.size))
            obtain ⟨hu1, hu2⟩ := UX_one hu (UX_hex T)
            subst hu1
            subst hu2
            clear hb9 hu HB8 HB7
            go_wp2_with fail
            refine (drawReadVar w9 a0 len0 cap0 zs (HC.out.later HB9.out)).mono ?_
            rintro e w10 ⟨rfl, hb10⟩
            have HB10 := hide (HB9.out.trans (hb10.mono HB9.out.size))
            clear hb10 HB9
            go_wp2_with fail
            refine (implReadVar_any (drV zs) w10 (by omega)).mono ?_
            rintro e w11 ⟨⟨z, j, rfl, hz⟩, rfl⟩
            have hback := RV_back (drV zs) z j hz
            clear hz
            rcases hback with rfl | ⟨hj1, hj2, hj3⟩
            · go_wp2
              go_ret
              exact ⟨rfl, HB10.out⟩
            · have hj0 : ((j : Int) == 0) = false := by rw [beq_eq_false_iff_ne]; omega
              go_wp2_with fail
              refine (drawReadVar w10 a0 len0 cap0 zs (HC.out.later HB10.out)).mono ?_
              rintro e w12 ⟨rfl, hb12⟩
              have HB12 := hide (HB10.out.trans (hb12.mono HB10.out.size))
              clear hb12
              go_wp2_with fail
              refine (implVar_any (z : Int) w12).mono ?_
              rintro e w13 ⟨rfl, hb13⟩
              have HB13 := hide (HB12.out.trans (hb13.mono HB12.out.size))
              clear hb13
              go_wp2_with fail
              refine (drawReadVar w13 a0 len0 cap0 zs (HC.out.later HB13.out)).mono ?_
              rintro e w14 ⟨rfl, hb14⟩
              have HB14 := hide (HB13.out.trans (hb14.mono HB13.out.size))
              clear hb14
              go_wp2
              go_ret
              exact ⟨rfl, HB14.out⟩

end Go.Proofs.YtelfhodaahpggacDoor
