/-
  The laws' markIntS. The laws' heldIntS. Rows that stand while another one is written. The walk of the exact law of Sealed.
-/
import Derived.Test.YtphbinkkgmlnmaaDoorG16
import Derived.Test.YtphbinkkgmlnmaaDoorG14
import Derived.Test.YtphbinkkgmlnmaaDoorMSealS
import Derived.Test.YtphbinkkgmlnmaaDoorMSealI
namespace Go.Proofs.YtphbinkkgmlnmaaDoor
open Go.RowKit
open Plain

/-- Numbers from k on. -/
def upI : Nat → Nat → List Int
  | 0, _ => []
  | n + 1, k => (k : Int) :: upI n (k + 1)
theorem upI_length (n : Nat) : ∀ k, (upI n k).length = n := by
  induction n with
  | zero => intro k; rfl
  | succ n ih => intro k; simp [upI, ih]
theorem upI_get (n : Nat) : ∀ k i, i < n → (upI n k)[i]? = some ((k + i : Nat) : Int) := by
  induction n with
  | zero => intro k i h; omega
  | succ n ih =>
    intro k i h
    cases i with
    | zero => rfl
    | succ i =>
      have := ih (k + 1) i (by omega)
      simp only [upI, List.getElem?_cons_succ, this]
      congr 1
      omega
theorem upI_take (n k i : Nat) (h : i < n) : (upI n k).take (i + 1) = (upI n k).take i ++ [((k + i : Nat) : Int)] := by
  have hl : i < (upI n k).length := by rw [upI_length]; exact h
  rw [List.take_succ_eq_append_getElem hl]
  have := upI_get n k i h
  rw [List.getElem?_eq_getElem hl] at this
  injection this with this
  rw [this]

set_option maxRecDepth 100000 in
set_option maxHeartbeats 1000000 in
theorem markIntS_any (w : World) (base : Nat) (a : Option Addr) (n cap : Nat) (zs : List Int) (ho : IOwn w base (.slice a n cap) zs) (hn : n ≤ 1099511627776) (k : Nat) (hk : k ≤ 4398046511104) :
    Calls Tryd.prog 11 #[.slice a n cap, .int .i64 k] w fun e w' => e = .returned (.int .i64 (k + n : Nat)) ∧ IOwn w' base (.slice a n cap) (upI n k) ∧ w.grownBy w' (Value.slice a n cap).ownBlock := by
  have HO := hide ho
  clear ho
  go_enter Tryd.func11, Tryd.ntmps11
  go_wp2
  go_loopw [1, 5] (fun v i wr => ∃ (j : Nat) (gs : List Int), j ≤ n ∧ i = .int .i64 j ∧ v = .int .i64 (k + j : Nat) ∧ Hid (gs.take j = (upI n k).take j) ∧ Hid (IOwn wr base (.slice a n cap) gs) ∧ Hid (w.grownBy wr (Value.slice a n cap).ownBlock)) (fun _ i _ => n - (intOf i).toNat)
  case atStart => exact ⟨0, zs, by omega, rfl, by simp, hide (by simp), HO, hide (grown_refl _ _)⟩
  case round =>
    clear HO
    obtain ⟨j, gs, hj, rfl, rfl, HE, HO, HG⟩ := hrel
    by_cases hlt : j < n
    · obtain ⟨g, rfl⟩ : ∃ g, a = some ⟨g, 0, none⟩ := by
        rcases HO.out.2 with ⟨e, h0⟩ | ⟨g, c, cur, e, _⟩
        · simp only [Value.slice.injEq] at e
          have := HO.out.len
          omega
        · simp only [Value.slice.injEq] at e
          exact ⟨g, e.1⟩
      have hgl := HO.out.len
      have HP := hide (HO.out.put j ((k + j : Nat) : Int))
      have hw := HO.out
      unfold IOwn at hw
      rw [HO.out.len] at hw
      have f1 := hw.frozenAt j
      have hgk : j < gs.length := by omega
      obtain ⟨b', o', q0, -, -, q1⟩ := HO.out.row.cells j hgk
      simp only [Option.some.injEq, Addr.mk.injEq] at q0
      obtain ⟨rfl, rfl, -⟩ := q0
      rw [Nat.zero_add] at q1
      have HE2 : Hid ((gs.set j ((k + j : Nat) : Int)).take (j + 1) = (upI n k).take (j + 1)) := hide (by
        rw [upI_take n k j hlt, ← HE.out, List.take_succ_eq_append_getElem (by rw [List.length_set]; omega), List.take_set_of_le (Nat.le_refl _)]
        simp)
      have HG2 := hide (grown_chain HG.out HP.out.2)
      clear hw HO HG HE
      generalize ht : k + j = t at *
      have HT : Hid ((t : Int) + 1 = ((k + (j + 1) : Nat) : Int)) := hide (by omega)
      have htb : t ≤ 8796093022208 := by omega
      clear ht
      go_wp2
      go_roundw
      case rel => exact ⟨j + 1, gs.set j (t : Int), by omega, by go_num, by rw [HT.out], HE2, hide HP.out.1, HG2⟩
      case measure => first | (simp [intOf]; done) | (simp [intOf]; omega)
    · obtain rfl : j = n := by omega
      have HM : Hid (gs = upI j k) := hide (by
        have h := HE.out
        rw [List.take_of_length_le (by rw [HO.out.len]; omega), List.take_of_length_le (by rw [upI_length]; omega)] at h
        exact h)
      go_wp2
      go_ret
      exact ⟨rfl, by rw [← HM.out]; exact HO.out, HG.out⟩

end Go.Proofs.YtphbinkkgmlnmaaDoor
namespace Go.Proofs.YtphbinkkgmlnmaaDoor
open Go.RowKit
open Plain

set_option maxRecDepth 100000 in
set_option maxHeartbeats 1000000 in
theorem heldIntS_any (w : World) (a : Option Addr) (n cap : Nat) (hn : n ≤ 1099511627776) (k : Nat) (hk : k ≤ 4398046511104) (hr : IRow w 0 a n (upI n k)) :
    Calls Tryd.prog 12 #[.slice a n cap, .int .i64 k] w fun e w' => e = .returned (.int .i64 (k + n : Nat)) ∧ Below w.heap.size w w' := by
  have HR := hide hr
  clear hr
  go_enter Tryd.func12, Tryd.ntmps12
  go_wp2
  go_loopw [1, 5] (fun v i wr => ∃ j : Nat, j ≤ n ∧ i = .int .i64 j ∧ v = .int .i64 (k + j : Nat) ∧ Hid (Below w.heap.size w wr)) (fun _ i _ => n - (intOf i).toNat)
  case atStart => exact ⟨0, by omega, rfl, by simp, hide (Below.refl _ _)⟩
  case round =>
    obtain ⟨j, hj, rfl, rfl, HB⟩ := hrel
    by_cases hlt : j < n
    · have hju : j < (upI n k).length := by rw [upI_length]; exact hlt
      obtain ⟨b, off, rfl, -, hbw, e1⟩ := (HR.out.later HB.out (Nat.le_refl _)).cells j hju
      have hg := upI_get n k j hlt
      rw [List.getElem?_eq_getElem hju] at hg
      injection hg with hg
      rw [hg] at e1
      have HT : Hid (((k + j : Nat) : Int) + 1 = ((k + (j + 1) : Nat) : Int)) := hide (by omega)
      have htb : k + j ≤ 8796093022208 := by omega
      clear hg hju
      generalize k + j = t at *
      go_wp2
      first
        | (go_region; go_wp2)
        | skip
      go_roundw
      case rel => exact ⟨j + 1, by omega, by go_num, by rw [HT.out], hide (by first | exact HB.out | exact HB.out.drew)⟩
      case measure => first | (simp [intOf]; done) | (simp [intOf]; omega)
    · obtain rfl : j = n := by omega
      go_wp2
      go_ret
      exact ⟨rfl, HB.out⟩

end Go.Proofs.YtphbinkkgmlnmaaDoor
namespace Go.Proofs.YtphbinkkgmlnmaaDoor
open Go.RowKit
open Plain

/-- A row in other blocks stands. -/
theorem row_apart {w w' : World} {base base' e sz n e' sz' n' : Nat} {v u : Value} {xs ys : List Value} (h : w.ownsRow base e sz v n xs) {W : World} (h0 : W.ownsRow base e sz v n xs) (hW : W.heap.size ≤ base') (hu : w.ownsRow base' e' sz' u n' ys) (hg : w.grownBy w' u.ownBlock) : w'.ownsRow base e sz v n xs := by
  refine World.ownsRow.kept h hg ?_
  cases q : v.ownBlock with
  | none => exact .inl rfl
  | some g =>
    refine .inr (fun e => ?_)
    have h1 := (World.ownsRow.lt h0 g q).2
    have h2 := (World.ownsRow.lt hu g e.symm).1
    omega
/-- .. of a row ahead of it. -/
theorem row_behind {w w' : World} {base base' e sz n e' sz' n' : Nat} {v u : Value} {xs ys : List Value} (h : w.ownsRow base e sz v n xs) {W : World} (hu0 : W.ownsRow base' e' sz' u n' ys) (hW : W.heap.size ≤ base) (hg : w.grownBy w' u.ownBlock) : w'.ownsRow base e sz v n xs := by
  refine World.ownsRow.kept h hg ?_
  cases q : v.ownBlock with
  | none => exact .inl rfl
  | some g =>
    refine .inr (fun e => ?_)
    have h1 := (World.ownsRow.lt hu0 g e.symm).2
    have h2 := (World.ownsRow.lt h g q).1
    omega
theorem grown_to {w w' : World} {u : Option Nat} {n : Nat} (hg : w.grownBy w' u) (hn : n ≤ w.heap.size) (hu : ∀ g, u = some g → n ≤ g) : Below n w w' := (Below.refl n w).grown hg hn hu

end Go.Proofs.YtphbinkkgmlnmaaDoor
namespace Go.Proofs.YtphbinkkgmlnmaaDoor
open Go.RowKit
open Plain

set_option maxRecDepth 100000 in
set_option maxHeartbeats 8000000 in
theorem lawSealed_walk (w : World) (ht : STab w) (a : Option Addr) (n cap : Nat) (xs : List PlaceV) (hr : plSh.Row w a n xs) (hf : PFits xs) (hl : n ≤ maxLen) :
    Calls Tryd.prog 3 #[.slice a n cap] w fun e w' => e = .returned (.bool true) ∧ Below w.heap.size w w' := by
  have HSZ := hide (szPlaceS_any w a n cap xs hr hf hl 1048576 (by omega) (by omega))
  have hlen := hr.len
  by_cases hsz : ((n + szPs xs : Nat) : Int) ≤ 1048576
  · rw [lessR_yes hsz] at HSZ
    have hn : n ≤ 1048576 := by omega
    have d0 : decide ((1048576 : Int) - ((n + szPs xs : Nat) : Int) < 0) = false := by simp; omega
    generalize (1048576 : Int) - ((n + szPs xs : Nat) : Int) = L at *
    have HTO : Hid (∀ W, Below w.heap.size w W → _) := hide (fun W (hW : Below w.heap.size w W) => toPlaceS_any W a n cap xs (hr.later hW) hn)
    have HT := hide ht
    obtain ⟨zs, hzs⟩ : ∃ zs, sealF xs = zs := ⟨_, rfl⟩
    obtain ⟨m, hzm⟩ : ∃ m, zs.length = m := ⟨_, rfl⟩
    have hml : m ≤ 1048576 := by
      have := sealF_len xs xs.length
      rw [List.take_length, hzs] at this
      omega
    have HSPK : Hid (∀ W a' c', plSh.Row W a' n xs → Calls Tryd.prog 5 #[.slice a' n c'] W fun e w' => (∃ a'' cap', e = .returned (.slice a'' m cap') ∧ IOwn w' W.heap.size (.slice a'' m cap') zs) ∧ Below W.heap.size W w') := hide (fun W a' c' h => by
      refine (specSealed_any W a' n c' xs h hf hn).mono ?_
      rintro e w' ⟨⟨a2, n2, c2, rfl, h2⟩, h3⟩
      rw [hzs] at h2
      obtain rfl : n2 = m := by rw [← hzm]; exact h2.len.symm
      exact ⟨⟨a2, c2, rfl, h2⟩, h3⟩)
    have HIMK : Hid (∀ W a' c', Below w.heap.size w W → plSh.Row W a' n xs → Calls Tryd.prog 7 #[.slice a' n c'] W fun e w' => (∃ a'' cap', e = .returned (.slice a'' m cap') ∧ IOwn w' W.heap.size (.slice a'' m cap') zs) ∧ Below W.heap.size W w') := hide (fun W a' c' hb h => by
      refine (implSealed_any W (ht.later hb) a' n c' xs h hf hn).mono ?_
      rintro e w' ⟨⟨a2, n2, c2, rfl, h2⟩, h3⟩
      rw [hzs] at h2
      obtain rfl : n2 = m := by rw [← hzm]; exact h2.len.symm
      exact ⟨⟨a2, c2, rfl, h2⟩, h3⟩)
    clear hsz hr hf ht hl hzs hlen hzm HT
    go_enter Tryd.func3, Tryd.ntmps3
    go_wp2_with fail
    refine HSZ.out.mono ?_
    rintro e w1 ⟨rfl, hb1⟩
    have HB1 := hide hb1
    clear hb1 HSZ
    go_wp2_with fail
    refine (HTO.out w1 HB1.out).mono ?_
    rintro e w2 ⟨rfl, ho2, hb2⟩
    have HB2 := hide (HB1.out.trans (hb2.mono HB1.out.size))
    have HR2 := hide ho2.row
    have hlo2 : w.heap.size ≤ w2.heap.size := HB2.out.size
    clear ho2 hb2 HB1
    go_wp2_with fail
    refine (HSPK.out w2 _ n HR2.out).mono ?_
    rintro e w3 ⟨⟨sa, sc, rfl, hs3⟩, hb3⟩
    have HB3 := hide (HB2.out.trans (hb3.mono HB2.out.size))
    have HS3 := hide hs3
    generalize w2.heap.size = l2 at *
    have hlo3 : w.heap.size ≤ w3.heap.size := HB3.out.size
    clear hb3 hs3 HB2 HR2 HSPK
    go_wp2_with fail
    refine (HTO.out w3 HB3.out).mono ?_
    rintro e w4 ⟨rfl, ho4, hb4⟩
    have HB4 := hide (HB3.out.trans (hb4.mono HB3.out.size))
    have HX4 := hide ho4
    have HS4 := hide (HS3.out.later hb4 (Nat.le_refl _))
    have HSW4 := hide HS4.out
    have HR4 := hide ho4.row
    have hlo4 : w.heap.size ≤ w4.heap.size := HB4.out.size
    clear ho4 hb4 HB3
    go_wp2_with fail
    refine (HIMK.out w4 _ n HB4.out HR4.out).mono ?_
    rintro e w5 ⟨⟨ia, ic, rfl, hg5⟩, hb5⟩
    have HB5 := hide (HB4.out.trans (hb5.mono HB4.out.size))
    have HX5 := hide (HX4.out.later hb5 (Nat.le_refl _))
    have HS5 := hide (HS4.out.later hb5 (Nat.le_refl _))
    have HG5 := hide hg5
    clear hb5 hg5 HB4 HR4 HS4
    go_wp2_with fail
    refine (eqIntS_same w5 ia sa m ic sc zs HG5.out.row HS5.out.row (by omega)).mono ?_
    rintro e w6 ⟨rfl, hb6⟩
    have HB6 := hide (HB5.out.trans (hb6.mono HB5.out.size))
    have HX6 := hide (HX5.out.later hb6 (Nat.le_refl _))
    have HS6 := hide (HS5.out.later hb6 (Nat.le_refl _))
    have HG6 := hide (HG5.out.later hb6 (Nat.le_refl _))
    clear hb6 HB5 HX5 HS5 HG5
    go_wp2_with fail
    refine (HTO.out w6 HB6.out).mono ?_
    rintro e w7 ⟨rfl, ho7, hb7⟩
    have HB7 := hide (HB6.out.trans (hb7.mono HB6.out.size))
    have HX7 := hide (HX6.out.later hb7 (Nat.le_refl _))
    have HS7 := hide (HS6.out.later hb7 (Nat.le_refl _))
    have HG7 := hide (HG6.out.later hb7 (Nat.le_refl _))
    have HEQ := hide (eqPlaceS_same w7 _ _ n n n xs HX7.out.row ho7.row (by omega))
    clear ho7 hb7 HB6 HX6 HS6 HG6
    go_wp2_with fail
    refine HEQ.out.mono ?_
    rintro e w8 ⟨rfl, hb8⟩
    have HB8 := hide (HB7.out.trans (hb8.mono HB7.out.size))
    have HX8 := hide (HX7.out.later hb8 (Nat.le_refl _))
    have HS8 := hide (HS7.out.later hb8 (Nat.le_refl _))
    have HG8 := hide (HG7.out.later hb8 (Nat.le_refl _))
    clear hb8 HEQ HB7 HX7 HS7 HG7
    go_wp2_with fail
    refine (markPlaceS_any w8 w3.heap.size _ n n xs HX8.out (by omega) 1 (by omega) (by omega)).mono ?_
    rintro e w9 ⟨rfl, ho9, hg9⟩
    have HB9 := hide (HB8.out.trans (grown_to hg9 HB8.out.size (fun g hg => Nat.le_trans hlo3 (HX8.out.blk g hg).1)))
    have HS9 : Hid (IOwn w9 l2 (.slice sa m sc) zs) := hide (row_apart HS8.out HS3.out (Nat.le_refl _) HX8.out hg9)
    have HG9 : Hid (IOwn w9 w4.heap.size (.slice ia m ic) zs) := hide (row_behind HG8.out HX4.out (Nat.le_refl _) hg9)
    obtain ⟨k1, hk1⟩ : ∃ k, 1 + 9 * n = k := ⟨_, rfl⟩
    have d1 : decide ((k1 : Int) < 0) = false := by simp
    rw [hk1]
    clear hk1 ho9 hg9 HB8 HX8 HS8 HG8 HX4 HS3
    go_wp2_with fail
    refine (eqIntS_same w9 ia sa m ic sc zs HG9.out.row HS9.out.row (by omega)).mono ?_
    rintro e w10 ⟨rfl, hb10⟩
    have HB10 := hide (HB9.out.trans (hb10.mono HB9.out.size))
    have HS10 := hide (HS9.out.later hb10 (Nat.le_refl _))
    have HG10 := hide (HG9.out.later hb10 (Nat.le_refl _))
    clear hb10 HB9 HS9 HG9
    go_wp2_with fail
    refine (markIntS_any w10 w4.heap.size ia m ic zs HG10.out (by omega) 1 (by omega)).mono ?_
    rintro e w11 ⟨rfl, ho11, hg11⟩
    have HB11 := hide (HB10.out.trans (grown_to hg11 HB10.out.size (fun g hg => Nat.le_trans hlo4 (HG10.out.blk g hg).1)))
    have HS11 : Hid (IOwn w11 l2 (.slice sa m sc) zs) := hide (row_apart HS10.out HSW4.out (Nat.le_refl _) HG10.out hg11)
    have HG11 := hide ho11
    have HHE := hide (fun W (h : IRow W 0 ia m (upI m 1)) => heldIntS_any W ia m ic (by omega) 1 (by omega) h)
    obtain ⟨t, ht⟩ : ∃ t : Int, ((1 + m : Nat) : Int) = t := ⟨_, rfl⟩
    have t1 : decide (t < 0) = false := by simp; omega
    have t2 : (t != t) = false := by simp
    rw [ht] at HHE ⊢
    clear ht ho11 hg11 HB10 HS10 HG10 HSW4
    go_wp2_with fail
    refine (HHE.out w11 HG11.out.row).mono ?_
    rintro e w12 ⟨rfl, hb12⟩
    have HB12 := hide (HB11.out.trans (hb12.mono HB11.out.size))
    have HS12 := hide (HS11.out.later hb12 (Nat.le_refl _))
    have HG12 := hide (HG11.out.later hb12 (Nat.le_refl _))
    clear hb12 HB11 HS11 HG11
    go_wp2_with fail
    refine (HTO.out w12 HB12.out).mono ?_
    rintro e w13 ⟨rfl, ho13, hb13⟩
    have HB13 := hide (HB12.out.trans (hb13.mono HB12.out.size))
    have HS13 := hide (HS12.out.later hb13 (Nat.le_refl _))
    have HG13 := hide (HG12.out.later hb13 (Nat.le_refl _))
    have HR13 := hide ho13.row
    clear ho13 hb13 HB12 HS12 HG12
    go_wp2_with fail
    refine (HIMK.out w13 _ n HB13.out HR13.out).mono ?_
    rintro e w14 ⟨⟨ja, jc, rfl, hj14⟩, hb14⟩
    have HB14 := hide (HB13.out.trans (hb14.mono HB13.out.size))
    have HS14 := hide (HS13.out.later hb14 (Nat.le_refl _))
    have HG14 := hide (HG13.out.later hb14 (Nat.le_refl _))
    have HJ14 := hide hj14
    clear hb14 hj14 HB13 HS13 HG13 HR13
    go_wp2_with fail
    refine (eqIntS_same w14 ja sa m jc sc zs HJ14.out.row HS14.out.row (by omega)).mono ?_
    rintro e w15 ⟨rfl, hb15⟩
    have HB15 := hide (HB14.out.trans (hb15.mono HB14.out.size))
    have HG15 := hide (HG14.out.later hb15 (Nat.le_refl _))
    clear hb15 HB14 HS14 HG14 HJ14
    go_wp2_with fail
    refine (HHE.out w15 HG15.out.row).mono ?_
    rintro e w16 ⟨rfl, hb16⟩
    have HB16 := hide (HB15.out.trans (hb16.mono HB15.out.size))
    clear hb16 HB15 HG15 HHE
    go_wp2
    go_ret
    exact ⟨rfl, HB16.out⟩
  · rw [lessR_no (by omega)] at HSZ
    clear hsz hr hf ht
    go_enter Tryd.func3, Tryd.ntmps3
    go_wp2_with fail
    refine HSZ.out.mono ?_
    rintro e w1 ⟨rfl, hb1⟩
    have HB1 := hide hb1
    clear hb1 HSZ
    go_wp2
    go_ret
    exact ⟨rfl, HB1.out⟩

end Go.Proofs.YtphbinkkgmlnmaaDoor
