/-
  impl.hintListOk and impl.hintOk: which hints are right.
-/
import Derived.Test.YtimpokbcfjgdaaaDoorG06
import Derived.Test.YtimpokbcfjgdaaaDoorMDirOkI
namespace Go.Proofs.YtimpokbcfjgdaaaDoor
open Go.RowKit
open Plain

theorem oneSeg_no {l : List EntV} {k : Nat} (hk : k < l.length) (h : segAt (l.getD 0 zeroE).seg (l[k]) = false) : listOk l = false := by
  unfold listOk oneSeg
  rw [Bool.and_eq_false_iff]
  refine .inr ?_
  rw [List.all_eq_false]
  exact ⟨l[k], List.getElem_mem hk, by rw [h]; simp⟩
theorem oneSeg_yes {l : List EntV} (h : ∀ j, (hj : j < l.length) → segAt (l.getD 0 zeroE).seg (l[j]) = true) : listOk l = dirOk l := by
  have : oneSeg l = true := by
    unfold oneSeg
    rw [List.all_eq_true]
    intro x hx
    obtain ⟨i, hi, rfl⟩ := List.mem_iff_getElem.1 hx
    exact h i hi
  unfold listOk
  rw [this, Bool.and_true]

set_option maxRecDepth 100000 in
set_option maxHeartbeats 4000000 in
theorem implHListOk_any (w : World) (a : Option Addr) (n cap : Nat) (xs : List EntV) (hr : entSh.Row w a n xs) (hn : n ≤ 1048576) :
    Calls Tryd.prog 38 #[.slice a n cap] w fun e w' => e = .returned (.bool (listOk xs)) ∧ Below w.heap.size w w' := by
  have hlen := hr.len
  have HR := hide hr
  clear hr
  go_enter Tryd.func38, Tryd.ntmps38
  go_wp2
  go_loopw [7] (fun i wr => ∃ (k : Nat), k ≤ n ∧ i = .int .i64 k ∧ Hid (∀ j, j < k → (hj : j < xs.length) → segAt (xs.getD 0 zeroE).seg (xs[j]) = true) ∧ Hid (Below w.heap.size w wr)) (fun i _ => n - (intOf i).toNat)
  case atStart => exact ⟨0, by omega, rfl, hide (fun j hj => absurd hj (by omega)), hide (Below.refl _ _)⟩
  case round =>
    obtain ⟨k, hk, rfl, HO, HB⟩ := hrel
    by_cases hlt : k < n
    · have hkf : k < xs.length := by omega
      have h0f : 0 < xs.length := by omega
      obtain ⟨b, off, rfl, hbw, e0, e1, e2, e3, e4⟩ := ent_cells (HR.out.later HB.out) k hkf
      obtain ⟨b', off', q, -, -, g1, -⟩ := ent_cells (HR.out.later HB.out) 0 h0f
      simp only [Option.some.injEq, Addr.mk.injEq] at q
      obtain ⟨rfl, rfl, -⟩ := q
      have hk2 : (k : Int) < (n : Int) := by omega
      have h03 : 0 < n := by omega
      have HS : Hid (segAt (xs.getD 0 zeroE).seg (xs[k]) = (decide ((xs[k]).seg = (xs[0]).seg) && decide ((xs[k]).pos ≤ 100000))) := hide (by unfold segAt; rw [getD_at h0f])
      have HBAD : Hid (segAt (xs.getD 0 zeroE).seg (xs[k]) = false → listOk xs = false) := hide (fun h => oneSeg_no hkf h)
      have HOK : Hid (segAt (xs.getD 0 zeroE).seg (xs[k]) = true → ∀ j, j < k + 1 → (hj : j < xs.length) → segAt (xs.getD 0 zeroE).seg (xs[j]) = true) := hide (fun h j hj hx => by
        by_cases e : j = k
        · subst e; exact h
        · exact HO.out j (by omega) hx)
      obtain ⟨z, hz⟩ : ∃ z, xs[k] = z := ⟨_, rfl⟩
      obtain ⟨y, hy⟩ : ∃ y, xs[0] = y := ⟨_, rfl⟩
      rw [hz] at e0 e1 e2 e3 e4 HS HBAD HOK
      rw [hy] at g1 HS
      have hbx := Blk5.new wr z
      obtain ⟨W2, hW2⟩ : ∃ W2, W2 = wr.alloc (.cells #[.string z.key, .int .i64 z.seg, .int .i64 z.pos, .int .i64 z.len, .int .i64 z.bat] 41) := ⟨_, rfl⟩
      have HB2 : Hid (Below w.heap.size w W2) := hide (by rw [hW2]; exact HB.out.alloc HB.out.size _)
      have g2 : W2.cell? ⟨b, off + 0 * 5 + 1, none⟩ = some (.int .i64 y.seg) := by rw [hW2, (al1 wr _).cell (p := ⟨b, _, none⟩) hbw]; exact g1
      have HWZ : Hid (W2.heap.size = wr.heap.size + 1) := hide (by rw [hW2]; simp)
      go_wp2_with fail
      rw [← hW2]
      rw [← hW2] at hbx
      clear hW2 e0 e1 e2 e3 e4 g1
      obtain ⟨y0, y1, y2, y3, y4, -⟩ := cells5 hbx
      rw [Nat.zero_mul, Nat.add_zero] at g2
      have HB3 : Hid (∀ q, Below w.heap.size w (W2.drewN q)) := hide (fun _ => ⟨HB2.out.os, HB2.out.tape, HB2.out.output, HB2.out.size, HB2.out.block⟩)
      clear hbx HB2 HR hz hy HWZ hbw
      cases q1 : decide (z.seg = y.seg) with
      | false =>
        have t1 : (z.seg != y.seg) = true := by simpa using of_decide_eq_false q1
        have HV := hide (HBAD.out (by rw [HS.out, q1]; rfl))
        clear HBAD HOK HS q1 HO HB
        go_quiet (fail)
        go_wp2
        go_ret
        exact ⟨by rw [HV.out]; rfl, HB3.out _⟩
      | true =>
        have t1 : (z.seg != y.seg) = false := by simpa using of_decide_eq_true q1
        cases q2 : decide (z.pos ≤ 100000) with
        | false =>
          have t2 : decide ((100000 : Int) < z.pos) = true := by have := of_decide_eq_false q2; simp; omega
          have HV := hide (HBAD.out (by rw [HS.out, q1, q2]; rfl))
          clear HBAD HOK HS q1 q2 HO HB
          go_quiet (fail)
          go_wp2
          go_ret
          exact ⟨by rw [HV.out]; rfl, HB3.out _⟩
        | true =>
          have t2 : decide ((100000 : Int) < z.pos) = false := by have := of_decide_eq_true q2; simp; omega
          have HO2 := hide (HOK.out (by rw [HS.out, q1, q2]; rfl))
          clear HBAD HOK HS q1 q2 HO HB
          go_quiet (fail)
          go_wp2
          go_roundw
          case rel => exact ⟨k + 1, by omega, by go_num, HO2, hide (HB3.out _)⟩
          case measure => first | (simp [intOf]; done) | (simp [intOf]; omega)
    · obtain rfl : k = n := by omega
      have HE := hide (oneSeg_yes (fun j hj => HO.out j (by omega) hj))
      have HD := hide (implDirOk_any wr a k cap xs (HR.out.later HB.out) (by omega))
      clear HO
      go_wp2_with fail
      refine HD.out.mono ?_
      rintro e w1 ⟨rfl, hb1⟩
      have HB1 := hide (HB.out.trans (hb1.mono HB.out.size))
      clear hb1 HD
      go_wp2
      go_ret
      exact ⟨by rw [HE.out]; rfl, HB1.out⟩

set_option maxRecDepth 100000 in
set_option maxHeartbeats 4000000 in
theorem implHintOk_any (w : World) (x m : Int) (a : Option Addr) (n cap : Nat) (xs : List EntV) (hr : entSh.Row w a n xs) (hn : n ≤ 1048576) :
    Calls Tryd.prog 20 #[.agg #[.int .i64 x, .int .i64 m, .slice a n cap]] w fun e w' => e = .returned (.bool (hintB ⟨x, m, xs⟩)) ∧ Below w.heap.size w w' := by
  obtain ⟨W, hW⟩ : ∃ W, W = w.alloc (.cells #[.int .i64 x, .int .i64 m, .slice a n cap] 29) := ⟨_, rfl⟩
  have HA1 : Hid (HvAt w w.heap.size 29 x m a n cap xs W) := hide (by rw [hW]; exact HvAt.new 29 x m cap hr)
  have HL := hide (implHListOk_any W a n cap xs HA1.out.ents hn)
  clear hr
  by_cases q1 : 0 ≤ x
  · have t1 : decide (0 ≤ x) = true := by simpa using q1
    by_cases q2 : x ≤ 100000
    · have t2 : decide (x ≤ 100000) = true := by simpa using q2
      have d1 : decide (0 ≤ x ∧ x ≤ 100000) = true := decide_eq_true ⟨q1, q2⟩
      clear q1 q2
      by_cases q3 : 0 ≤ m
      · have t3 : decide (0 ≤ m) = true := by simpa using q3
        by_cases q4 : m ≤ 1000000
        · have t4 : decide (m ≤ 1000000) = true := by simpa using q4
          have d2 : decide (0 ≤ m ∧ m ≤ 1000000) = true := decide_eq_true ⟨q3, q4⟩
          clear q3 q4
          have HV : Hid (hintB ⟨x, m, xs⟩ = listOk xs) := hide (by unfold hintB; rw [d1, d2]; rfl)
          go_enter Tryd.func20, Tryd.ntmps20
          go_wp2_with fail
          rw [← hW]
          clear hW
          refine HL.out.mono ?_
          rintro e w1 ⟨rfl, hb1⟩
          have HB1 := hide (HA1.out.bel.trans (hb1.mono HA1.out.bel.size))
          clear hb1 HL HA1
          go_wp2
          go_ret
          exact ⟨by rw [HV.out]; rfl, HB1.out⟩
        · have t4 : decide (m ≤ 1000000) = false := by simpa using q4
          have d2 : decide (0 ≤ m ∧ m ≤ 1000000) = false := decide_eq_false (fun h => q4 h.2)
          clear q3 q4
          have HV : Hid (hintB ⟨x, m, xs⟩ = false) := hide (by unfold hintB; rw [d1, d2]; simp)
          clear HA1
          go_enter Tryd.func20, Tryd.ntmps20
          go_wp2
          go_ret
          exact ⟨by rw [HV.out]; rfl, al1 _ _⟩
      · have t3 : decide (0 ≤ m) = false := by simpa using q3
        have d2 : decide (0 ≤ m ∧ m ≤ 1000000) = false := decide_eq_false (fun h => q3 h.1)
        clear q3
        have HV : Hid (hintB ⟨x, m, xs⟩ = false) := hide (by unfold hintB; rw [d1, d2]; simp)
        clear HA1
        go_enter Tryd.func20, Tryd.ntmps20
        go_wp2
        go_ret
        exact ⟨by rw [HV.out]; rfl, al1 _ _⟩
    · have t2 : decide (x ≤ 100000) = false := by simpa using q2
      have d1 : decide (0 ≤ x ∧ x ≤ 100000) = false := decide_eq_false (fun h => q2 h.2)
      clear q1 q2
      have HV : Hid (hintB ⟨x, m, xs⟩ = false) := hide (by unfold hintB; rw [d1]; simp)
      clear HA1
      go_enter Tryd.func20, Tryd.ntmps20
      go_wp2
      go_ret
      exact ⟨by rw [HV.out]; rfl, al1 _ _⟩
  · have t1 : decide (0 ≤ x) = false := by simpa using q1
    have d1 : decide (0 ≤ x ∧ x ≤ 100000) = false := decide_eq_false (fun h => q1 h.1)
    clear q1
    have HV : Hid (hintB ⟨x, m, xs⟩ = false) := hide (by unfold hintB; rw [d1]; simp)
    clear HA1
    go_enter Tryd.func20, Tryd.ntmps20
    go_wp2
    go_ret
    exact ⟨by rw [HV.out]; rfl, al1 _ _⟩

end Go.Proofs.YtimpokbcfjgdaaaDoor
