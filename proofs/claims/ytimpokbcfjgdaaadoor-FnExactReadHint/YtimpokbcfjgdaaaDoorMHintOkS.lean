/-
  spec.l10Ok: which hints are right.
-/
import Derived.Test.YtimpokbcfjgdaaaDoorG06
import Derived.Deep.QuietTactic
namespace Go.Proofs.YtimpokbcfjgdaaaDoor
open Go.RowKit
open Plain

theorem oneSeg_noS {l : List EntV} {k : Nat} (hk : k < l.length) (h : segAt (l.getD 0 zeroE).seg (l[k]) = false) : oneSeg l = false := by
  unfold oneSeg
  rw [List.all_eq_false]
  exact ⟨l[k], List.getElem_mem hk, by rw [h]; simp⟩
theorem oneSeg_yesS {l : List EntV} (h : ∀ j, (hj : j < l.length) → segAt (l.getD 0 zeroE).seg (l[j]) = true) : oneSeg l = true := by
  unfold oneSeg
  rw [List.all_eq_true]
  intro x hx
  obtain ⟨i, hi, rfl⟩ := List.mem_iff_getElem.1 hx
  exact h i hi

set_option maxRecDepth 100000 in
set_option maxHeartbeats 4000000 in
theorem specHintOk_any (w : World) (x m : Int) (a : Option Addr) (n cap : Nat) (xs : List EntV) (hr : entSh.Row w a n xs) (hn : n ≤ 1048576) :
    Calls Tryd.prog 15 #[.agg #[.int .i64 x, .int .i64 m, .slice a n cap]] w fun e w' => e = .returned (.bool (hintB ⟨x, m, xs⟩)) ∧ Below w.heap.size w w' := by
  have hlen := hr.len
  obtain ⟨W, hW⟩ : ∃ W, W = w.alloc (.cells #[.int .i64 x, .int .i64 m, .slice a n cap] 29) := ⟨_, rfl⟩
  have HA1 : Hid (HvAt w w.heap.size 29 x m a n cap xs W) := hide (by rw [hW]; exact HvAt.new 29 x m cap hr)
  have HD : Hid (∀ W', HvAt w w.heap.size 29 x m a n cap xs W' → Calls Tryd.prog 36 #[.slice a n cap] W' fun e w' => e = .returned (.bool (dirOk xs)) ∧ HvAt w w.heap.size 29 x m a n cap xs w') := hide (fun W' h => (specDirOk_any W' a n cap xs h.ents hn).mono fun e w' ⟨h1, h2⟩ => ⟨h1, h.later h2⟩)
  clear hr
  cases q1 : decide ((0 : Int) ≤ x ∧ x ≤ 100000) with
  | false =>
    have HI1 : Hid (∀ W, _) := hide (fun W => in_no q1 W)
    have HV : Hid (hintB ⟨x, m, xs⟩ = false) := hide (by unfold hintB; rw [q1]; rfl)
    go_enter Tryd.func15, Tryd.ntmps15
    go_wp2_with (first
      | (go_at_call_of 35 (Value.int IntKind.i64 x); refine (HI1.out _).mono ?_; rintro e w3 ⟨rfl, rfl⟩))
    go_ret
    exact ⟨by rw [HV.out]; rfl, al1 _ _⟩
  | true =>
    have HI1 : Hid (∀ W, _) := hide (fun W => in_yes q1 W)
    cases q2 : decide ((0 : Int) ≤ m ∧ m ≤ 1000000) with
    | false =>
      have HI2 : Hid (∀ W, _) := hide (fun W => in_no q2 W)
      have HV : Hid (hintB ⟨x, m, xs⟩ = false) := hide (by unfold hintB; rw [q1, q2]; rfl)
      go_enter Tryd.func15, Tryd.ntmps15
      go_wp2_with (first
        | (go_at_call_of 35 (Value.int IntKind.i64 x); refine (HI1.out _).mono ?_; rintro e w3 ⟨rfl, rfl⟩)
        | (go_at_call 35; refine (HI2.out _).mono ?_; rintro e w4 ⟨rfl, rfl⟩))
      go_ret
      exact ⟨by rw [HV.out]; rfl, al1 _ _⟩
    | true =>
      have HI2 : Hid (∀ W, _) := hide (fun W => in_yes q2 W)
      cases q3 : dirOk xs with
      | false =>
        rw [q3] at HD
        have HV : Hid (hintB ⟨x, m, xs⟩ = false) := hide (by unfold hintB listOk; simp [q3])
        go_enter Tryd.func15, Tryd.ntmps15
        go_wp2_with (first
          | (go_at_call_of 35 (Value.int IntKind.i64 x); refine (HI1.out _).mono ?_; rintro e w3 ⟨rfl, rfl⟩)
          | (go_at_call 35; refine (HI2.out _).mono ?_; rintro e w4 ⟨rfl, rfl⟩)
          | (go_at_call 36; rw [← hW]; refine (HD.out W HA1.out).mono ?_; rintro e w5 ⟨rfl, hk5⟩))
        go_ret
        exact ⟨by rw [HV.out]; rfl, hk5.bel⟩
      | true =>
        rw [q3] at HD
        have HV : Hid (hintB ⟨x, m, xs⟩ = oneSeg xs) := hide (by unfold hintB listOk; rw [q1, q2, q3]; rfl)
        go_enter Tryd.func15, Tryd.ntmps15
        go_wp2_with (first
          | (go_at_call_of 35 (Value.int IntKind.i64 x); refine (HI1.out _).mono ?_; rintro e w3 ⟨rfl, rfl⟩)
          | (go_at_call 35; refine (HI2.out _).mono ?_; rintro e w4 ⟨rfl, rfl⟩)
          | (go_at_call 36; rw [← hW]; refine (HD.out W HA1.out).mono ?_; rintro e w5 ⟨rfl, hk5⟩))
        have HA := hide hk5
        obtain ⟨y0, y1, y2⟩ := hk5.cells
        clear hk5 HD HI1 HI2 HA1 hW q1 q2 q3
        go_wp2
        clear y0 y1 y2
        go_loopw [3] (fun i wr => ∃ (k : Nat), k ≤ n ∧ i = .int .i64 k ∧ Hid (∀ j, j < k → (hj : j < xs.length) → segAt (xs.getD 0 zeroE).seg (xs[j]) = true) ∧ Hid (HvAt w w.heap.size 29 x m a n cap xs wr)) (fun i _ => n - (intOf i).toNat)
        case atStart => exact ⟨0, by omega, rfl, hide (fun j hj => absurd hj (by omega)), HA⟩
        case round =>
          clear HA
          obtain ⟨k, hk, rfl, HO, HA⟩ := hrel
          obtain ⟨y0, y1, y2⟩ := HA.out.cells
          have HB3 : Hid (∀ q, HvAt w w.heap.size 29 x m a n cap xs (wr.drewN q)) := hide (fun q => HA.out.later ⟨rfl, rfl, rfl, Nat.le_refl _, fun _ _ => rfl⟩)
          by_cases hlt : k < n
          · have hkf : k < xs.length := by omega
            have h0f : 0 < xs.length := by omega
            obtain ⟨b, off, rfl, hbw, e0, e1, e2, e3, e4⟩ := ent_cells HA.out.ents k hkf
            obtain ⟨b', off', q, -, -, g1, -⟩ := ent_cells HA.out.ents 0 h0f
            simp only [Option.some.injEq, Addr.mk.injEq] at q
            obtain ⟨rfl, rfl, -⟩ := q
            rw [Nat.zero_mul, Nat.add_zero] at g1
            have hk2 : (k : Int) < (n : Int) := by omega
            have h03 : 0 < n := by omega
            have HS : Hid (segAt (xs.getD 0 zeroE).seg (xs[k]) = (decide ((xs[k]).seg = (xs[0]).seg) && decide ((xs[k]).pos ≤ 100000))) := hide (by unfold segAt; rw [getD_at h0f])
            have HBAD : Hid (segAt (xs.getD 0 zeroE).seg (xs[k]) = false → hintB ⟨x, m, xs⟩ = false) := hide (fun h => by rw [HV.out]; exact oneSeg_noS hkf h)
            have HOK : Hid (segAt (xs.getD 0 zeroE).seg (xs[k]) = true → ∀ j, j < k + 1 → (hj : j < xs.length) → segAt (xs.getD 0 zeroE).seg (xs[j]) = true) := hide (fun h j hj hx => by
              by_cases e : j = k
              · subst e; exact h
              · exact HO.out j (by omega) hx)
            obtain ⟨z, hz⟩ : ∃ z, xs[k] = z := ⟨_, rfl⟩
            obtain ⟨y, hy⟩ : ∃ y, xs[0] = y := ⟨_, rfl⟩
            rw [hz] at e0 e1 e2 e3 e4 HS HBAD HOK
            rw [hy] at g1 HS
            clear hz hy e0 e3 e4
            cases q1 : decide (z.seg = y.seg) with
            | false =>
              have t1 : (z.seg != y.seg) = true := by simpa using of_decide_eq_false q1
              have HV2 := hide (HBAD.out (by rw [HS.out, q1]; rfl))
              clear HBAD HOK HS q1 HO
              go_wp2
              go_quiet (fail)
              go_wp2
              go_ret
              exact ⟨by rw [HV2.out]; rfl, (HB3.out _).bel⟩
            | true =>
              have t1 : (z.seg != y.seg) = false := by simpa using of_decide_eq_true q1
              cases q2 : decide (z.pos ≤ 100000) with
              | false =>
                have t2 : decide ((100000 : Int) < z.pos) = true := by have := of_decide_eq_false q2; simp; omega
                have HV2 := hide (HBAD.out (by rw [HS.out, q1, q2]; rfl))
                clear HBAD HOK HS q1 q2 HO
                go_wp2
                go_quiet (fail)
                go_wp2
                go_ret
                exact ⟨by rw [HV2.out]; rfl, (HB3.out _).bel⟩
              | true =>
                have t2 : decide ((100000 : Int) < z.pos) = false := by have := of_decide_eq_true q2; simp; omega
                have HO2 := hide (HOK.out (by rw [HS.out, q1, q2]; rfl))
                clear HBAD HOK HS q1 q2 HO
                go_wp2
                go_quiet (fail)
                go_wp2
                go_roundw
                case rel => exact ⟨k + 1, by omega, by go_num, HO2, hide (HB3.out _)⟩
                case measure => first | (simp [intOf]; done) | (simp [intOf]; omega)
          · obtain rfl : k = n := by omega
            have HE := hide (oneSeg_yesS (fun j hj => HO.out j (by omega) hj))
            clear HO
            go_wp2
            go_ret
            exact ⟨by rw [HV.out, HE.out]; rfl, HA.out.bel⟩

end Go.Proofs.YtimpokbcfjgdaaaDoor
