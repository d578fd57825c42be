/-
  Which directories are right; spec.DirOk.
-/
import Derived.Test.YtnckdfidehbcaaaDirPlain
import Derived.Deep.QuietTactic
namespace Go.Proofs.Ytnckdfidehbcaaa
open Go.RowKit
open Plain

/-- Is an entry right, for itself? -/
def entOk (e : EntV) : Bool := keyB e.key && (decide (1 ≤ e.seg ∧ e.seg ≤ 100000) && (decide (0 ≤ e.pos) && (decide (1 ≤ e.len ∧ e.len ≤ 210) && decide (1 ≤ e.bat ∧ e.bat ≤ 1000000))))
/-- Does the entry i stand right, behind the one ahead? -/
def okAt (xs : List EntV) (i : Nat) : Bool := entOk (xs.getD i zeroE) && (decide (i = 0) || klt (xs.getD (i - 1) zeroE).key (xs.getD i zeroE).key)
def dirOk (xs : List EntV) : Bool := decide (xs.length ≤ 20) && (List.range xs.length).all (okAt xs)
theorem dirOk_no {xs : List EntV} {k : Nat} (hk : k < xs.length) (h : okAt xs k = false) : dirOk xs = false := by
  unfold dirOk
  rw [Bool.and_eq_false_iff]
  refine .inr ?_
  rw [List.all_eq_false]
  exact ⟨k, by simpa using hk, by rw [h]; simp⟩
theorem dirOk_yes {xs : List EntV} (hn : xs.length ≤ 20) (h : ∀ i, i < xs.length → okAt xs i = true) : dirOk xs = true := by
  unfold dirOk
  rw [decide_eq_true hn, Bool.true_and, List.all_eq_true]
  intro i hi
  exact h i (by simpa using hi)
theorem getD_at {xs : List EntV} {k : Nat} (hk : k < xs.length) : xs.getD k zeroE = xs[k] := by simp [List.getD, hk]
theorem in_yes {x lo hi : Int} (h : decide (lo ≤ x ∧ x ≤ hi) = true) (w : World) : Calls Try.prog 27 #[.int .i64 x, .int .i64 lo, .int .i64 hi] w fun e w' => e = .returned (.bool true) ∧ w' = w := (in_any x lo hi w).mono fun _ _ ⟨a, b⟩ => ⟨by rw [a, h], b.symm⟩
theorem in_no {x lo hi : Int} (h : decide (lo ≤ x ∧ x ≤ hi) = false) (w : World) : Calls Try.prog 27 #[.int .i64 x, .int .i64 lo, .int .i64 hi] w fun e w' => e = .returned (.bool false) ∧ w' = w := (in_any x lo hi w).mono fun _ _ ⟨a, b⟩ => ⟨by rw [a, h], b.symm⟩
theorem skey_is {s : ByteArray} {b : Bool} (h : keyB s = b) (w : World) : Calls Try.prog 26 #[.string s] w fun e w' => e = .returned (.bool b) ∧ w' = w := (specKey_any s w).mono fun _ _ ⟨a, c⟩ => ⟨by rw [a, h], c.symm⟩

set_option maxRecDepth 100000 in
set_option maxHeartbeats 8000000 in
theorem specDirOk_any (w : World) (a : Option Addr) (n cap : Nat) (xs : List EntV) (hr : entSh.Row w a n xs) (hn : n ≤ 1048576) :
    Calls Try.prog 8 #[.slice a n cap] w fun e w' => e = .returned (.bool (dirOk xs)) ∧ Below w.heap.size w w' := by
  have hlen := hr.len
  have HR := hide hr
  clear hr
  by_cases h20 : n ≤ 20
  · have t20 : decide ((20 : Int) < (n : Int)) = false := by simp; omega
    go_enter Try.func8, Try.ntmps8
    go_wp2
    go_loopw [3] (fun i wr => ∃ (k : Nat), k ≤ n ∧ i = .int .i64 k ∧ Hid (∀ j, j < k → okAt xs j = true) ∧ Hid (Below w.heap.size w wr)) (fun i _ => n - (intOf i).toNat)
    case atStart => exact ⟨0, by omega, rfl, hide (fun j hj => absurd hj (by omega)), hide (Below.refl _ _)⟩
    case round =>
      clear t20
      obtain ⟨k, hk, rfl, HO, HB⟩ := hrel
      by_cases hlt : k < n
      · have hkf : k < xs.length := by omega
        obtain ⟨b, off, rfl, hbw, e0, e1, e2, e3, e4⟩ := ent_cells (HR.out.later HB.out) k hkf
        have hk2 : (k : Int) < (n : Int) := by omega
        have HOK : Hid (okAt xs k = (entOk (xs[k]) && (decide (k = 0) || klt (xs.getD (k - 1) zeroE).key (xs[k]).key))) := hide (by unfold okAt; rw [getD_at hkf])
        obtain ⟨z, hz⟩ : ∃ z, xs[k] = z := ⟨_, rfl⟩
        rw [hz] at e0 e1 e2 e3 e4 HOK
        have HBAD : Hid (okAt xs k = false → dirOk xs = false) := hide (fun h => dirOk_no hkf h)
        have hbx := Blk5.new wr z
        obtain ⟨W2, hW2⟩ : ∃ W2, W2 = wr.alloc (.cells #[.string z.key, .int .i64 z.seg, .int .i64 z.pos, .int .i64 z.len, .int .i64 z.bat] 26) := ⟨_, rfl⟩
        have HB2 : Hid (Below w.heap.size w W2) := hide (by rw [hW2]; exact HB.out.alloc HB.out.size _)
        have HB3 : Hid (∀ q, Below w.heap.size w (W2.drewN q)) := hide (fun _ => ⟨HB2.out.os, HB2.out.tape, HB2.out.output, HB2.out.size, HB2.out.block⟩)
        go_wp2_with fail
        rw [← hW2]
        rw [← hW2] at hbx
        have HWZ : Hid (W2.heap.size = wr.heap.size + 1) := hide (by rw [hW2]; simp)
        clear hW2 e0 e1 e2 e3 e4
        obtain ⟨y0, y1, y2, y3, y4, -⟩ := cells5 hbx
        clear hbx
        cases q1 : keyB z.key with
        | false =>
          have HKY : Hid (∀ W, _) := hide (fun W => skey_is q1 W)
          have HV := hide (HBAD.out (by rw [HOK.out]; unfold entOk; rw [q1]; simp))
          clear HOK HBAD HO
          refine wp_region_quiet_lit (by kernel_rfl) (by kernel_rfl) ?_
          repeat (
            with_reducible refine wpQuiet_step (fun K hK => ?_)
            go_simp
            first
              | (with_reducible refine hK _ ?_; clear hK K)
              | (rw [if_neg (by simp [undef])]; with_reducible refine hK _ ?_; clear hK K)
              | (apply Exists.intro; refine ⟨fun _ => ?_, hK _ ?_⟩; (first | (go_at_call 26; with_reducible exact Calls.quiet_of_same (HKY.out _))); clear hK K))
          with_reducible refine wpQuiet_nil ?_
          intro _ hw'
          obtain ⟨nq, hw''⟩ := hw'
          subst hw''
          go_wp2
          go_ret
          exact ⟨by rw [HV.out]; rfl, HB3.out _⟩
        | true =>
          have HKY : Hid (∀ W, _) := hide (fun W => skey_is q1 W)
          cases q2 : decide ((1 : Int) ≤ z.seg ∧ z.seg ≤ 100000) with
          | false =>
            have HI1 : Hid (∀ W, _) := hide (fun W => in_no q2 W)
            have HV := hide (HBAD.out (by rw [HOK.out]; unfold entOk; rw [q1, q2]; simp))
            clear HOK HBAD HO
            refine wp_region_quiet_lit (by kernel_rfl) (by kernel_rfl) ?_
            repeat (
              with_reducible refine wpQuiet_step (fun K hK => ?_)
              go_simp
              first
                | (with_reducible refine hK _ ?_; clear hK K)
                | (rw [if_neg (by simp [undef])]; with_reducible refine hK _ ?_; clear hK K)
                | (apply Exists.intro; refine ⟨fun _ => ?_, hK _ ?_⟩; (first | (go_at_call 26; with_reducible exact Calls.quiet_of_same (HKY.out _)) | (go_at_call 27; with_reducible exact Calls.quiet_of_same (HI1.out _))); clear hK K))
            with_reducible refine wpQuiet_nil ?_
            intro _ hw'
            obtain ⟨nq, hw''⟩ := hw'
            subst hw''
            go_wp2
            go_ret
            exact ⟨by rw [HV.out]; rfl, HB3.out _⟩
          | true =>
            have HI1 : Hid (∀ W, _) := hide (fun W => in_yes q2 W)
            cases q3 : decide ((0 : Int) ≤ z.pos) with
            | false =>
              have t3 : decide (z.pos < 0) = true := by have := of_decide_eq_false q3; simp; omega
              have HV := hide (HBAD.out (by rw [HOK.out]; unfold entOk; rw [q1, q2, q3]; simp))
              clear HOK HBAD HO
              refine wp_region_quiet_lit (by kernel_rfl) (by kernel_rfl) ?_
              repeat (
                with_reducible refine wpQuiet_step (fun K hK => ?_)
                go_simp
                first
                  | (with_reducible refine hK _ ?_; clear hK K)
                  | (rw [if_neg (by simp [undef])]; with_reducible refine hK _ ?_; clear hK K)
                  | (apply Exists.intro; refine ⟨fun _ => ?_, hK _ ?_⟩; (first | (go_at_call 26; with_reducible exact Calls.quiet_of_same (HKY.out _)) | (go_at_call 27; with_reducible exact Calls.quiet_of_same (HI1.out _))); clear hK K))
              with_reducible refine wpQuiet_nil ?_
              intro _ hw'
              obtain ⟨nq, hw''⟩ := hw'
              subst hw''
              go_wp2
              go_ret
              exact ⟨by rw [HV.out]; rfl, HB3.out _⟩
            | true =>
              have t3 : decide (z.pos < 0) = false := by have := of_decide_eq_true q3; simp; omega
              cases q4 : decide ((1 : Int) ≤ z.len ∧ z.len ≤ 210) with
              | false =>
                have HI2 : Hid (∀ W, _) := hide (fun W => in_no q4 W)
                have HV := hide (HBAD.out (by rw [HOK.out]; unfold entOk; rw [q1, q2, q3, q4]; simp))
                clear HOK HBAD HO
                refine wp_region_quiet_lit (by kernel_rfl) (by kernel_rfl) ?_
                repeat (
                  with_reducible refine wpQuiet_step (fun K hK => ?_)
                  go_simp
                  first
                    | (with_reducible refine hK _ ?_; clear hK K)
                    | (rw [if_neg (by simp [undef])]; with_reducible refine hK _ ?_; clear hK K)
                    | (apply Exists.intro; refine ⟨fun _ => ?_, hK _ ?_⟩; (first | (go_at_call 26; with_reducible exact Calls.quiet_of_same (HKY.out _)) | (go_at_call 27; with_reducible exact Calls.quiet_of_same (HI1.out _)) | (go_at_call 27; with_reducible exact Calls.quiet_of_same (HI2.out _))); clear hK K))
                with_reducible refine wpQuiet_nil ?_
                intro _ hw'
                obtain ⟨nq, hw''⟩ := hw'
                subst hw''
                go_wp2
                go_ret
                exact ⟨by rw [HV.out]; rfl, HB3.out _⟩
              | true =>
                have HI2 : Hid (∀ W, _) := hide (fun W => in_yes q4 W)
                cases q5 : decide ((1 : Int) ≤ z.bat ∧ z.bat ≤ 1000000) with
                | false =>
                  have HI3 : Hid (∀ W, _) := hide (fun W => in_no q5 W)
                  have HV := hide (HBAD.out (by rw [HOK.out]; unfold entOk; rw [q1, q2, q3, q4, q5]; simp))
                  clear HOK HBAD HO
                  refine wp_region_quiet_lit (by kernel_rfl) (by kernel_rfl) ?_
                  repeat (
                    with_reducible refine wpQuiet_step (fun K hK => ?_)
                    go_simp
                    first
                      | (with_reducible refine hK _ ?_; clear hK K)
                      | (rw [if_neg (by simp [undef])]; with_reducible refine hK _ ?_; clear hK K)
                      | (apply Exists.intro; refine ⟨fun _ => ?_, hK _ ?_⟩; (first | (go_at_call 26; with_reducible exact Calls.quiet_of_same (HKY.out _)) | (go_at_call 27; with_reducible exact Calls.quiet_of_same (HI1.out _)) | (go_at_call 27; with_reducible exact Calls.quiet_of_same (HI2.out _)) | (go_at_call 27; with_reducible exact Calls.quiet_of_same (HI3.out _))); clear hK K))
                  with_reducible refine wpQuiet_nil ?_
                  intro _ hw'
                  obtain ⟨nq, hw''⟩ := hw'
                  subst hw''
                  go_wp2
                  go_ret
                  exact ⟨by rw [HV.out]; rfl, HB3.out _⟩
                | true =>
                  have HI3 : Hid (∀ W, _) := hide (fun W => in_yes q5 W)
                  have HEN : Hid (entOk z = true) := hide (by unfold entOk; rw [q1, q2, q3, q4, q5]; rfl)
                  rw [HEN.out] at HOK
                  clear q1 q2 q3 q4 q5
                  by_cases k0 : k = 0
                  · subst k0
                    have HA2 : Hid (∀ j, j < 0 + 1 → okAt xs j = true) := hide (fun j hj => by obtain rfl : j = 0 := (by omega); rw [HOK.out]; rfl)
                    have kz : decide ((0 : Int) < ((0 : Nat) : Int)) = false := by simp
                    clear HOK HBAD HO
                    refine wp_region_quiet_lit (by kernel_rfl) (by kernel_rfl) ?_
                    repeat (
                      with_reducible refine wpQuiet_step (fun K hK => ?_)
                      go_simp
                      first
                        | (with_reducible refine hK _ ?_; clear hK K)
                        | (rw [if_neg (by simp [undef])]; with_reducible refine hK _ ?_; clear hK K)
                        | (apply Exists.intro; refine ⟨fun _ => ?_, hK _ ?_⟩; (first | (go_at_call 26; with_reducible exact Calls.quiet_of_same (HKY.out _)) | (go_at_call 27; with_reducible exact Calls.quiet_of_same (HI1.out _)) | (go_at_call 27; with_reducible exact Calls.quiet_of_same (HI2.out _)) | (go_at_call 27; with_reducible exact Calls.quiet_of_same (HI3.out _))); clear hK K))
                    with_reducible refine wpQuiet_nil ?_
                    intro _ hw'
                    obtain ⟨nq, hw''⟩ := hw'
                    subst hw''
                    go_wp2
                    go_roundw
                    case rel => exact ⟨1, by omega, by go_num, HA2, hide (HB3.out _)⟩
                    case measure => first | (simp [intOf]; done) | (simp [intOf]; omega)
                  · obtain ⟨j, rfl⟩ : ∃ j, k = j + 1 := ⟨k - 1, by omega⟩
                    have hjf : j < xs.length := by omega
                    obtain ⟨b', o', q0, -, p1, -, -, -, -⟩ := ent_cells (HR.out.later HB2.out) j hjf
                    simp only [Option.some.injEq, Addr.mk.injEq] at q0
                    obtain ⟨rfl, rfl, -⟩ := q0
                    have HOK2 : Hid (okAt xs (j + 1) = klt (xs[j]).key z.key) := hide (by rw [HOK.out, show j + 1 - 1 = j from rfl, getD_at hjf]; simp)
                    obtain ⟨y, hy⟩ : ∃ y, xs[j] = y := ⟨_, rfl⟩
                    rw [hy] at p1 HOK2
                    have hj3 : j < n := by omega
                    have x1 : (0 : Int) ≤ (j : Int) + 1 := by omega
                    have x2 : (j : Int) + 1 < (n : Int) := by omega
                    have x3 : ((j : Int) + 1).toNat = j + 1 := by omega
                    have x4 : (0 : Int) < (j : Int) + 1 := by omega
                    have x5 : (j : Int) < (n : Int) := by omega
                    have x6 : IntKind.i64.wrap (j : Int) = (j : Int) := by rw [IntKind.wrap_i64]; omega
                    have x8 : IntKind.i64.wrap ((j : Int) + 1 - 1) = (j : Int) := by rw [IntKind.wrap_i64]; omega
                    clear hy HOK hk2 k0
                    cases q6 : klt y.key z.key with
                    | false =>
                      have HV := hide (HBAD.out (by rw [HOK2.out, q6]))
                      have t6 : (Op.bytesLess z.key.toList y.key.toList || z.key.toList == y.key.toList) = true := by
                        by_cases hq : z.key = y.key
                        · rw [str_eq _ _ hq]; simp
                        · rw [show Op.bytesLess z.key.toList y.key.toList = true from klt_other q6 hq]; rfl
                      clear HOK2 HBAD HO q6
                      refine wp_region_quiet_lit (by kernel_rfl) (by kernel_rfl) ?_
                      repeat (
                        with_reducible refine wpQuiet_step (fun K hK => ?_)
                        go_simp
                        first
                          | (with_reducible refine hK _ ?_; clear hK K)
                          | (rw [if_neg (by simp [undef])]; with_reducible refine hK _ ?_; clear hK K)
                          | (apply Exists.intro; refine ⟨fun _ => ?_, hK _ ?_⟩; (first | (go_at_call 26; with_reducible exact Calls.quiet_of_same (HKY.out _)) | (go_at_call 27; with_reducible exact Calls.quiet_of_same (HI1.out _)) | (go_at_call 27; with_reducible exact Calls.quiet_of_same (HI2.out _)) | (go_at_call 27; with_reducible exact Calls.quiet_of_same (HI3.out _))); clear hK K))
                      with_reducible refine wpQuiet_nil ?_
                      intro _ hw'
                      obtain ⟨nq, hw''⟩ := hw'
                      subst hw''
                      go_wp2
                      go_ret
                      exact ⟨by rw [HV.out]; rfl, HB3.out _⟩
                    | true =>
                      have HA2 : Hid (∀ i, i < j + 1 + 1 → okAt xs i = true) := hide (fun i hi => by
                        by_cases h : i = j + 1
                        · rw [h, HOK2.out, q6]
                        · exact HO.out i (by omega))
                      have t6 : (Op.bytesLess z.key.toList y.key.toList || z.key.toList == y.key.toList) = false := by
                        rw [show Op.bytesLess z.key.toList y.key.toList = false from klt_asymm q6, str_ne _ _ (fun e => klt_ne q6 e.symm)]; rfl
                      clear HOK2 HBAD HO q6
                      refine wp_region_quiet_lit (by kernel_rfl) (by kernel_rfl) ?_
                      repeat (
                        with_reducible refine wpQuiet_step (fun K hK => ?_)
                        go_simp
                        first
                          | (with_reducible refine hK _ ?_; clear hK K)
                          | (rw [if_neg (by simp [undef])]; with_reducible refine hK _ ?_; clear hK K)
                          | (apply Exists.intro; refine ⟨fun _ => ?_, hK _ ?_⟩; (first | (go_at_call 26; with_reducible exact Calls.quiet_of_same (HKY.out _)) | (go_at_call 27; with_reducible exact Calls.quiet_of_same (HI1.out _)) | (go_at_call 27; with_reducible exact Calls.quiet_of_same (HI2.out _)) | (go_at_call 27; with_reducible exact Calls.quiet_of_same (HI3.out _))); clear hK K))
                      with_reducible refine wpQuiet_nil ?_
                      intro _ hw'
                      obtain ⟨nq, hw''⟩ := hw'
                      subst hw''
                      go_wp2
                      go_roundw
                      case rel => exact ⟨j + 1 + 1, by omega, by go_num, HA2, hide (HB3.out _)⟩
                      case measure => first | (simp [intOf]; done) | (simp [intOf]; omega)
      · obtain rfl : k = n := by omega
        have HV : Hid (dirOk xs = true) := hide (dirOk_yes (by omega) (by rw [hlen]; exact HO.out))
        clear HO
        go_wp2
        go_ret
        exact ⟨by rw [HV.out]; rfl, HB.out⟩
  · have t20 : decide ((20 : Int) < (n : Int)) = true := by simp; omega
    have HV : Hid (dirOk xs = false) := hide (by unfold dirOk; rw [decide_eq_false (by omega)]; rfl)
    go_enter Try.func8, Try.ntmps8
    go_wp2
    go_ret
    exact ⟨by rw [HV.out]; rfl, Below.refl _ _⟩

end Go.Proofs.Ytnckdfidehbcaaa
