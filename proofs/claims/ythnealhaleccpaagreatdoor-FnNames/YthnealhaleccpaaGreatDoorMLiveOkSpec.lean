/-
  spec.LiveOk: is a list of segments right?
-/
import Derived.Test.YthnealhaleccpaaGreatDoorG08
import Derived.BigQuiet
import Derived.Deep.QuietTactic
namespace Go.Proofs.YthnealhaleccpaaGreatDoor
open Go.RowKit
open Plain

theorem okFrom_at (next : Int) (l : List Int) : ∀ prev, okFrom next prev l = true ↔ ∀ i, i < l.length → ((prev :: l).getD i 0 < l.getD i 0 ∧ l.getD i 0 ≤ next - 1) := by
  induction l with
  | nil => intro prev; simp [okFrom]
  | cons x r ih =>
    intro prev
    rw [okFrom, Bool.and_eq_true, decide_eq_true_iff, ih x]
    constructor
    · rintro ⟨h1, h2⟩ i hi
      cases i with
      | zero => exact h1
      | succ i => exact h2 i (by simpa using hi)
    · intro h
      exact ⟨h 0 (by simp), fun i hi => h (i + 1) (by simpa using hi)⟩
/-- What spec asks of the number at place i. -/
def atB (next : Int) (zs : List Int) (i : Nat) : Bool := decide (1 ≤ zs.getD i 0 ∧ zs.getD i 0 ≤ next - 1) && (decide (i = 0) || !decide (zs.getD i 0 ≤ zs.getD (i - 1) 0))
def headB (x : Int) (n : Nat) : Bool := decide (1 ≤ x ∧ x ≤ 100000) && decide (1 ≤ (n : Int) ∧ (n : Int) ≤ 60)
theorem live_iff (x : Int) (zs : List Int) : liveB ⟨x, zs⟩ = true ↔ headB x zs.length = true ∧ ∀ i, i < zs.length → atB x zs i = true := by
  unfold liveB headB
  simp only
  rw [Bool.and_eq_true, decide_eq_true_iff, okFrom_at, Bool.and_eq_true, decide_eq_true_iff, decide_eq_true_iff]
  have key : (∀ i, i < zs.length → ((0 :: zs).getD i 0 < zs.getD i 0 ∧ zs.getD i 0 ≤ x - 1)) ↔ ∀ i, i < zs.length → atB x zs i = true := by
    constructor
    · intro h i hi
      unfold atB
      rw [Bool.and_eq_true, Bool.or_eq_true, decide_eq_true_iff, decide_eq_true_iff]
      have hpos : ∀ j, j < zs.length → 1 ≤ zs.getD j 0 := by
        intro j
        induction j with
        | zero => intro hj; have := (h 0 hj).1; simp only [List.getD_cons_zero] at this; omega
        | succ j ih => intro hj; have h1 := (h (j + 1) hj).1; have h2 := ih (by omega); simp only [List.getD_cons_succ] at h1; omega
      refine ⟨⟨hpos i hi, (h i hi).2⟩, ?_⟩
      cases i with
      | zero => exact Or.inl rfl
      | succ i => have h1 := (h (i + 1) hi).1; simp only [List.getD_cons_succ] at h1; exact Or.inr (by rw [Bool.not_eq_true', decide_eq_false_iff_not, Nat.add_sub_cancel]; omega)
    · intro h i hi
      have h1 := h i hi
      unfold atB at h1
      rw [Bool.and_eq_true, Bool.or_eq_true, decide_eq_true_iff, decide_eq_true_iff] at h1
      refine ⟨?_, h1.1.2⟩
      cases i with
      | zero => simp only [List.getD_cons_zero]; omega
      | succ i =>
        rcases h1.2 with h2 | h2
        · omega
        · simp only [Nat.add_sub_cancel, Bool.not_eq_true', decide_eq_false_iff_not] at h2
          simp only [List.getD_cons_succ]
          omega
  rw [key]
  constructor
  · rintro ⟨h1, h2⟩; exact ⟨by omega, h2⟩
  · rintro ⟨h1, h2⟩; exact ⟨by omega, h2⟩
theorem live_no {x : Int} {zs : List Int} (h : headB x zs.length = false) : liveB ⟨x, zs⟩ = false := by
  rw [Bool.eq_false_iff]
  intro e
  rw [((live_iff x zs).1 e).1] at h
  cases h
theorem live_bad {x : Int} {zs : List Int} (i : Nat) (hi : i < zs.length) (h : atB x zs i = false) : liveB ⟨x, zs⟩ = false := by
  rw [Bool.eq_false_iff]
  intro e
  rw [((live_iff x zs).1 e).2 i hi] at h
  cases h

set_option maxRecDepth 100000 in
set_option maxHeartbeats 4000000 in
theorem specLive_any (w : World) (x : Int) (a : Option Addr) (n cap : Nat) (zs : List Int) (hr : IRow w 0 a n zs) (hn : n ≤ 1048576) :
    Calls Tryz.prog 8 #[.agg #[.int .i64 x, .slice a n cap]] w fun e w' => e = .returned (.bool (liveB ⟨x, zs⟩)) ∧ Below w.heap.size w w' := by
  have hlen := hr.len
  obtain ⟨W, hW⟩ : ∃ W, W = w.alloc (.cells #[.int .i64 x, .slice a n cap] 26) := ⟨_, rfl⟩
  have HA : Hid (LvAt w w.heap.size 26 x a n cap zs W) := hide (by rw [hW]; exact LvAt.new 26 x cap hr)
  obtain ⟨y0, y1⟩ := HA.out.cells
  clear hr
  have HI : Hid (∀ X lo hi b V, decide (lo ≤ X ∧ X ≤ hi) = b → Calls Tryz.prog 29 #[.int .i64 X, .int .i64 lo, .int .i64 hi] V fun e w' => e = .returned (.bool b) ∧ V = w') := hide (fun X lo hi b V h => by have h2 := in_any X lo hi V; rw [h] at h2; exact h2)
  by_cases q1 : 1 ≤ x ∧ x ≤ 100000
  · have T1 : Hid (decide (1 ≤ x ∧ x ≤ 100000) = true) := hide (by simpa using q1)
    by_cases q2 : 1 ≤ (n : Int) ∧ (n : Int) ≤ 60
    · have T2 : Hid (decide (1 ≤ (n : Int) ∧ (n : Int) ≤ 60) = true) := hide (by simpa using q2)
      have HH : Hid (headB x zs.length = true) := hide (by unfold headB; rw [hlen, T1.out, T2.out]; rfl)
      go_enter Tryz.func8, Tryz.ntmps8
      go_wp2_with fail
      rw [← hW]
      clear hW
      refine (HI.out x 1 100000 true W T1.out).mono ?_
      rintro e w1 ⟨rfl, rfl⟩
      go_wp2_with fail
      refine (HI.out (n : Int) 1 60 true W T2.out).mono ?_
      rintro e w1 ⟨rfl, rfl⟩
      go_wp2
      go_loopw [3] (fun i wr => ∃ k : Nat, k ≤ n ∧ i = .int .i64 k ∧ Hid (∀ j, j < k → atB x zs j = true) ∧ Hid (LvAt w w.heap.size 26 x a n cap zs wr)) (fun i _ => n - (intOf i).toNat)
      case atStart => exact ⟨0, by omega, rfl, hide (fun j hj => absurd hj (by omega)), HA⟩
      case round =>
        clear HA y0 y1
        obtain ⟨k, hk, rfl, HO, HA⟩ := hrel
        obtain ⟨y0, y1⟩ := HA.out.cells
        by_cases hlt : k < n
        · have hkf : k < zs.length := by omega
          obtain ⟨b, off, rfl, -, hbw, e1⟩ := HA.out.ids.cells k hkf
          have hgd : zs.getD k 0 = zs[k] := by simp [List.getD, hkf]
          have hk2 : (k : Int) < (n : Int) := by omega
          have HBAD : Hid (atB x zs k = false → liveB ⟨x, zs⟩ = false) := hide (live_bad k hkf)
          have HGOOD : Hid (atB x zs k = true → ∀ j, j < k + 1 → atB x zs j = true) := hide (fun h j hj => by
            by_cases e : j = k
            · subst e; exact h
            · exact HO.out j (by omega))
          have HBq : Hid (∀ m, LvAt w w.heap.size 26 x (some ⟨b, off, none⟩) n cap zs (wr.drewN m)) := hide (fun m => HA.out.later ⟨rfl, rfl, rfl, Nat.le_refl _, fun _ _ => rfl⟩)
          have hx1 : IntKind.i64.wrap (x - 1) = x - 1 := by rw [IntKind.wrap_i64]; omega
          have HX : Hid (1 ≤ x ∧ x ≤ 100000) := hide q1
          clear HO q1 q2 T1 T2
          obtain ⟨z, hz⟩ : ∃ z, zs[k] = z := ⟨_, rfl⟩
          rw [hz] at e1 hgd
          by_cases n1 : 1 ≤ z ∧ z ≤ x - 1
          · have N1 : Hid (decide (1 ≤ z ∧ z ≤ x - 1) = true) := hide (by simpa using n1)
            have HIN : Hid (∀ V, Calls Tryz.prog 29 #[.int .i64 z, .int .i64 1, .int .i64 (x - 1)] V fun e w' => e = .returned (.bool true) ∧ w' = V) := hide (fun V => (HI.out z 1 (x - 1) true V N1.out).mono (fun _ _ ⟨p, q⟩ => ⟨p, q.symm⟩))
            by_cases k0 : k = 0
            · have kz : decide ((0 : Int) < (k : Int)) = false := by simp; omega
              have kzN : decide (0 < k) = false := by simp; omega
              have HA2 := hide (HGOOD.out (by unfold atB; rw [hgd, N1.out]; simp [k0]))
              clear HBAD HGOOD hgd k0 n1 hz HI
              go_wp2
              go_quiet ((go_at_call 29; exact Calls.quiet_of_same (HIN.out _)))
              go_wp2
              go_roundw
              case rel => exact ⟨k + 1, by omega, by go_num, HA2, hide (HBq.out _)⟩
              case measure => first | (simp [intOf]; done) | (simp [intOf]; omega)
            · have kz : decide ((0 : Int) < (k : Int)) = true := by simp; omega
              have kzN : decide (0 < k) = true := by simp; omega
              obtain ⟨j, rfl⟩ : ∃ j, k = j + 1 := ⟨k - 1, by omega⟩
              have hjf : j < zs.length := by omega
              obtain ⟨b', o', q0, -, -, p1⟩ := HA.out.ids.cells j hjf
              simp only [Option.some.injEq, Addr.mk.injEq] at q0
              obtain ⟨rfl, rfl, -⟩ := q0
              have hgp : zs.getD (j + 1 - 1) 0 = zs[j] := by simp [List.getD, hjf]
              obtain ⟨y, hy⟩ : ∃ y, zs[j] = y := ⟨_, rfl⟩
              rw [hy] at p1 hgp
              have HOK : Hid (atB x zs (j + 1) = !decide (z ≤ y)) := hide (by unfold atB; rw [hgd, hgp, N1.out]; simp)
              have x1 : (0 : Int) ≤ (j : Int) + 1 := by omega
              have x2 : (j : Int) + 1 < (n : Int) := by omega
              have x3 : ((j : Int) + 1).toNat = j + 1 := by omega
              have x4 : (0 : Int) < (j : Int) + 1 := by omega
              have x5 : (j : Int) < (n : Int) := by omega
              have x6 : IntKind.i64.wrap (j : Int) = (j : Int) := by rw [IntKind.wrap_i64]; omega
              have x8 : IntKind.i64.wrap ((j : Int) + 1 - 1) = (j : Int) := by rw [IntKind.wrap_i64]; omega
              clear kz kzN hk2 hgp hgd n1 hz hy HI
              by_cases n3 : z ≤ y
              · have HV := hide (HBAD.out (by rw [HOK.out]; simpa using n3))
                clear HBAD HGOOD HOK k0
                go_wp2
                go_quiet ((go_at_call 29; exact Calls.quiet_of_same (HIN.out _)))
                go_wp2
                go_ret
                exact ⟨by rw [HV.out]; rfl, (HBq.out _).bel⟩
              · have n3f : decide (z ≤ y) = false := by simpa using n3
                have HA2 := hide (HGOOD.out (by rw [HOK.out, n3f]; rfl))
                clear HBAD HGOOD HOK k0
                go_wp2
                go_quiet ((go_at_call 29; exact Calls.quiet_of_same (HIN.out _)))
                go_wp2
                go_roundw
                case rel => exact ⟨j + 1 + 1, by omega, by go_num, HA2, hide (HBq.out _)⟩
                case measure => first | (simp [intOf]; done) | (simp [intOf]; omega)
          · have N1 : Hid (decide (1 ≤ z ∧ z ≤ x - 1) = false) := hide (by simpa using n1)
            have HIN : Hid (∀ V, Calls Tryz.prog 29 #[.int .i64 z, .int .i64 1, .int .i64 (x - 1)] V fun e w' => e = .returned (.bool false) ∧ w' = V) := hide (fun V => (HI.out z 1 (x - 1) false V N1.out).mono (fun _ _ ⟨p, q⟩ => ⟨p, q.symm⟩))
            have HV := hide (HBAD.out (by unfold atB; rw [hgd, N1.out]; rfl))
            clear HBAD HGOOD hgd n1 hz HI
            go_wp2
            go_quiet ((go_at_call 29; exact Calls.quiet_of_same (HIN.out _)))
            go_wp2
            go_ret
            exact ⟨by rw [HV.out]; rfl, (HBq.out _).bel⟩
        · obtain rfl : k = n := by omega
          have HV : Hid (liveB ⟨x, zs⟩ = true) := hide ((live_iff x zs).2 ⟨HH.out, fun i hi => HO.out i (by omega)⟩)
          have HB := hide HA.out.bel
          clear HO q1 q2
          go_wp2
          go_ret
          exact ⟨by rw [HV.out]; rfl, HB.out⟩
    · have T2 : Hid (decide (1 ≤ (n : Int) ∧ (n : Int) ≤ 60) = false) := hide (by simpa using q2)
      have HV : Hid (liveB ⟨x, zs⟩ = false) := hide (live_no (by unfold headB; rw [hlen, T1.out, T2.out]; rfl))
      have HB := hide HA.out.bel
      clear q1 q2
      go_enter Tryz.func8, Tryz.ntmps8
      go_wp2_with fail
      rw [← hW]
      clear hW
      refine (HI.out x 1 100000 true W T1.out).mono ?_
      rintro e w1 ⟨rfl, rfl⟩
      go_wp2_with fail
      refine (HI.out (n : Int) 1 60 false W T2.out).mono ?_
      rintro e w1 ⟨rfl, rfl⟩
      go_wp2
      go_ret
      exact ⟨by rw [HV.out]; rfl, HB.out⟩
  · have T1 : Hid (decide (1 ≤ x ∧ x ≤ 100000) = false) := hide (by simpa using q1)
    have HV : Hid (liveB ⟨x, zs⟩ = false) := hide (live_no (by unfold headB; rw [T1.out]; rfl))
    have HB := hide HA.out.bel
    clear q1
    go_enter Tryz.func8, Tryz.ntmps8
    go_wp2_with fail
    rw [← hW]
    clear hW
    refine (HI.out x 1 100000 false W T1.out).mono ?_
    rintro e w1 ⟨rfl, rfl⟩
    go_wp2
    go_ret
    exact ⟨by rw [HV.out]; rfl, HB.out⟩

end Go.Proofs.YthnealhaleccpaaGreatDoor
