/-
  impl.entryOk and impl.DirOk.
-/
import Derived.Test.YtimpokbcfjgdaaaDoorMDirOkS
import Derived.Test.YtimpokbcfjgdaaaDoorMIdOkI
import Derived.Deep.RegionHeld3
namespace Go.Proofs.YtimpokbcfjgdaaaDoor
open Go.RowKit
open Plain

theorem ikey_is {s : ByteArray} {b : Bool} (h : keyB s = b) (w : World) : Calls Tryd.prog 54 #[.string s] w fun e w' => e = .returned (.bool b) ∧ w' = w := (implKey_any s w).mono fun _ _ ⟨a, c⟩ => ⟨by rw [a, h], c.symm⟩
theorem iid_is {n : Int} {b : Bool} (h : decide (1 ≤ n ∧ n ≤ 100000) = b) (w : World) : Calls Tryd.prog 55 #[.int .i64 n] w fun e w' => e = .returned (.bool b) ∧ w' = w := (idOk_any n w).mono fun _ _ ⟨a, c⟩ => ⟨by rw [a, h], c.symm⟩

set_option maxRecDepth 100000 in
set_option maxHeartbeats 4000000 in
theorem entryOk_any (z : EntV) : Ans 53 #[.agg #[.string z.key, .int .i64 z.seg, .int .i64 z.pos, .int .i64 z.len, .int .i64 z.bat]] (.bool (entOk z)) := by
  intro w
  have HKY : Hid (∀ W, _) := hide (fun W => ikey_is (rfl : keyB z.key = keyB z.key) W)
  have HID : Hid (∀ W, _) := hide (fun W => iid_is (rfl : decide (1 ≤ z.seg ∧ z.seg ≤ 100000) = decide (1 ≤ z.seg ∧ z.seg ≤ 100000)) W)
  cases q1 : keyB z.key with
  | false =>
    rw [q1] at HKY
    have HV : Hid (entOk z = false) := hide (by unfold entOk; rw [q1]; simp)
    go_enter Tryd.func53, Tryd.ntmps53
    go_wp2_with (first
      | (go_at_call 54; refine (HKY.out _).mono ?_; rintro e w4 ⟨rfl, rfl⟩)
      | (go_at_call 55; refine (HID.out _).mono ?_; rintro e w4 ⟨rfl, rfl⟩))
    go_ret
    exact ⟨by rw [HV.out]; rfl, al1 _ _⟩
  | true =>
    rw [q1] at HKY
    cases q2 : decide ((1 : Int) ≤ z.seg ∧ z.seg ≤ 100000) with
    | false =>
      rw [q2] at HID
      have HV : Hid (entOk z = false) := hide (by unfold entOk; rw [q1, q2]; simp)
      go_enter Tryd.func53, Tryd.ntmps53
      go_wp2_with (first
        | (go_at_call 54; refine (HKY.out _).mono ?_; rintro e w4 ⟨rfl, rfl⟩)
        | (go_at_call 55; refine (HID.out _).mono ?_; rintro e w4 ⟨rfl, rfl⟩))
      go_ret
      exact ⟨by rw [HV.out]; rfl, al1 _ _⟩
    | true =>
      rw [q2] at HID
      cases q3 : decide ((0 : Int) ≤ z.pos) with
      | false =>
        have HV : Hid (entOk z = false) := hide (by unfold entOk; rw [q1, q2, q3]; simp)
        go_enter Tryd.func53, Tryd.ntmps53
        go_wp2_with (first
          | (go_at_call 54; refine (HKY.out _).mono ?_; rintro e w4 ⟨rfl, rfl⟩)
          | (go_at_call 55; refine (HID.out _).mono ?_; rintro e w4 ⟨rfl, rfl⟩))
        go_ret
        exact ⟨by rw [HV.out]; rfl, al1 _ _⟩
      | true =>
        by_cases q4 : 1 ≤ z.len
        · have t4 : decide (1 ≤ z.len) = true := by simpa using q4
          by_cases q5 : z.len ≤ 210
          · have t5 : decide (z.len ≤ 210) = true := by simpa using q5
            have d4 : decide (1 ≤ z.len ∧ z.len ≤ 210) = true := decide_eq_true ⟨q4, q5⟩
            clear q4 q5
            by_cases q6 : 1 ≤ z.bat
            · have t6 : decide (1 ≤ z.bat) = true := by simpa using q6
              by_cases q7 : z.bat ≤ 1000000
              · have t7 : decide (z.bat ≤ 1000000) = true := by simpa using q7
                have d6 : decide (1 ≤ z.bat ∧ z.bat ≤ 1000000) = true := decide_eq_true ⟨q6, q7⟩
                clear q6 q7
                have HV : Hid (entOk z = true) := hide (by unfold entOk; rw [q1, q2, q3, d4, d6]; rfl)
                go_enter Tryd.func53, Tryd.ntmps53
                go_wp2_with (first
                  | (go_at_call 54; refine (HKY.out _).mono ?_; rintro e w4 ⟨rfl, rfl⟩)
                  | (go_at_call 55; refine (HID.out _).mono ?_; rintro e w4 ⟨rfl, rfl⟩))
                go_ret
                exact ⟨by rw [HV.out]; rfl, al1 _ _⟩
              · have t7 : decide (z.bat ≤ 1000000) = false := by simpa using q7
                have d6 : decide (1 ≤ z.bat ∧ z.bat ≤ 1000000) = false := decide_eq_false (fun h => q7 h.2)
                clear q6 q7
                have HV : Hid (entOk z = false) := hide (by unfold entOk; rw [q1, q2, q3, d4, d6]; simp)
                go_enter Tryd.func53, Tryd.ntmps53
                go_wp2_with (first
                  | (go_at_call 54; refine (HKY.out _).mono ?_; rintro e w4 ⟨rfl, rfl⟩)
                  | (go_at_call 55; refine (HID.out _).mono ?_; rintro e w4 ⟨rfl, rfl⟩))
                go_ret
                exact ⟨by rw [HV.out]; rfl, al1 _ _⟩
            · have t6 : decide (1 ≤ z.bat) = false := by simpa using q6
              have d6 : decide (1 ≤ z.bat ∧ z.bat ≤ 1000000) = false := decide_eq_false (fun h => q6 h.1)
              clear q6
              have HV : Hid (entOk z = false) := hide (by unfold entOk; rw [q1, q2, q3, d4, d6]; simp)
              go_enter Tryd.func53, Tryd.ntmps53
              go_wp2_with (first
                | (go_at_call 54; refine (HKY.out _).mono ?_; rintro e w4 ⟨rfl, rfl⟩)
                | (go_at_call 55; refine (HID.out _).mono ?_; rintro e w4 ⟨rfl, rfl⟩))
              go_ret
              exact ⟨by rw [HV.out]; rfl, al1 _ _⟩
          · have t5 : decide (z.len ≤ 210) = false := by simpa using q5
            have d4 : decide (1 ≤ z.len ∧ z.len ≤ 210) = false := decide_eq_false (fun h => q5 h.2)
            clear q4 q5
            have HV : Hid (entOk z = false) := hide (by unfold entOk; rw [q1, q2, q3, d4]; simp)
            go_enter Tryd.func53, Tryd.ntmps53
            go_wp2_with (first
              | (go_at_call 54; refine (HKY.out _).mono ?_; rintro e w4 ⟨rfl, rfl⟩)
              | (go_at_call 55; refine (HID.out _).mono ?_; rintro e w4 ⟨rfl, rfl⟩))
            go_ret
            exact ⟨by rw [HV.out]; rfl, al1 _ _⟩
        · have t4 : decide (1 ≤ z.len) = false := by simpa using q4
          have d4 : decide (1 ≤ z.len ∧ z.len ≤ 210) = false := decide_eq_false (fun h => q4 h.1)
          clear q4
          have HV : Hid (entOk z = false) := hide (by unfold entOk; rw [q1, q2, q3, d4]; simp)
          go_enter Tryd.func53, Tryd.ntmps53
          go_wp2_with (first
            | (go_at_call 54; refine (HKY.out _).mono ?_; rintro e w4 ⟨rfl, rfl⟩)
            | (go_at_call 55; refine (HID.out _).mono ?_; rintro e w4 ⟨rfl, rfl⟩))
          go_ret
          exact ⟨by rw [HV.out]; rfl, al1 _ _⟩

/-- The block of an entry stands, and all that was there before the law's loop. -/
structure KeepW (w : World) (N B : Nat) (z : EntV) (W W' : World) : Prop where
  blk : Blk5 W' B z
  old : Below W.heap.size W W'
  bel : Below w.heap.size w W'
theorem KeepW.later {w : World} {N B : Nat} {z : EntV} {W0 W W' : World} (h : KeepW w N B z W0 W) (hb : Below W.heap.size W W') : KeepW w N B z W0 W' :=
  ⟨h.blk.later hb h.blk.lt, h.old.trans (hb.mono h.old.size), h.bel.trans (hb.mono h.bel.size)⟩

set_option maxRecDepth 100000 in
set_option maxHeartbeats 8000000 in
theorem implDirOk_any (w : World) (a : Option Addr) (n cap : Nat) (xs : List EntV) (hr : entSh.Row w a n xs) (hn : n ≤ 1048576) :
    Calls Tryd.prog 49 #[.slice a n cap] w fun e w' => e = .returned (.bool (dirOk xs)) ∧ Below w.heap.size w w' := by
  have hlen := hr.len
  have HR := hide hr
  clear hr
  by_cases h20 : n ≤ 20
  · have t20 : decide ((20 : Int) < (n : Int)) = false := by simp; omega
    go_enter Tryd.func49, Tryd.ntmps49
    go_wp2
    go_loopw [10] (fun i wr => ∃ (k : Nat), k ≤ n ∧ i = .int .i64 k ∧ Hid (∀ j, j < k → okAt xs j = true) ∧ Hid (Below w.heap.size w wr)) (fun i _ => n - (intOf i).toNat)
    case atStart => exact ⟨0, by omega, rfl, hide (fun j hj => absurd hj (by omega)), hide (Below.refl _ _)⟩
    case round =>
      clear t20
      obtain ⟨k, hk, rfl, HO, HB⟩ := hrel
      by_cases hlt : k < n
      · have hkf : k < xs.length := by omega
        obtain ⟨b, off, rfl, hbw, e0, e1, e2, e3, e4⟩ := ent_cells (HR.out.later HB.out) k hkf
        have hk2 : (k : Int) < (n : Int) := by omega
        have HOK : Hid (okAt xs k = (entOk (xs[k]) && (decide (k = 0) || klt (xs.getD (k - 1) zeroE).key (xs[k]).key))) := hide (by unfold okAt; rw [getD_at hkf])
        obtain ⟨z, hz⟩ : ∃ z, xs[k] = z := ⟨_, rfl⟩
        rw [hz] at e0 e1 e2 e3 e4 HOK
        clear hz
        have HBAD : Hid (okAt xs k = false → dirOk xs = false) := hide (fun h => dirOk_no hkf h)
        have hbx := Blk5.new wr z
        obtain ⟨W2, hW2⟩ : ∃ W2, W2 = wr.alloc (.cells #[.string z.key, .int .i64 z.seg, .int .i64 z.pos, .int .i64 z.len, .int .i64 z.bat] 41) := ⟨_, rfl⟩
        have HB2 : Hid (Below w.heap.size w W2) := hide (by rw [hW2]; exact HB.out.alloc HB.out.size _)
        go_wp2_with fail
        rw [← hW2]
        rw [← hW2] at hbx
        have HKW : Hid (KeepW w wr.heap.size wr.heap.size z W2 W2) := hide ⟨hbx, Below.refl _ _, HB2.out⟩
        have HWZ : Hid (W2.heap.size = wr.heap.size + 1) := hide (by rw [hW2]; simp)
        have hbw2 : b < W2.heap.size := by rw [hW2]; simp; omega
        clear hW2 hbx e0 e1 e2 e3 e4
        generalize hB2 : wr.heap.size = B2 at *
        clear hB2
        have HEO := hide (entryOk_any z)
        cases q1 : entOk z with
        | false =>
          rw [q1] at HEO
          have HV := hide (HBAD.out (by rw [HOK.out, q1]; rfl))
          have HSS : Hid (∀ W', KeepW w B2 B2 z W2 W' → (fun w' => w'.cell? ⟨B2, 0, none⟩ = some (.string z.key) ∧ w'.cell? ⟨B2, 1, none⟩ = some (.int .i64 z.seg) ∧ w'.cell? ⟨B2, 2, none⟩ = some (.int .i64 z.pos) ∧ w'.cell? ⟨B2, 3, none⟩ = some (.int .i64 z.len) ∧ w'.cell? ⟨B2, 4, none⟩ = some (.int .i64 z.bat) ∧ Hid (KeepW w B2 B2 z W2 w')) W') := hide (fun W' h => by
            obtain ⟨y0, y1, y2, y3, y4, -⟩ := cells5 h.blk
            exact ⟨y0, y1, y2, y3, y4, hide h⟩)
          clear HOK HBAD HO q1
          have HEK : Hid (∀ W, (fun w' => w'.cell? ⟨B2, 0, none⟩ = some (.string z.key) ∧ w'.cell? ⟨B2, 1, none⟩ = some (.int .i64 z.seg) ∧ w'.cell? ⟨B2, 2, none⟩ = some (.int .i64 z.pos) ∧ w'.cell? ⟨B2, 3, none⟩ = some (.int .i64 z.len) ∧ w'.cell? ⟨B2, 4, none⟩ = some (.int .i64 z.bat) ∧ Hid (KeepW w B2 B2 z W2 w')) W → Calls Tryd.prog 53 #[.agg #[.string z.key, .int .i64 z.seg, .int .i64 z.pos, .int .i64 z.len, .int .i64 z.bat]] W fun e w' => e = .returned (.bool false) ∧ (fun w' => w'.cell? ⟨B2, 0, none⟩ = some (.string z.key) ∧ w'.cell? ⟨B2, 1, none⟩ = some (.int .i64 z.seg) ∧ w'.cell? ⟨B2, 2, none⟩ = some (.int .i64 z.pos) ∧ w'.cell? ⟨B2, 3, none⟩ = some (.int .i64 z.len) ∧ w'.cell? ⟨B2, 4, none⟩ = some (.int .i64 z.bat) ∧ Hid (KeepW w B2 B2 z W2 w')) w') := hide (fun W hW => by
            obtain ⟨-, -, -, -, -, h1⟩ := hW
            exact (HEO.out W).mono (fun e w' ⟨h2, h3⟩ => ⟨h2, HSS.out w' (h1.out.later h3)⟩))
          go_wp2
          have hS0 := HSS.out W2.drew (HKW.out.later (Below.refl _ _).drew)
          refine wp_region_held_drew (S := (fun w' => w'.cell? ⟨B2, 0, none⟩ = some (.string z.key) ∧ w'.cell? ⟨B2, 1, none⟩ = some (.int .i64 z.seg) ∧ w'.cell? ⟨B2, 2, none⟩ = some (.int .i64 z.pos) ∧ w'.cell? ⟨B2, 3, none⟩ = some (.int .i64 z.len) ∧ w'.cell? ⟨B2, 4, none⟩ = some (.int .i64 z.bat) ∧ Hid (KeepW w B2 B2 z W2 w'))) (by kernel_rfl) (by exact hS0) (fun hHeld => ?_)
          clear hS0
          refine wpAnyH_take (i := 0) (v := ?_) rfl (by kernel_rfl) (by kernel_rfl) (by kernel_rfl) (fun _ _ _ h => h) (Or.inl ⟨by rfl, ?_⟩) (by assumption) ?_
          rotate_left
          · intro W hSw
            try dsimp only at hSw
            go_simp
            try with_reducible rfl
          try simp only [Act.put, List.setIfInBounds_toArray, List.set_cons_zero, List.set_cons_succ, List.getElem_toArray, List.getElem_cons_zero]
          refine wpAnyH_ready (rs := [1]) (by kernel_rfl) (by simp) ?_
          refine AllReadyH.cons rfl (fun K hK => ?_) AllReadyH.nil
          go_simp
          refine (HEK.out _ (by assumption)).mono ?_
          rintro e w3 ⟨rfl, hk3⟩
          go_wp2_with fail
          refine hK.out _ _ (by assumption) (fun hHeld => ?_)
          clear hK K
          try simp only [Act.put, List.setIfInBounds_toArray, List.set_cons_zero, List.set_cons_succ, List.getElem_toArray, List.getElem_cons_zero, List.getElem_cons_succ]
          refine wpAnyH_take (i := 2) (v := ?_) rfl (by kernel_rfl) (by kernel_rfl) (by kernel_rfl) (fun _ _ _ h => h) (Or.inl ⟨by rfl, ?_⟩) (by assumption) ?_
          rotate_left
          · intro W hSw
            try dsimp only at hSw
            go_simp
            try with_reducible rfl
          try simp only [Act.put, List.setIfInBounds_toArray, List.set_cons_zero, List.set_cons_succ, List.getElem_toArray, List.getElem_cons_zero, List.getElem_cons_succ]
          refine wpAnyH_take (i := 3) (v := ?_) rfl (by kernel_rfl) (by kernel_rfl) (by kernel_rfl) (fun _ _ _ h => h) (Or.inl ⟨by rfl, ?_⟩) (by assumption) ?_
          rotate_left
          · intro W hSw
            try dsimp only at hSw
            go_simp
            try with_reducible rfl
          try simp only [Act.put, List.setIfInBounds_toArray, List.set_cons_zero, List.set_cons_succ, List.getElem_toArray, List.getElem_cons_zero, List.getElem_cons_succ]
          refine wpAnyH_take (i := 4) (v := undef) rfl (by kernel_rfl) (by kernel_rfl) (by kernel_rfl) (fun _ _ _ h => h) (Or.inr ⟨by rfl, rfl⟩) (by assumption) ?_
          try simp only [Act.put, List.setIfInBounds_toArray, List.set_cons_zero, List.set_cons_succ, List.getElem_toArray, List.getElem_cons_zero, List.getElem_cons_succ]
          refine wpAnyH_take (i := 5) (v := undef) rfl (by kernel_rfl) (by kernel_rfl) (by kernel_rfl) (fun _ _ _ h => h) (Or.inr ⟨by rfl, rfl⟩) (by assumption) ?_
          try simp only [Act.put, List.setIfInBounds_toArray, List.set_cons_zero, List.set_cons_succ, List.getElem_toArray, List.getElem_cons_zero, List.getElem_cons_succ]
          refine wpAnyH_take (i := 6) (v := undef) rfl (by kernel_rfl) (by kernel_rfl) (by kernel_rfl) (fun _ _ _ h => h) (Or.inr ⟨by rfl, rfl⟩) (by assumption) ?_
          try simp only [Act.put, List.setIfInBounds_toArray, List.set_cons_zero, List.set_cons_succ, List.getElem_toArray, List.getElem_cons_zero, List.getElem_cons_succ]
          refine wpAnyH_take (i := 7) (v := undef) rfl (by kernel_rfl) (by kernel_rfl) (by kernel_rfl) (fun _ _ _ h => h) (Or.inr ⟨by rfl, rfl⟩) (by assumption) ?_
          try simp only [Act.put, List.setIfInBounds_toArray, List.set_cons_zero, List.set_cons_succ, List.getElem_toArray, List.getElem_cons_zero, List.getElem_cons_succ]
          refine wpAnyH_take (i := 8) (v := undef) rfl (by kernel_rfl) (by kernel_rfl) (by kernel_rfl) (fun _ _ _ h => h) (Or.inr ⟨by rfl, rfl⟩) (by assumption) ?_
          try simp only [Act.put, List.setIfInBounds_toArray, List.set_cons_zero, List.set_cons_succ, List.getElem_toArray, List.getElem_cons_zero, List.getElem_cons_succ]
          refine wpAnyH_take (i := 9) (v := undef) rfl (by kernel_rfl) (by kernel_rfl) (by kernel_rfl) (fun _ _ _ h => h) (Or.inr ⟨by rfl, rfl⟩) (by assumption) ?_
          try simp only [Act.put, List.setIfInBounds_toArray, List.set_cons_zero, List.set_cons_succ, List.getElem_toArray, List.getElem_cons_zero, List.getElem_cons_succ]
          refine wpAnyH_take (i := 10) (v := undef) rfl (by kernel_rfl) (by kernel_rfl) (by kernel_rfl) (fun _ _ _ h => h) (Or.inr ⟨by rfl, rfl⟩) (by assumption) ?_
          try simp only [Act.put, List.setIfInBounds_toArray, List.set_cons_zero, List.set_cons_succ, List.getElem_toArray, List.getElem_cons_zero, List.getElem_cons_succ]
          refine wpAnyH_take (i := 11) (v := undef) rfl (by kernel_rfl) (by kernel_rfl) (by kernel_rfl) (fun _ _ _ h => h) (Or.inr ⟨by rfl, rfl⟩) (by assumption) ?_
          try simp only [Act.put, List.setIfInBounds_toArray, List.set_cons_zero, List.set_cons_succ, List.getElem_toArray, List.getElem_cons_zero, List.getElem_cons_succ]
          refine wpAnyH_take (i := 12) (v := undef) rfl (by kernel_rfl) (by kernel_rfl) (by kernel_rfl) (fun _ _ _ h => h) (Or.inr ⟨by rfl, rfl⟩) (by assumption) ?_
          try simp only [Act.put, List.setIfInBounds_toArray, List.set_cons_zero, List.set_cons_succ, List.getElem_toArray, List.getElem_cons_zero, List.getElem_cons_succ]
          refine wpAnyH_take (i := 13) (v := undef) rfl (by kernel_rfl) (by kernel_rfl) (by kernel_rfl) (fun _ _ _ h => h) (Or.inr ⟨by rfl, rfl⟩) (by assumption) ?_
          try simp only [Act.put, List.setIfInBounds_toArray, List.set_cons_zero, List.set_cons_succ, List.getElem_toArray, List.getElem_cons_zero, List.getElem_cons_succ]
          refine wpAnyH_take (i := 14) (v := undef) rfl (by kernel_rfl) (by kernel_rfl) (by kernel_rfl) (fun _ _ _ h => h) (Or.inr ⟨by rfl, rfl⟩) (by assumption) ?_
          try simp only [Act.put, List.setIfInBounds_toArray, List.set_cons_zero, List.set_cons_succ, List.getElem_toArray, List.getElem_cons_zero, List.getElem_cons_succ]
          refine wpAnyH_take (i := 15) (v := undef) rfl (by kernel_rfl) (by kernel_rfl) (by kernel_rfl) (fun _ _ _ h => h) (Or.inr ⟨by rfl, rfl⟩) (by assumption) ?_
          try simp only [Act.put, List.setIfInBounds_toArray, List.set_cons_zero, List.set_cons_succ, List.getElem_toArray, List.getElem_cons_zero, List.getElem_cons_succ]
          refine wpAnyH_take (i := 16) (v := undef) rfl (by kernel_rfl) (by kernel_rfl) (by kernel_rfl) (fun _ _ _ h => h) (Or.inr ⟨by rfl, rfl⟩) (by assumption) ?_
          try simp only [Act.put, List.setIfInBounds_toArray, List.set_cons_zero, List.set_cons_succ, List.getElem_toArray, List.getElem_cons_zero, List.getElem_cons_succ]
          refine wpAnyH_take (i := 17) (v := ?_) rfl (by kernel_rfl) (by kernel_rfl) (by kernel_rfl) (fun _ _ _ h => h) (Or.inl ⟨by rfl, ?_⟩) (by assumption) ?_
          rotate_left
          · intro W hSw
            try dsimp only at hSw
            go_simp
            try with_reducible rfl
          try simp only [Act.put, List.setIfInBounds_toArray, List.set_cons_zero, List.set_cons_succ, List.getElem_toArray, List.getElem_cons_zero, List.getElem_cons_succ]
          refine wpAnyH_done (by kernel_rfl) ?_ _
          have HB4 := hide hk3.2.2.2.2.2.out.bel
          clear hk3 HEK hHeld
          go_wp2
          go_ret
          exact ⟨by rw [HV.out]; rfl, HB4.out⟩
        | true =>
          rw [q1] at HEO HOK
          clear q1
          by_cases k0 : k = 0
          · subst k0
            have HA2 : Hid (∀ j, j < 0 + 1 → okAt xs j = true) := hide (fun j hj => by obtain rfl : j = 0 := (by omega); rw [HOK.out]; rfl)
            have kz : decide ((0 : Int) < ((0 : Nat) : Int)) = false := by simp
            have HSS : Hid (∀ W', KeepW w B2 B2 z W2 W' → (fun w' => w'.cell? ⟨B2, 0, none⟩ = some (.string z.key) ∧ w'.cell? ⟨B2, 1, none⟩ = some (.int .i64 z.seg) ∧ w'.cell? ⟨B2, 2, none⟩ = some (.int .i64 z.pos) ∧ w'.cell? ⟨B2, 3, none⟩ = some (.int .i64 z.len) ∧ w'.cell? ⟨B2, 4, none⟩ = some (.int .i64 z.bat) ∧ Hid (KeepW w B2 B2 z W2 w')) W') := hide (fun W' h => by
              obtain ⟨y0, y1, y2, y3, y4, -⟩ := cells5 h.blk
              exact ⟨y0, y1, y2, y3, y4, hide h⟩)
            clear HOK HBAD HO
            have HEK : Hid (∀ W, (fun w' => w'.cell? ⟨B2, 0, none⟩ = some (.string z.key) ∧ w'.cell? ⟨B2, 1, none⟩ = some (.int .i64 z.seg) ∧ w'.cell? ⟨B2, 2, none⟩ = some (.int .i64 z.pos) ∧ w'.cell? ⟨B2, 3, none⟩ = some (.int .i64 z.len) ∧ w'.cell? ⟨B2, 4, none⟩ = some (.int .i64 z.bat) ∧ Hid (KeepW w B2 B2 z W2 w')) W → Calls Tryd.prog 53 #[.agg #[.string z.key, .int .i64 z.seg, .int .i64 z.pos, .int .i64 z.len, .int .i64 z.bat]] W fun e w' => e = .returned (.bool true) ∧ (fun w' => w'.cell? ⟨B2, 0, none⟩ = some (.string z.key) ∧ w'.cell? ⟨B2, 1, none⟩ = some (.int .i64 z.seg) ∧ w'.cell? ⟨B2, 2, none⟩ = some (.int .i64 z.pos) ∧ w'.cell? ⟨B2, 3, none⟩ = some (.int .i64 z.len) ∧ w'.cell? ⟨B2, 4, none⟩ = some (.int .i64 z.bat) ∧ Hid (KeepW w B2 B2 z W2 w')) w') := hide (fun W hW => by
              obtain ⟨-, -, -, -, -, h1⟩ := hW
              exact (HEO.out W).mono (fun e w' ⟨h2, h3⟩ => ⟨h2, HSS.out w' (h1.out.later h3)⟩))
            go_wp2
            have hS0 := HSS.out W2.drew (HKW.out.later (Below.refl _ _).drew)
            refine wp_region_held_drew (S := (fun w' => w'.cell? ⟨B2, 0, none⟩ = some (.string z.key) ∧ w'.cell? ⟨B2, 1, none⟩ = some (.int .i64 z.seg) ∧ w'.cell? ⟨B2, 2, none⟩ = some (.int .i64 z.pos) ∧ w'.cell? ⟨B2, 3, none⟩ = some (.int .i64 z.len) ∧ w'.cell? ⟨B2, 4, none⟩ = some (.int .i64 z.bat) ∧ Hid (KeepW w B2 B2 z W2 w'))) (by kernel_rfl) (by exact hS0) (fun hHeld => ?_)
            clear hS0
            refine wpAnyH_take (i := 0) (v := ?_) rfl (by kernel_rfl) (by kernel_rfl) (by kernel_rfl) (fun _ _ _ h => h) (Or.inl ⟨by rfl, ?_⟩) (by assumption) ?_
            rotate_left
            · intro W hSw
              try dsimp only at hSw
              go_simp
              try with_reducible rfl
            try simp only [Act.put, List.setIfInBounds_toArray, List.set_cons_zero, List.set_cons_succ, List.getElem_toArray, List.getElem_cons_zero]
            refine wpAnyH_ready (rs := [1]) (by kernel_rfl) (by simp) ?_
            refine AllReadyH.cons rfl (fun K hK => ?_) AllReadyH.nil
            go_simp
            refine (HEK.out _ (by assumption)).mono ?_
            rintro e w3 ⟨rfl, hk3⟩
            go_wp2_with fail
            refine hK.out _ _ (by assumption) (fun hHeld => ?_)
            clear hK K
            try simp only [Act.put, List.setIfInBounds_toArray, List.set_cons_zero, List.set_cons_succ, List.getElem_toArray, List.getElem_cons_zero, List.getElem_cons_succ]
            refine wpAnyH_take (i := 2) (v := ?_) rfl (by kernel_rfl) (by kernel_rfl) (by kernel_rfl) (fun _ _ _ h => h) (Or.inl ⟨by rfl, ?_⟩) (by assumption) ?_
            rotate_left
            · intro W hSw
              try dsimp only at hSw
              go_simp
              try with_reducible rfl
            try simp only [Act.put, List.setIfInBounds_toArray, List.set_cons_zero, List.set_cons_succ, List.getElem_toArray, List.getElem_cons_zero, List.getElem_cons_succ]
            refine wpAnyH_take (i := 3) (v := ?_) rfl (by kernel_rfl) (by kernel_rfl) (by kernel_rfl) (fun _ _ _ h => h) (Or.inl ⟨by rfl, ?_⟩) (by assumption) ?_
            rotate_left
            · intro W hSw
              try dsimp only at hSw
              go_simp
              try with_reducible rfl
            try simp only [Act.put, List.setIfInBounds_toArray, List.set_cons_zero, List.set_cons_succ, List.getElem_toArray, List.getElem_cons_zero, List.getElem_cons_succ]
            refine wpAnyH_take (i := 4) (v := ?_) rfl (by kernel_rfl) (by kernel_rfl) (by kernel_rfl) (fun _ _ _ h => h) (Or.inl ⟨by rfl, ?_⟩) (by assumption) ?_
            rotate_left
            · intro W hSw
              try dsimp only at hSw
              go_simp
              try with_reducible rfl
            try simp only [Act.put, List.setIfInBounds_toArray, List.set_cons_zero, List.set_cons_succ, List.getElem_toArray, List.getElem_cons_zero, List.getElem_cons_succ]
            refine wpAnyH_take (i := 5) (v := ?_) rfl (by kernel_rfl) (by kernel_rfl) (by kernel_rfl) (fun _ _ _ h => h) (Or.inl ⟨by rfl, ?_⟩) (by assumption) ?_
            rotate_left
            · intro W hSw
              try dsimp only at hSw
              go_simp
              try with_reducible rfl
            try simp only [Act.put, List.setIfInBounds_toArray, List.set_cons_zero, List.set_cons_succ, List.getElem_toArray, List.getElem_cons_zero, List.getElem_cons_succ]
            refine wpAnyH_take (i := 6) (v := ?_) rfl (by kernel_rfl) (by kernel_rfl) (by kernel_rfl) (fun _ _ _ h => h) (Or.inl ⟨by rfl, ?_⟩) (by assumption) ?_
            rotate_left
            · intro W hSw
              try dsimp only at hSw
              go_simp
              try with_reducible rfl
            try simp only [Act.put, List.setIfInBounds_toArray, List.set_cons_zero, List.set_cons_succ, List.getElem_toArray, List.getElem_cons_zero, List.getElem_cons_succ]
            refine wpAnyH_take (i := 7) (v := undef) rfl (by kernel_rfl) (by kernel_rfl) (by kernel_rfl) (fun _ _ _ h => h) (Or.inr ⟨by rfl, rfl⟩) (by assumption) ?_
            try simp only [Act.put, List.setIfInBounds_toArray, List.set_cons_zero, List.set_cons_succ, List.getElem_toArray, List.getElem_cons_zero, List.getElem_cons_succ]
            refine wpAnyH_take (i := 8) (v := undef) rfl (by kernel_rfl) (by kernel_rfl) (by kernel_rfl) (fun _ _ _ h => h) (Or.inr ⟨by rfl, rfl⟩) (by assumption) ?_
            try simp only [Act.put, List.setIfInBounds_toArray, List.set_cons_zero, List.set_cons_succ, List.getElem_toArray, List.getElem_cons_zero, List.getElem_cons_succ]
            refine wpAnyH_take (i := 9) (v := undef) rfl (by kernel_rfl) (by kernel_rfl) (by kernel_rfl) (fun _ _ _ h => h) (Or.inr ⟨by rfl, rfl⟩) (by assumption) ?_
            try simp only [Act.put, List.setIfInBounds_toArray, List.set_cons_zero, List.set_cons_succ, List.getElem_toArray, List.getElem_cons_zero, List.getElem_cons_succ]
            refine wpAnyH_take (i := 10) (v := undef) rfl (by kernel_rfl) (by kernel_rfl) (by kernel_rfl) (fun _ _ _ h => h) (Or.inr ⟨by rfl, rfl⟩) (by assumption) ?_
            try simp only [Act.put, List.setIfInBounds_toArray, List.set_cons_zero, List.set_cons_succ, List.getElem_toArray, List.getElem_cons_zero, List.getElem_cons_succ]
            refine wpAnyH_take (i := 11) (v := undef) rfl (by kernel_rfl) (by kernel_rfl) (by kernel_rfl) (fun _ _ _ h => h) (Or.inr ⟨by rfl, rfl⟩) (by assumption) ?_
            try simp only [Act.put, List.setIfInBounds_toArray, List.set_cons_zero, List.set_cons_succ, List.getElem_toArray, List.getElem_cons_zero, List.getElem_cons_succ]
            refine wpAnyH_take (i := 12) (v := undef) rfl (by kernel_rfl) (by kernel_rfl) (by kernel_rfl) (fun _ _ _ h => h) (Or.inr ⟨by rfl, rfl⟩) (by assumption) ?_
            try simp only [Act.put, List.setIfInBounds_toArray, List.set_cons_zero, List.set_cons_succ, List.getElem_toArray, List.getElem_cons_zero, List.getElem_cons_succ]
            refine wpAnyH_take (i := 13) (v := undef) rfl (by kernel_rfl) (by kernel_rfl) (by kernel_rfl) (fun _ _ _ h => h) (Or.inr ⟨by rfl, rfl⟩) (by assumption) ?_
            try simp only [Act.put, List.setIfInBounds_toArray, List.set_cons_zero, List.set_cons_succ, List.getElem_toArray, List.getElem_cons_zero, List.getElem_cons_succ]
            refine wpAnyH_take (i := 14) (v := undef) rfl (by kernel_rfl) (by kernel_rfl) (by kernel_rfl) (fun _ _ _ h => h) (Or.inr ⟨by rfl, rfl⟩) (by assumption) ?_
            try simp only [Act.put, List.setIfInBounds_toArray, List.set_cons_zero, List.set_cons_succ, List.getElem_toArray, List.getElem_cons_zero, List.getElem_cons_succ]
            refine wpAnyH_take (i := 15) (v := undef) rfl (by kernel_rfl) (by kernel_rfl) (by kernel_rfl) (fun _ _ _ h => h) (Or.inr ⟨by rfl, rfl⟩) (by assumption) ?_
            try simp only [Act.put, List.setIfInBounds_toArray, List.set_cons_zero, List.set_cons_succ, List.getElem_toArray, List.getElem_cons_zero, List.getElem_cons_succ]
            refine wpAnyH_take (i := 16) (v := ?_) rfl (by kernel_rfl) (by kernel_rfl) (by kernel_rfl) (fun _ _ _ h => h) (Or.inl ⟨by rfl, ?_⟩) (by assumption) ?_
            rotate_left
            · intro W hSw
              try dsimp only at hSw
              go_simp
              try with_reducible rfl
            try simp only [Act.put, List.setIfInBounds_toArray, List.set_cons_zero, List.set_cons_succ, List.getElem_toArray, List.getElem_cons_zero, List.getElem_cons_succ]
            refine wpAnyH_take (i := 17) (v := ?_) rfl (by kernel_rfl) (by kernel_rfl) (by kernel_rfl) (fun _ _ _ h => h) (Or.inl ⟨by rfl, ?_⟩) (by assumption) ?_
            rotate_left
            · intro W hSw
              try dsimp only at hSw
              go_simp
              try with_reducible rfl
            try simp only [Act.put, List.setIfInBounds_toArray, List.set_cons_zero, List.set_cons_succ, List.getElem_toArray, List.getElem_cons_zero, List.getElem_cons_succ]
            refine wpAnyH_done (by kernel_rfl) ?_ _
            have HB4 := hide hk3.2.2.2.2.2.out.bel
            clear hk3 HEK hHeld
            go_wp2
            go_roundw
            case rel => exact ⟨1, by omega, by go_num, HA2, HB4⟩
            case measure => first | (simp [intOf]; done) | (simp [intOf]; omega)
          · obtain ⟨j, rfl⟩ : ∃ j, k = j + 1 := ⟨k - 1, by omega⟩
            have hjf : j < xs.length := by omega
            obtain ⟨b', o', q0, -, p1, -, -, -, -⟩ := ent_cells (HR.out.later HB2.out) j hjf
            simp only [Option.some.injEq, Addr.mk.injEq] at q0
            obtain ⟨rfl, rfl, -⟩ := q0
            have HOK2 : Hid (okAt xs (j + 1) = klt (xs[j]).key z.key) := hide (by rw [HOK.out, show j + 1 - 1 = j from rfl, getD_at hjf]; simp)
            obtain ⟨y, hy⟩ : ∃ y, xs[j] = y := ⟨_, rfl⟩
            rw [hy] at p1 HOK2
            have HP1 := hide p1
            have hj3 : j < n := by omega
            have x1 : (0 : Int) ≤ (j : Int) + 1 := by omega
            have x2 : (j : Int) + 1 < (n : Int) := by omega
            have x3 : ((j : Int) + 1).toNat = j + 1 := by omega
            have x4 : (0 : Int) < (j : Int) + 1 := by omega
            have x5 : (j : Int) < (n : Int) := by omega
            have x6 : IntKind.i64.wrap (j : Int) = (j : Int) := by rw [IntKind.wrap_i64]; omega
            have x8 : IntKind.i64.wrap ((j : Int) + 1 - 1) = (j : Int) := by rw [IntKind.wrap_i64]; omega
            have HSS : Hid (∀ W', KeepW w B2 B2 z W2 W' → (fun w' => w'.cell? ⟨B2, 0, none⟩ = some (.string z.key) ∧ w'.cell? ⟨B2, 1, none⟩ = some (.int .i64 z.seg) ∧ w'.cell? ⟨B2, 2, none⟩ = some (.int .i64 z.pos) ∧ w'.cell? ⟨B2, 3, none⟩ = some (.int .i64 z.len) ∧ w'.cell? ⟨B2, 4, none⟩ = some (.int .i64 z.bat) ∧ w'.cell? ⟨b, off + j * 5, none⟩ = some (.string y.key) ∧ Hid (KeepW w B2 B2 z W2 w')) W') := hide (fun W' h => by
              obtain ⟨y0, y1, y2, y3, y4, -⟩ := cells5 h.blk
              exact ⟨y0, y1, y2, y3, y4, by rw [h.old.cell hbw2]; exact HP1.out, hide h⟩)
            clear hy HOK hk2 k0 p1 HP1
            cases q6 : klt y.key z.key with
            | false =>
              have HV := hide (HBAD.out (by rw [HOK2.out, q6]))
              have t6 : Op.bytesLess y.key.toList z.key.toList = false := q6
              clear HOK2 HBAD HO q6
              have HEK : Hid (∀ W, (fun w' => w'.cell? ⟨B2, 0, none⟩ = some (.string z.key) ∧ w'.cell? ⟨B2, 1, none⟩ = some (.int .i64 z.seg) ∧ w'.cell? ⟨B2, 2, none⟩ = some (.int .i64 z.pos) ∧ w'.cell? ⟨B2, 3, none⟩ = some (.int .i64 z.len) ∧ w'.cell? ⟨B2, 4, none⟩ = some (.int .i64 z.bat) ∧ w'.cell? ⟨b, off + j * 5, none⟩ = some (.string y.key) ∧ Hid (KeepW w B2 B2 z W2 w')) W → Calls Tryd.prog 53 #[.agg #[.string z.key, .int .i64 z.seg, .int .i64 z.pos, .int .i64 z.len, .int .i64 z.bat]] W fun e w' => e = .returned (.bool true) ∧ (fun w' => w'.cell? ⟨B2, 0, none⟩ = some (.string z.key) ∧ w'.cell? ⟨B2, 1, none⟩ = some (.int .i64 z.seg) ∧ w'.cell? ⟨B2, 2, none⟩ = some (.int .i64 z.pos) ∧ w'.cell? ⟨B2, 3, none⟩ = some (.int .i64 z.len) ∧ w'.cell? ⟨B2, 4, none⟩ = some (.int .i64 z.bat) ∧ w'.cell? ⟨b, off + j * 5, none⟩ = some (.string y.key) ∧ Hid (KeepW w B2 B2 z W2 w')) w') := hide (fun W hW => by
                obtain ⟨-, -, -, -, -, -, h1⟩ := hW
                exact (HEO.out W).mono (fun e w' ⟨h2, h3⟩ => ⟨h2, HSS.out w' (h1.out.later h3)⟩))
              go_wp2
              have hS0 := HSS.out W2.drew (HKW.out.later (Below.refl _ _).drew)
              refine wp_region_held_drew (S := (fun w' => w'.cell? ⟨B2, 0, none⟩ = some (.string z.key) ∧ w'.cell? ⟨B2, 1, none⟩ = some (.int .i64 z.seg) ∧ w'.cell? ⟨B2, 2, none⟩ = some (.int .i64 z.pos) ∧ w'.cell? ⟨B2, 3, none⟩ = some (.int .i64 z.len) ∧ w'.cell? ⟨B2, 4, none⟩ = some (.int .i64 z.bat) ∧ w'.cell? ⟨b, off + j * 5, none⟩ = some (.string y.key) ∧ Hid (KeepW w B2 B2 z W2 w'))) (by kernel_rfl) (by exact hS0) (fun hHeld => ?_)
              clear hS0
              refine wpAnyH_take (i := 0) (v := ?_) rfl (by kernel_rfl) (by kernel_rfl) (by kernel_rfl) (fun _ _ _ h => h) (Or.inl ⟨by rfl, ?_⟩) (by assumption) ?_
              rotate_left
              · intro W hSw
                try dsimp only at hSw
                go_simp
                try with_reducible rfl
              try simp only [Act.put, List.setIfInBounds_toArray, List.set_cons_zero, List.set_cons_succ, List.getElem_toArray, List.getElem_cons_zero]
              refine wpAnyH_ready (rs := [1]) (by kernel_rfl) (by simp) ?_
              refine AllReadyH.cons rfl (fun K hK => ?_) AllReadyH.nil
              go_simp
              refine (HEK.out _ (by assumption)).mono ?_
              rintro e w3 ⟨rfl, hk3⟩
              go_wp2_with fail
              refine hK.out _ _ (by assumption) (fun hHeld => ?_)
              clear hK K
              try simp only [Act.put, List.setIfInBounds_toArray, List.set_cons_zero, List.set_cons_succ, List.getElem_toArray, List.getElem_cons_zero, List.getElem_cons_succ]
              refine wpAnyH_take (i := 2) (v := ?_) rfl (by kernel_rfl) (by kernel_rfl) (by kernel_rfl) (fun _ _ _ h => h) (Or.inl ⟨by rfl, ?_⟩) (by assumption) ?_
              rotate_left
              · intro W hSw
                try dsimp only at hSw
                go_simp
                try with_reducible rfl
              try simp only [Act.put, List.setIfInBounds_toArray, List.set_cons_zero, List.set_cons_succ, List.getElem_toArray, List.getElem_cons_zero, List.getElem_cons_succ]
              refine wpAnyH_take (i := 3) (v := ?_) rfl (by kernel_rfl) (by kernel_rfl) (by kernel_rfl) (fun _ _ _ h => h) (Or.inl ⟨by rfl, ?_⟩) (by assumption) ?_
              rotate_left
              · intro W hSw
                try dsimp only at hSw
                go_simp
                try with_reducible rfl
              try simp only [Act.put, List.setIfInBounds_toArray, List.set_cons_zero, List.set_cons_succ, List.getElem_toArray, List.getElem_cons_zero, List.getElem_cons_succ]
              refine wpAnyH_take (i := 4) (v := ?_) rfl (by kernel_rfl) (by kernel_rfl) (by kernel_rfl) (fun _ _ _ h => h) (Or.inl ⟨by rfl, ?_⟩) (by assumption) ?_
              rotate_left
              · intro W hSw
                try dsimp only at hSw
                go_simp
                try with_reducible rfl
              try simp only [Act.put, List.setIfInBounds_toArray, List.set_cons_zero, List.set_cons_succ, List.getElem_toArray, List.getElem_cons_zero, List.getElem_cons_succ]
              refine wpAnyH_take (i := 5) (v := ?_) rfl (by kernel_rfl) (by kernel_rfl) (by kernel_rfl) (fun _ _ _ h => h) (Or.inl ⟨by rfl, ?_⟩) (by assumption) ?_
              rotate_left
              · intro W hSw
                try dsimp only at hSw
                go_simp
                try with_reducible rfl
              try simp only [Act.put, List.setIfInBounds_toArray, List.set_cons_zero, List.set_cons_succ, List.getElem_toArray, List.getElem_cons_zero, List.getElem_cons_succ]
              refine wpAnyH_take (i := 6) (v := ?_) rfl (by kernel_rfl) (by kernel_rfl) (by kernel_rfl) (fun _ _ _ h => h) (Or.inl ⟨by rfl, ?_⟩) (by assumption) ?_
              rotate_left
              · intro W hSw
                try dsimp only at hSw
                go_simp
                try with_reducible rfl
              try simp only [Act.put, List.setIfInBounds_toArray, List.set_cons_zero, List.set_cons_succ, List.getElem_toArray, List.getElem_cons_zero, List.getElem_cons_succ]
              refine wpAnyH_take (i := 7) (v := ?_) rfl (by kernel_rfl) (by kernel_rfl) (by kernel_rfl) (fun _ _ _ h => h) (Or.inl ⟨by rfl, ?_⟩) (by assumption) ?_
              rotate_left
              · intro W hSw
                try dsimp only at hSw
                go_simp
                try with_reducible rfl
              try simp only [Act.put, List.setIfInBounds_toArray, List.set_cons_zero, List.set_cons_succ, List.getElem_toArray, List.getElem_cons_zero, List.getElem_cons_succ]
              refine wpAnyH_take (i := 8) (v := ?_) rfl (by kernel_rfl) (by kernel_rfl) (by kernel_rfl) (fun _ _ _ h => h) (Or.inl ⟨by rfl, ?_⟩) (by assumption) ?_
              rotate_left
              · intro W hSw
                try dsimp only at hSw
                go_simp
                try with_reducible rfl
              try simp only [Act.put, List.setIfInBounds_toArray, List.set_cons_zero, List.set_cons_succ, List.getElem_toArray, List.getElem_cons_zero, List.getElem_cons_succ]
              refine wpAnyH_take (i := 9) (v := ?_) rfl (by kernel_rfl) (by kernel_rfl) (by kernel_rfl) (fun _ _ _ h => h) (Or.inl ⟨by rfl, ?_⟩) (by assumption) ?_
              rotate_left
              · intro W hSw
                try dsimp only at hSw
                go_simp
                try with_reducible rfl
              try simp only [Act.put, List.setIfInBounds_toArray, List.set_cons_zero, List.set_cons_succ, List.getElem_toArray, List.getElem_cons_zero, List.getElem_cons_succ]
              refine wpAnyH_take (i := 10) (v := ?_) rfl (by kernel_rfl) (by kernel_rfl) (by kernel_rfl) (fun _ _ _ h => h) (Or.inl ⟨by rfl, ?_⟩) (by assumption) ?_
              rotate_left
              · intro W hSw
                try dsimp only at hSw
                go_simp
                try with_reducible rfl
              try simp only [Act.put, List.setIfInBounds_toArray, List.set_cons_zero, List.set_cons_succ, List.getElem_toArray, List.getElem_cons_zero, List.getElem_cons_succ]
              refine wpAnyH_take (i := 11) (v := ?_) rfl (by kernel_rfl) (by kernel_rfl) (by kernel_rfl) (fun _ _ _ h => h) (Or.inl ⟨by rfl, ?_⟩) (by assumption) ?_
              rotate_left
              · intro W hSw
                try dsimp only at hSw
                go_simp
                try with_reducible rfl
              try simp only [Act.put, List.setIfInBounds_toArray, List.set_cons_zero, List.set_cons_succ, List.getElem_toArray, List.getElem_cons_zero, List.getElem_cons_succ]
              refine wpAnyH_take (i := 12) (v := ?_) rfl (by kernel_rfl) (by kernel_rfl) (by kernel_rfl) (fun _ _ _ h => h) (Or.inl ⟨by rfl, ?_⟩) (by assumption) ?_
              rotate_left
              · intro W hSw
                try dsimp only at hSw
                go_simp
                try with_reducible rfl
              try simp only [Act.put, List.setIfInBounds_toArray, List.set_cons_zero, List.set_cons_succ, List.getElem_toArray, List.getElem_cons_zero, List.getElem_cons_succ]
              refine wpAnyH_take (i := 13) (v := ?_) rfl (by kernel_rfl) (by kernel_rfl) (by kernel_rfl) (fun _ _ _ h => h) (Or.inl ⟨by rfl, ?_⟩) (by assumption) ?_
              rotate_left
              · intro W hSw
                try dsimp only at hSw
                go_simp
                try with_reducible rfl
              try simp only [Act.put, List.setIfInBounds_toArray, List.set_cons_zero, List.set_cons_succ, List.getElem_toArray, List.getElem_cons_zero, List.getElem_cons_succ]
              refine wpAnyH_take (i := 14) (v := ?_) rfl (by kernel_rfl) (by kernel_rfl) (by kernel_rfl) (fun _ _ _ h => h) (Or.inl ⟨by rfl, ?_⟩) (by assumption) ?_
              rotate_left
              · intro W hSw
                try dsimp only at hSw
                go_simp
                try with_reducible rfl
              try simp only [Act.put, List.setIfInBounds_toArray, List.set_cons_zero, List.set_cons_succ, List.getElem_toArray, List.getElem_cons_zero, List.getElem_cons_succ]
              refine wpAnyH_take (i := 15) (v := ?_) rfl (by kernel_rfl) (by kernel_rfl) (by kernel_rfl) (fun _ _ _ h => h) (Or.inl ⟨by rfl, ?_⟩) (by assumption) ?_
              rotate_left
              · intro W hSw
                try dsimp only at hSw
                go_simp
                try with_reducible rfl
              try simp only [Act.put, List.setIfInBounds_toArray, List.set_cons_zero, List.set_cons_succ, List.getElem_toArray, List.getElem_cons_zero, List.getElem_cons_succ]
              refine wpAnyH_take (i := 16) (v := ?_) rfl (by kernel_rfl) (by kernel_rfl) (by kernel_rfl) (fun _ _ _ h => h) (Or.inl ⟨by rfl, ?_⟩) (by assumption) ?_
              rotate_left
              · intro W hSw
                try dsimp only at hSw
                go_simp
                try with_reducible rfl
              try simp only [Act.put, List.setIfInBounds_toArray, List.set_cons_zero, List.set_cons_succ, List.getElem_toArray, List.getElem_cons_zero, List.getElem_cons_succ]
              refine wpAnyH_take (i := 17) (v := ?_) rfl (by kernel_rfl) (by kernel_rfl) (by kernel_rfl) (fun _ _ _ h => h) (Or.inl ⟨by rfl, ?_⟩) (by assumption) ?_
              rotate_left
              · intro W hSw
                try dsimp only at hSw
                go_simp
                try with_reducible rfl
              try simp only [Act.put, List.setIfInBounds_toArray, List.set_cons_zero, List.set_cons_succ, List.getElem_toArray, List.getElem_cons_zero, List.getElem_cons_succ]
              refine wpAnyH_done (by kernel_rfl) ?_ _
              have HB4 := hide hk3.2.2.2.2.2.2.out.bel
              clear hk3 HEK hHeld
              go_wp2
              go_ret
              exact ⟨by rw [HV.out]; rfl, HB4.out⟩
            | true =>
              have HA2 : Hid (∀ i, i < j + 1 + 1 → okAt xs i = true) := hide (fun i hi => by
                by_cases h : i = j + 1
                · rw [h, HOK2.out, q6]
                · exact HO.out i (by omega))
              have t6 : Op.bytesLess y.key.toList z.key.toList = true := q6
              clear HOK2 HBAD HO q6
              have HEK : Hid (∀ W, (fun w' => w'.cell? ⟨B2, 0, none⟩ = some (.string z.key) ∧ w'.cell? ⟨B2, 1, none⟩ = some (.int .i64 z.seg) ∧ w'.cell? ⟨B2, 2, none⟩ = some (.int .i64 z.pos) ∧ w'.cell? ⟨B2, 3, none⟩ = some (.int .i64 z.len) ∧ w'.cell? ⟨B2, 4, none⟩ = some (.int .i64 z.bat) ∧ w'.cell? ⟨b, off + j * 5, none⟩ = some (.string y.key) ∧ Hid (KeepW w B2 B2 z W2 w')) W → Calls Tryd.prog 53 #[.agg #[.string z.key, .int .i64 z.seg, .int .i64 z.pos, .int .i64 z.len, .int .i64 z.bat]] W fun e w' => e = .returned (.bool true) ∧ (fun w' => w'.cell? ⟨B2, 0, none⟩ = some (.string z.key) ∧ w'.cell? ⟨B2, 1, none⟩ = some (.int .i64 z.seg) ∧ w'.cell? ⟨B2, 2, none⟩ = some (.int .i64 z.pos) ∧ w'.cell? ⟨B2, 3, none⟩ = some (.int .i64 z.len) ∧ w'.cell? ⟨B2, 4, none⟩ = some (.int .i64 z.bat) ∧ w'.cell? ⟨b, off + j * 5, none⟩ = some (.string y.key) ∧ Hid (KeepW w B2 B2 z W2 w')) w') := hide (fun W hW => by
                obtain ⟨-, -, -, -, -, -, h1⟩ := hW
                exact (HEO.out W).mono (fun e w' ⟨h2, h3⟩ => ⟨h2, HSS.out w' (h1.out.later h3)⟩))
              go_wp2
              have hS0 := HSS.out W2.drew (HKW.out.later (Below.refl _ _).drew)
              refine wp_region_held_drew (S := (fun w' => w'.cell? ⟨B2, 0, none⟩ = some (.string z.key) ∧ w'.cell? ⟨B2, 1, none⟩ = some (.int .i64 z.seg) ∧ w'.cell? ⟨B2, 2, none⟩ = some (.int .i64 z.pos) ∧ w'.cell? ⟨B2, 3, none⟩ = some (.int .i64 z.len) ∧ w'.cell? ⟨B2, 4, none⟩ = some (.int .i64 z.bat) ∧ w'.cell? ⟨b, off + j * 5, none⟩ = some (.string y.key) ∧ Hid (KeepW w B2 B2 z W2 w'))) (by kernel_rfl) (by exact hS0) (fun hHeld => ?_)
              clear hS0
              refine wpAnyH_take (i := 0) (v := ?_) rfl (by kernel_rfl) (by kernel_rfl) (by kernel_rfl) (fun _ _ _ h => h) (Or.inl ⟨by rfl, ?_⟩) (by assumption) ?_
              rotate_left
              · intro W hSw
                try dsimp only at hSw
                go_simp
                try with_reducible rfl
              try simp only [Act.put, List.setIfInBounds_toArray, List.set_cons_zero, List.set_cons_succ, List.getElem_toArray, List.getElem_cons_zero]
              refine wpAnyH_ready (rs := [1]) (by kernel_rfl) (by simp) ?_
              refine AllReadyH.cons rfl (fun K hK => ?_) AllReadyH.nil
              go_simp
              refine (HEK.out _ (by assumption)).mono ?_
              rintro e w3 ⟨rfl, hk3⟩
              go_wp2_with fail
              refine hK.out _ _ (by assumption) (fun hHeld => ?_)
              clear hK K
              try simp only [Act.put, List.setIfInBounds_toArray, List.set_cons_zero, List.set_cons_succ, List.getElem_toArray, List.getElem_cons_zero, List.getElem_cons_succ]
              refine wpAnyH_take (i := 2) (v := ?_) rfl (by kernel_rfl) (by kernel_rfl) (by kernel_rfl) (fun _ _ _ h => h) (Or.inl ⟨by rfl, ?_⟩) (by assumption) ?_
              rotate_left
              · intro W hSw
                try dsimp only at hSw
                go_simp
                try with_reducible rfl
              try simp only [Act.put, List.setIfInBounds_toArray, List.set_cons_zero, List.set_cons_succ, List.getElem_toArray, List.getElem_cons_zero, List.getElem_cons_succ]
              refine wpAnyH_take (i := 3) (v := ?_) rfl (by kernel_rfl) (by kernel_rfl) (by kernel_rfl) (fun _ _ _ h => h) (Or.inl ⟨by rfl, ?_⟩) (by assumption) ?_
              rotate_left
              · intro W hSw
                try dsimp only at hSw
                go_simp
                try with_reducible rfl
              try simp only [Act.put, List.setIfInBounds_toArray, List.set_cons_zero, List.set_cons_succ, List.getElem_toArray, List.getElem_cons_zero, List.getElem_cons_succ]
              refine wpAnyH_take (i := 4) (v := ?_) rfl (by kernel_rfl) (by kernel_rfl) (by kernel_rfl) (fun _ _ _ h => h) (Or.inl ⟨by rfl, ?_⟩) (by assumption) ?_
              rotate_left
              · intro W hSw
                try dsimp only at hSw
                go_simp
                try with_reducible rfl
              try simp only [Act.put, List.setIfInBounds_toArray, List.set_cons_zero, List.set_cons_succ, List.getElem_toArray, List.getElem_cons_zero, List.getElem_cons_succ]
              refine wpAnyH_take (i := 5) (v := ?_) rfl (by kernel_rfl) (by kernel_rfl) (by kernel_rfl) (fun _ _ _ h => h) (Or.inl ⟨by rfl, ?_⟩) (by assumption) ?_
              rotate_left
              · intro W hSw
                try dsimp only at hSw
                go_simp
                try with_reducible rfl
              try simp only [Act.put, List.setIfInBounds_toArray, List.set_cons_zero, List.set_cons_succ, List.getElem_toArray, List.getElem_cons_zero, List.getElem_cons_succ]
              refine wpAnyH_take (i := 6) (v := ?_) rfl (by kernel_rfl) (by kernel_rfl) (by kernel_rfl) (fun _ _ _ h => h) (Or.inl ⟨by rfl, ?_⟩) (by assumption) ?_
              rotate_left
              · intro W hSw
                try dsimp only at hSw
                go_simp
                try with_reducible rfl
              try simp only [Act.put, List.setIfInBounds_toArray, List.set_cons_zero, List.set_cons_succ, List.getElem_toArray, List.getElem_cons_zero, List.getElem_cons_succ]
              refine wpAnyH_take (i := 7) (v := ?_) rfl (by kernel_rfl) (by kernel_rfl) (by kernel_rfl) (fun _ _ _ h => h) (Or.inl ⟨by rfl, ?_⟩) (by assumption) ?_
              rotate_left
              · intro W hSw
                try dsimp only at hSw
                go_simp
                try with_reducible rfl
              try simp only [Act.put, List.setIfInBounds_toArray, List.set_cons_zero, List.set_cons_succ, List.getElem_toArray, List.getElem_cons_zero, List.getElem_cons_succ]
              refine wpAnyH_take (i := 8) (v := ?_) rfl (by kernel_rfl) (by kernel_rfl) (by kernel_rfl) (fun _ _ _ h => h) (Or.inl ⟨by rfl, ?_⟩) (by assumption) ?_
              rotate_left
              · intro W hSw
                try dsimp only at hSw
                go_simp
                try with_reducible rfl
              try simp only [Act.put, List.setIfInBounds_toArray, List.set_cons_zero, List.set_cons_succ, List.getElem_toArray, List.getElem_cons_zero, List.getElem_cons_succ]
              refine wpAnyH_take (i := 9) (v := ?_) rfl (by kernel_rfl) (by kernel_rfl) (by kernel_rfl) (fun _ _ _ h => h) (Or.inl ⟨by rfl, ?_⟩) (by assumption) ?_
              rotate_left
              · intro W hSw
                try dsimp only at hSw
                go_simp
                try with_reducible rfl
              try simp only [Act.put, List.setIfInBounds_toArray, List.set_cons_zero, List.set_cons_succ, List.getElem_toArray, List.getElem_cons_zero, List.getElem_cons_succ]
              refine wpAnyH_take (i := 10) (v := ?_) rfl (by kernel_rfl) (by kernel_rfl) (by kernel_rfl) (fun _ _ _ h => h) (Or.inl ⟨by rfl, ?_⟩) (by assumption) ?_
              rotate_left
              · intro W hSw
                try dsimp only at hSw
                go_simp
                try with_reducible rfl
              try simp only [Act.put, List.setIfInBounds_toArray, List.set_cons_zero, List.set_cons_succ, List.getElem_toArray, List.getElem_cons_zero, List.getElem_cons_succ]
              refine wpAnyH_take (i := 11) (v := ?_) rfl (by kernel_rfl) (by kernel_rfl) (by kernel_rfl) (fun _ _ _ h => h) (Or.inl ⟨by rfl, ?_⟩) (by assumption) ?_
              rotate_left
              · intro W hSw
                try dsimp only at hSw
                go_simp
                try with_reducible rfl
              try simp only [Act.put, List.setIfInBounds_toArray, List.set_cons_zero, List.set_cons_succ, List.getElem_toArray, List.getElem_cons_zero, List.getElem_cons_succ]
              refine wpAnyH_take (i := 12) (v := ?_) rfl (by kernel_rfl) (by kernel_rfl) (by kernel_rfl) (fun _ _ _ h => h) (Or.inl ⟨by rfl, ?_⟩) (by assumption) ?_
              rotate_left
              · intro W hSw
                try dsimp only at hSw
                go_simp
                try with_reducible rfl
              try simp only [Act.put, List.setIfInBounds_toArray, List.set_cons_zero, List.set_cons_succ, List.getElem_toArray, List.getElem_cons_zero, List.getElem_cons_succ]
              refine wpAnyH_take (i := 13) (v := ?_) rfl (by kernel_rfl) (by kernel_rfl) (by kernel_rfl) (fun _ _ _ h => h) (Or.inl ⟨by rfl, ?_⟩) (by assumption) ?_
              rotate_left
              · intro W hSw
                try dsimp only at hSw
                go_simp
                try with_reducible rfl
              try simp only [Act.put, List.setIfInBounds_toArray, List.set_cons_zero, List.set_cons_succ, List.getElem_toArray, List.getElem_cons_zero, List.getElem_cons_succ]
              refine wpAnyH_take (i := 14) (v := ?_) rfl (by kernel_rfl) (by kernel_rfl) (by kernel_rfl) (fun _ _ _ h => h) (Or.inl ⟨by rfl, ?_⟩) (by assumption) ?_
              rotate_left
              · intro W hSw
                try dsimp only at hSw
                go_simp
                try with_reducible rfl
              try simp only [Act.put, List.setIfInBounds_toArray, List.set_cons_zero, List.set_cons_succ, List.getElem_toArray, List.getElem_cons_zero, List.getElem_cons_succ]
              refine wpAnyH_take (i := 15) (v := ?_) rfl (by kernel_rfl) (by kernel_rfl) (by kernel_rfl) (fun _ _ _ h => h) (Or.inl ⟨by rfl, ?_⟩) (by assumption) ?_
              rotate_left
              · intro W hSw
                try dsimp only at hSw
                go_simp
                try with_reducible rfl
              try simp only [Act.put, List.setIfInBounds_toArray, List.set_cons_zero, List.set_cons_succ, List.getElem_toArray, List.getElem_cons_zero, List.getElem_cons_succ]
              refine wpAnyH_take (i := 16) (v := ?_) rfl (by kernel_rfl) (by kernel_rfl) (by kernel_rfl) (fun _ _ _ h => h) (Or.inl ⟨by rfl, ?_⟩) (by assumption) ?_
              rotate_left
              · intro W hSw
                try dsimp only at hSw
                go_simp
                try with_reducible rfl
              try simp only [Act.put, List.setIfInBounds_toArray, List.set_cons_zero, List.set_cons_succ, List.getElem_toArray, List.getElem_cons_zero, List.getElem_cons_succ]
              refine wpAnyH_take (i := 17) (v := ?_) rfl (by kernel_rfl) (by kernel_rfl) (by kernel_rfl) (fun _ _ _ h => h) (Or.inl ⟨by rfl, ?_⟩) (by assumption) ?_
              rotate_left
              · intro W hSw
                try dsimp only at hSw
                go_simp
                try with_reducible rfl
              try simp only [Act.put, List.setIfInBounds_toArray, List.set_cons_zero, List.set_cons_succ, List.getElem_toArray, List.getElem_cons_zero, List.getElem_cons_succ]
              refine wpAnyH_done (by kernel_rfl) ?_ _
              have HB4 := hide hk3.2.2.2.2.2.2.out.bel
              clear hk3 HEK hHeld
              go_wp2
              go_roundw
              case rel => exact ⟨j + 1 + 1, by omega, by go_num, HA2, HB4⟩
              case measure => first | (simp [intOf]; done) | (simp [intOf]; omega)
      · obtain rfl : k = n := by omega
        have HV : Hid (dirOk xs = true) := hide (dirOk_yes (by omega) (by rw [hlen]; exact HO.out))
        clear HO
        go_wp2
        go_ret
        exact ⟨by rw [HV.out]; rfl, HB.out⟩
  · have t20 : decide ((20 : Int) < (n : Int)) = true := by simp; omega
    have HV : Hid (dirOk xs = false) := hide (by unfold dirOk; rw [decide_eq_false (by omega)]; rfl)
    go_enter Tryd.func49, Tryd.ntmps49
    go_wp2
    go_ret
    exact ⟨by rw [HV.out]; rfl, Below.refl _ _⟩

end Go.Proofs.YtimpokbcfjgdaaaDoor
