/-
  spec.DirPut.
-/
import Derived.Test.YtnckdfidehbcaaaDirPlain
import Derived.Deep.QuietTactic
namespace Go.Proofs.Ytnckdfidehbcaaa
open Go.RowKit
open Plain

set_option maxRecDepth 100000 in
set_option maxHeartbeats 4000000 in
theorem specPut_any (w : World) (a : Option Addr) (n cap : Nat) (xs : List EntV) (p : EntV) (hr : entSh.Row w a n xs) (hn : n ≤ 1048576) :
    Calls Try.prog 43 #[.slice a n cap, .agg #[.string p.key, .int .i64 p.seg, .int .i64 p.pos, .int .i64 p.len, .int .i64 p.bat]] w fun e w' => (∃ a' n' cap', e = .returned (.slice a' n' cap') ∧ entSh.Own 26 w' w.heap.size (.slice a' n' cap') (putE xs p)) ∧ Below w.heap.size w w' := by
  have hlen := hr.len
  have HR := hide hr
  clear hr
  obtain ⟨W, hW⟩ : ∃ W, W = w.alloc (.cells #[.string p.key, .int .i64 p.seg, .int .i64 p.pos, .int .i64 p.len, .int .i64 p.bat] 26) := ⟨_, rfl⟩
  have HWS : Hid (W.heap.size = w.heap.size + 1) := hide (by rw [hW]; simp)
  have HK0 : Hid (Blk5 (W.alloc (.cells #[] 26)) w.heap.size p) := hide (by
    have h := Blk5.new w p
    rw [← hW] at h
    exact h.later (al1 W _) h.lt)
  have HO0 : Hid (entSh.Own 26 (W.alloc (.cells #[] 26)) (w.heap.size + 1) (.slice (some ⟨w.heap.size + 1, 0, none⟩) 0 0) []) := hide (by
    have h := Shape.Own.empty entSh 26 W
    rw [HWS.out] at h
    exact h)
  have HB0 : Hid (Below w.heap.size w (W.alloc (.cells #[] 26))) := hide (by rw [hW]; exact al2 w _ _)
  go_enter Try.func43, Try.ntmps43
  go_wp2_with fail
  rw [← hW]
  clear hW
  go_loopw [5, 6, 7] (fun v d i wr => ∃ (k : Nat) (done : Bool) (a' : Option Addr) (n' c' : Nat) (out : List EntV), k ≤ n ∧ v = .slice a' n' c' ∧ d = .bool done ∧ i = .int .i64 k ∧ Hid (PutSt xs p k done out) ∧ Hid (entSh.Own 26 wr (w.heap.size + 1) (.slice a' n' c') out) ∧ Hid (Blk5 wr w.heap.size p) ∧ Hid (Below w.heap.size w wr)) (fun _ _ i _ => n - (intOf i).toNat)
  case atStart => exact ⟨0, false, _, 0, 0, [], by omega, rfl, rfl, rfl, hide (PutSt.start _ _), HO0, HK0, HB0⟩
  case round =>
    clear HO0 HB0 HK0
    obtain ⟨k, done, a', n', c', out, hk, rfl, rfl, rfl, HS, HO, HK, HB⟩ := hrel
    obtain ⟨y0, y1, y2, y3, y4, -⟩ := cells5 HK.out
    by_cases hlt : k < n
    · have hkf : k < xs.length := by omega
      obtain ⟨b, off, rfl, hbw, e0, e1, e2, e3, e4⟩ := ent_cells (HR.out.later HB.out) k hkf
      have HSZ : Hid (w.heap.size + 1 ≤ wr.heap.size) := hide HK.out.lt
      have hol := HS.out.len
      have hk2 : (k : Int) < (n : Int) := by omega
      by_cases hq : (xs[k]).key = p.key
      · have t1 := str_eq _ _ hq
        have HE := hide (HS.out.same hkf hq)
        clear hq
        go_wp2
        go_region
        all_goals
          go_wp2
          go_roundw
          case rel => exact ⟨k + 1, done, a', n', c', out, by omega, rfl, rfl, by go_num, HE, HO, HK, hide HB.out.drew⟩
          case measure => first | (simp [intOf]; done) | (simp [intOf]; omega)
      · have t1 := str_ne _ _ hq
        cases done with
        | true =>
          have HE := hide (HS.out.on hkf hq)
          obtain ⟨z, hz⟩ : ∃ z, xs[k] = z := ⟨_, rfl⟩
          rw [hz] at e0 e1 e2 e3 e4 t1 HE
          clear hq hz
          have HO2 : Hid (entSh.Own 26 wr.drew.drew (w.heap.size + 1) (.slice a' n' c') out) := hide HO.out
          go_wp2
          go_region
          go_wp2
          go_region
          go_wp2_with (at_builtin; refine wpList_app_ent rfl _ _ rfl z HO2.out HSZ.out (by omega) rfl rfl rfl ?_; intro a3 n3 cap3 w3 hn3 ho3 hb3; clear hn3)
          have HO3 := hide ho3
          have HB3 := hide (HB.out.drew.drew.trans (hb3.mono (Nat.le_succ _)))
          have HK3 : Hid (Blk5 w3 w.heap.size p) := hide ((show Blk5 wr.drew.drew w.heap.size p from HK.out).later hb3 (Nat.lt_succ_self _))
          clear ho3 hb3 HO HB HK HO2
          go_roundw
          case rel => exact ⟨k + 1, true, a3, n3, cap3, _, by omega, rfl, rfl, by go_num, HE, HO3, HK3, HB3⟩
          case measure => first | (simp [intOf]; done) | (simp [intOf]; omega)
        | false =>
          by_cases hg : klt p.key (xs[k]).key = true
          · have HE := hide (HS.out.gt hkf hq hg)
            obtain ⟨z, hz⟩ : ∃ z, xs[k] = z := ⟨_, rfl⟩
            have HZ := hide hz
            rw [hz] at e0 e1 e2 e3 e4 t1 HE hg
            have t2 : Op.bytesLess z.key.toList p.key.toList = false := klt_asymm hg
            clear hq hz hg
            have HO2 : Hid (entSh.Own 26 wr.drew.drew (w.heap.size + 1) (.slice a' n' c') out) := hide HO.out
            go_wp2
            go_region
            go_wp2
            go_region
            go_wp2_with (at_builtin; first
              | (refine wpList_app_ent rfl _ _ rfl z HO3.out HSZ3.out (by simp; omega) rfl rfl rfl ?_; intro a4 n4 cap4 w4 hn4 ho4 hb4; clear hn4)
              | (refine wpList_app_ent rfl _ _ rfl p HO2.out HSZ.out (by omega) rfl rfl rfl ?_; intro a3 n3 cap3 w3 hn3 ho3 hb3; clear hn3; have HO3 := hide ho3; have HB3 := hide (HB.out.drew.drew.trans (hb3.mono (Nat.le_succ _))); have HK3 : Hid (Blk5 w3 w.heap.size p) := hide ((show Blk5 wr.drew.drew w.heap.size p from HK.out).later hb3 (Nat.lt_succ_self _)); have HSZ3 : Hid (w.heap.size + 1 ≤ w3.heap.size) := hide HK3.out.lt; have hbw3 : b < w3.heap.size := Nat.lt_of_lt_of_le hbw hb3.size; clear ho3 hb3 HO2 HO; obtain ⟨b', off', q0, -, g0, g1, g2, g3, g4⟩ := ent_cells (HR.out.later HB3.out) k hkf; rw [HZ.out] at g0 g1 g2 g3 g4; simp only [Option.some.injEq, Addr.mk.injEq] at q0; obtain ⟨rfl, rfl, -⟩ := q0))
            have HO4 := hide ho4
            have HB4 := hide (HB3.out.trans (hb4.mono (Nat.le_succ _)))
            have HK4 := hide (HK3.out.later hb4 (Nat.lt_succ_self _))
            clear ho4 hb4 HO3 HB3 HK3 HB HK
            go_roundw
            case rel => exact ⟨k + 1, true, a4, n4, cap4, _, by omega, rfl, rfl, by go_num, HE, HO4, HK4, HB4⟩
            case measure => first | (simp [intOf]; done) | (simp [intOf]; omega)
          · have hg' : klt p.key (xs[k]).key = false := by simpa using hg
            have HE := hide (HS.out.le hkf hq hg')
            obtain ⟨z, hz⟩ : ∃ z, xs[k] = z := ⟨_, rfl⟩
            rw [hz] at e0 e1 e2 e3 e4 t1 HE hg' hq
            have t2 : Op.bytesLess z.key.toList p.key.toList = true := klt_other hg' hq
            clear hq hz hg hg'
            have HO2 : Hid (entSh.Own 26 wr.drew.drew (w.heap.size + 1) (.slice a' n' c') out) := hide HO.out
            go_wp2
            go_region
            go_wp2
            go_region
            go_wp2_with (at_builtin; refine wpList_app_ent rfl _ _ rfl z HO2.out HSZ.out (by omega) rfl rfl rfl ?_; intro a3 n3 cap3 w3 hn3 ho3 hb3; clear hn3)
            have HO3 := hide ho3
            have HB3 := hide (HB.out.drew.drew.trans (hb3.mono (Nat.le_succ _)))
            have HK3 : Hid (Blk5 w3 w.heap.size p) := hide ((show Blk5 wr.drew.drew w.heap.size p from HK.out).later hb3 (Nat.lt_succ_self _))
            clear ho3 hb3 HO HB HK HO2
            go_roundw
            case rel => exact ⟨k + 1, false, a3, n3, cap3, _, by omega, rfl, rfl, by go_num, HE, HO3, HK3, HB3⟩
            case measure => first | (simp [intOf]; done) | (simp [intOf]; omega)
    · obtain rfl : k = n := by omega
      subst hlen
      cases done with
      | true =>
        have HV := hide HS.out.end_yes
        go_wp2
        go_ret
        exact ⟨⟨a', n', c', rfl, by rw [HV.out]; exact HO.out.mono (Nat.le_succ _)⟩, HB.out⟩
      | false =>
        have HV := hide HS.out.end_no
        have HSZ : Hid (w.heap.size + 1 ≤ wr.heap.size) := hide HK.out.lt
        have hol := HS.out.len
        go_wp2_with (at_builtin; refine wpList_app_ent rfl _ _ rfl p HO.out HSZ.out (by omega) rfl rfl rfl ?_; intro a3 n3 cap3 w3 hn3 ho3 hb3; clear hn3)
        have HO3 := hide ho3
        have HB3 := hide (HB.out.trans (hb3.mono (Nat.le_succ _)))
        clear ho3 hb3 HO HB
        go_wp2
        go_ret
        exact ⟨⟨a3, n3, cap3, rfl, by rw [HV.out]; exact HO3.out.mono (Nat.le_succ _)⟩, HB3.out⟩

end Go.Proofs.Ytnckdfidehbcaaa
