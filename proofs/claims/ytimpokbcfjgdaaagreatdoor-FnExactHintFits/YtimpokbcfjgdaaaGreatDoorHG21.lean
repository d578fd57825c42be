/-
  spec.l9Recs, spec.l9Fits and spec.l9Of. spec.DirPut. spec.DirDrop.
-/
import Derived.Test.YtimpokbcfjgdaaaGreatDoorHG19
import Derived.Test.YtimpokbcfjgdaaaGreatDoorHG05
import Derived.Deep.QuietTactic
namespace Go.Proofs.YtimpokbcfjgdaaaGreatDoor
open Go.RowKit
open Plain

theorem Shape.Row.mem {α : Type} {S : Shape α} {w : World} {a : Option Addr} {n : Nat} {xs : List α} (h : S.Row w a n xs) : xs.length = n := h.len
theorem ieq (a b : Int) (h : a = b) : (a == b) = true := by simpa using h
theorem ine (a b : Int) (h : ¬ a = b) : (a == b) = false := by simpa using h
/-- Every text of the places can be, every batch is a number. -/
def PFits (l : List PlaceV) : Prop := ∀ p, p ∈ l → p.r.key.size ≤ maxLen ∧ p.r.val.size ≤ maxLen ∧ (Lit.int .i64 p.r.batch).wf = true
theorem PFits.sub {l m : List PlaceV} (h : PFits l) (hm : ∀ p, p ∈ m → p ∈ l) : PFits m := fun p hp => h p (hm p hp)

set_option maxRecDepth 100000 in
set_option maxHeartbeats 1000000 in
theorem specRecs_any (w : World) (a : Option Addr) (n cap : Nat) (xs : List PlaceV) (hr : plSh.Row w a n xs) (hn : n ≤ 1048576) :
    Calls Tryz.prog 91 #[.slice a n cap] w fun e w' => (∃ a' n' cap', e = .returned (.slice a' n' cap') ∧ recSh.Own 41 w' w.heap.size (.slice a' n' cap') (xs.map PlaceV.r)) ∧ Below w.heap.size w w' := by
  have hlen := hr.len
  have HR := hide hr
  have HO0 := hide (Shape.Own.empty recSh 41 w)
  have HB0 := hide (al1 w (.cells #[] 41))
  clear hr
  go_enter Tryz.func91, Tryz.ntmps91
  go_wp2
  go_loopw [3, 4] (fun v i wr => ∃ (k : Nat) (a' : Option Addr) (n' c' : Nat), k ≤ n ∧ v = .slice a' n' c' ∧ i = .int .i64 k ∧ Hid (recSh.Own 41 wr w.heap.size (.slice a' n' c') ((xs.take k).map PlaceV.r)) ∧ Hid (Below w.heap.size w wr)) (fun _ i _ => n - (intOf i).toNat)
  case atStart => exact ⟨0, _, 0, 0, by omega, rfl, rfl, HO0, HB0⟩
  case round =>
    clear HO0 HB0
    obtain ⟨k, a', n', c', hk, rfl, rfl, HO, HB⟩ := hrel
    by_cases hlt : k < n
    · have hkf : k < xs.length := by omega
      obtain ⟨b, off, rfl, hbw, e0, e1, e2, e3, e4, e5, e6, e7, e8⟩ := pl_cells (HR.out.later HB.out) k hkf
      have HSZ := hide HB.out.size
      have HE : Hid ((xs.take (k + 1)).map PlaceV.r = (xs.take k).map PlaceV.r ++ [(xs[k]).r]) := hide (by rw [take_snoc xs k hkf, List.map_append]; rfl)
      have hl : ((xs.take k).map PlaceV.r).length ≤ 1048576 := by rw [List.length_map, List.length_take]; omega
      obtain ⟨z, hz⟩ : ∃ z, xs[k] = z := ⟨_, rfl⟩
      rw [hz] at e0 e1 e2 e3 e4 e5 e6 e7 e8 HE
      clear hz
      go_wp2_with (at_builtin; refine wpList_app_rec rfl _ _ rfl z.r HO.out HSZ.out (by omega) rfl rfl rfl ?_; intro a3 n3 cap3 w3 hn3 ho3 hb3; clear hn3)
      have HO3 := hide ho3
      have HB3 := hide (HB.out.trans hb3)
      clear ho3 hb3 HO HB
      go_roundw
      case rel => exact ⟨k + 1, a3, n3, cap3, by omega, rfl, by go_num, by rw [HE.out]; exact HO3, HB3⟩
      case measure => first | (simp [intOf]; done) | (simp [intOf]; omega)
    · obtain rfl : k = n := by omega
      have HT : Hid (xs.take k = xs) := hide (List.take_of_length_le (by omega))
      go_wp2
      go_ret
      exact ⟨⟨a', n', c', rfl, by have h := HO.out; rw [HT.out] at h; exact h⟩, HB.out⟩

theorem recs_fit {l : List PlaceV} (h : PFits l) : ∀ i, (hi : i < (l.map PlaceV.r).length) → ((l.map PlaceV.r)[i]).val.size ≤ maxLen := fun i hi => by
  rw [List.getElem_map]
  exact (h _ (List.getElem_mem _)).2.1

set_option maxRecDepth 100000 in
set_option maxHeartbeats 2000000 in
theorem specFits_any (w : World) (a : Option Addr) (n cap : Nat) (xs : List PlaceV) (hr : plSh.Row w a n xs) (hf : PFits xs) (hn : n ≤ 1048576) (r : RecV) :
    Calls Tryz.prog 53 #[.agg #[.int .i64 r.kind, .int .i64 r.batch, .string r.key, .string r.val, .int .i64 r.cnt, .int .i64 r.sum], .slice a n cap] w fun e w' => e = .returned (.bool (fitsP r xs)) ∧ Below w.heap.size w w' := by
  have hlen := hr.len
  have HB0 := hide (al1 w (.cells #[.int .i64 r.kind, .int .i64 r.batch, .string r.key, .string r.val, .int .i64 r.cnt, .int .i64 r.sum] 41))
  by_cases h1 : r.cnt = (n : Int)
  · have t1 := ieq _ _ h1
    have HK : Hid (∀ W, Below (w.alloc (.cells #[.int .i64 r.kind, .int .i64 r.batch, .string r.key, .string r.val, .int .i64 r.cnt, .int .i64 r.sum] 41)).heap.size (w.alloc (.cells #[.int .i64 r.kind, .int .i64 r.batch, .string r.key, .string r.val, .int .i64 r.cnt, .int .i64 r.sum] 41)) W → W.cell? ⟨w.heap.size, 4, none⟩ = some (.int .i64 r.cnt) ∧ W.cell? ⟨w.heap.size, 5, none⟩ = some (.int .i64 r.sum) ∧ Hid (Below (w.alloc (.cells #[.int .i64 r.kind, .int .i64 r.batch, .string r.key, .string r.val, .int .i64 r.cnt, .int .i64 r.sum] 41)).heap.size (w.alloc (.cells #[.int .i64 r.kind, .int .i64 r.batch, .string r.key, .string r.val, .int .i64 r.cnt, .int .i64 r.sum] 41)) W)) := hide (fun W h => by
      have h0 := (h.block w.heap.size (by simp)).trans (heap_alloc_new w _)
      refine ⟨?_, ?_, hide h⟩ <;> rw [cell_of_row _ _ _ _ _ _ h0] <;> rfl)
    have HRS : Hid (∀ W, Below (w.alloc (.cells #[.int .i64 r.kind, .int .i64 r.batch, .string r.key, .string r.val, .int .i64 r.cnt, .int .i64 r.sum] 41)).heap.size (w.alloc (.cells #[.int .i64 r.kind, .int .i64 r.batch, .string r.key, .string r.val, .int .i64 r.cnt, .int .i64 r.sum] 41)) W → _) := hide (fun W (hW : Below (w.alloc (.cells #[.int .i64 r.kind, .int .i64 r.batch, .string r.key, .string r.val, .int .i64 r.cnt, .int .i64 r.sum] 41)).heap.size (w.alloc (.cells #[.int .i64 r.kind, .int .i64 r.batch, .string r.key, .string r.val, .int .i64 r.cnt, .int .i64 r.sum] 41)) W) => specRecs_any W a n cap xs ((hr.later HB0.out).later hW) hn)
    have hml : (xs.map PlaceV.r).length = n := by rw [List.length_map]; exact hlen
    have HSM := hide (fun W a' c' (h : recSh.Row W a' n (xs.map PlaceV.r)) => specSumOf_any W a' n c' (xs.map PlaceV.r) h hn (recs_fit hf))
    have HV : Hid (fitsP r xs = (r.sum == ((crcN (cat (xs.map PlaceV.r)) : Nat) : Int))) := hide (by
      unfold fitsP
      rw [hlen]
      by_cases h2 : r.sum = ((crcN (cat (xs.map PlaceV.r)) : Nat) : Int)
      · rw [ieq _ _ h2]; exact decide_eq_true ⟨h1, h2⟩
      · rw [ine _ _ h2]; exact decide_eq_false (fun q => h2 q.2))
    obtain ⟨W, hW⟩ : ∃ W, W = w.alloc (.cells #[.int .i64 r.kind, .int .i64 r.batch, .string r.key, .string r.val, .int .i64 r.cnt, .int .i64 r.sum] 41) := ⟨_, rfl⟩
    rw [← hW] at HK HRS HB0
    clear h1 hr hf
    generalize crcN (cat (xs.map PlaceV.r)) = c at *
    rw [HV.out]
    go_enter Tryz.func53, Tryz.ntmps53
    go_wp2_with fail
    rw [← hW]
    clear hW
    have S1 := HK.out W.drew (Below.refl _ _).drew
    first
      | (go_region_held3 (fun W' => W'.cell? ⟨w.heap.size, 4, none⟩ = some (.int .i64 r.cnt) ∧ W'.cell? ⟨w.heap.size, 5, none⟩ = some (.int .i64 r.sum) ∧ Hid (Below W.heap.size W W')) (assumption) (first
          | (go_at_call 91; refine (HRS.out W.drew S1.2.2.out).mono ?_; rintro e w2 ⟨⟨a1, n1, c1, rfl, ho1⟩, hb2⟩; have hn1 := ho1.len; rw [hml] at hn1; subst hn1; have hk2 := hide (S1.2.2.out.trans (hb2.mono S1.2.2.out.size)); have hS2 := HK.out w2 hk2.out; have HR2 := hide ho1.row; clear ho1 hb2)
          | (go_at_call 57; refine (HSM.out w2 _ _ HR2.out).mono ?_; rintro e w3 ⟨rfl, hb3⟩; have hk3 := hide (hk2.out.trans (hb3.mono hk2.out.size)); have hS3 := HK.out w3 hk3.out; clear hb3)))
      | fail
    have HB3 := hide (HB0.out.trans (hk3.out.mono HB0.out.size))
    clear hS3 hk3 hS2 hk2 HR2 S1
    go_wp2
    go_ret
    exact ⟨rfl, HB3.out⟩
  · have t1 := ine _ _ h1
    have HV : Hid (fitsP r xs = false) := hide (decide_eq_false (fun h => h1 (by rw [h.1, hlen])))
    clear h1 hr hf
    go_enter Tryz.func53, Tryz.ntmps53
    go_wp2
    go_region
    go_wp2
    go_ret
    exact ⟨by rw [HV.out]; rfl, HB0.out.drew⟩

end Go.Proofs.YtimpokbcfjgdaaaGreatDoor
namespace Go.Proofs.YtimpokbcfjgdaaaGreatDoor
open Go.RowKit
open Plain

set_option maxRecDepth 100000 in
set_option maxHeartbeats 4000000 in
theorem specPut_any (w : World) (a : Option Addr) (n cap : Nat) (xs : List EntV) (p : EntV) (hr : entSh.Row w a n xs) (hn : n ≤ 4194304) :
    Calls Tryz.prog 93 #[.slice a n cap, .agg #[.string p.key, .int .i64 p.seg, .int .i64 p.pos, .int .i64 p.len, .int .i64 p.bat]] w fun e w' => (∃ a' n' cap', e = .returned (.slice a' n' cap') ∧ entSh.Own 71 w' w.heap.size (.slice a' n' cap') (putE xs p)) ∧ Below w.heap.size w w' := by
  have hlen := hr.len
  have HR := hide hr
  clear hr
  obtain ⟨W, hW⟩ : ∃ W, W = w.alloc (.cells #[.string p.key, .int .i64 p.seg, .int .i64 p.pos, .int .i64 p.len, .int .i64 p.bat] 71) := ⟨_, rfl⟩
  have HWS : Hid (W.heap.size = w.heap.size + 1) := hide (by rw [hW]; simp)
  have HK0 : Hid (Blk5 (W.alloc (.cells #[] 71)) w.heap.size p) := hide (by
    have h := Blk5.new w p
    rw [← hW] at h
    exact h.later (al1 W _) h.lt)
  have HO0 : Hid (entSh.Own 71 (W.alloc (.cells #[] 71)) (w.heap.size + 1) (.slice (some ⟨w.heap.size + 1, 0, none⟩) 0 0) []) := hide (by
    have h := Shape.Own.empty entSh 71 W
    rw [HWS.out] at h
    exact h)
  have HB0 : Hid (Below w.heap.size w (W.alloc (.cells #[] 71))) := hide (by rw [hW]; exact al2 w _ _)
  go_enter Tryz.func93, Tryz.ntmps93
  go_wp2_with fail
  rw [← hW]
  clear hW
  go_loopw [5, 6, 7] (fun v d i wr => ∃ (k : Nat) (done : Bool) (a' : Option Addr) (n' c' : Nat) (out : List EntV), k ≤ n ∧ v = .slice a' n' c' ∧ d = .bool done ∧ i = .int .i64 k ∧ Hid (PutSt xs p k done out) ∧ Hid (entSh.Own 71 wr (w.heap.size + 1) (.slice a' n' c') out) ∧ Hid (Blk5 wr w.heap.size p) ∧ Hid (Below w.heap.size w wr)) (fun _ _ i _ => n - (intOf i).toNat)
  case atStart => exact ⟨0, false, _, 0, 0, [], by omega, rfl, rfl, rfl, hide (PutSt.start _ _), HO0, HK0, HB0⟩
  case round =>
    clear HO0 HB0 HK0
    obtain ⟨k, done, a', n', c', out, hk, rfl, rfl, rfl, HS, HO, HK, HB⟩ := hrel
    obtain ⟨y0, y1, y2, y3, y4, -⟩ := cells5 HK.out
    by_cases hlt : k < n
    · have hkf : k < xs.length := by omega
      obtain ⟨b, off, rfl, hbw, e0, e1, e2, e3, e4⟩ := ent_cells (HR.out.later HB.out) k hkf
      have HSZ : Hid (w.heap.size + 1 ≤ wr.heap.size) := hide HK.out.lt
      have hol := HS.out.len
      have hk2 : (k : Int) < (n : Int) := by omega
      by_cases hq : (xs[k]).key = p.key
      · have t1 := str_eq _ _ hq
        have HE := hide (HS.out.same hkf hq)
        clear hq
        go_wp2
        go_region
        all_goals
          go_wp2
          go_roundw
          case rel => exact ⟨k + 1, done, a', n', c', out, by omega, rfl, rfl, by go_num, HE, HO, HK, hide HB.out.drew⟩
          case measure => first | (simp [intOf]; done) | (simp [intOf]; omega)
      · have t1 := str_ne _ _ hq
        cases done with
        | true =>
          have HE := hide (HS.out.on hkf hq)
          obtain ⟨z, hz⟩ : ∃ z, xs[k] = z := ⟨_, rfl⟩
          rw [hz] at e0 e1 e2 e3 e4 t1 HE
          clear hq hz
          have HO2 : Hid (entSh.Own 71 wr.drew.drew (w.heap.size + 1) (.slice a' n' c') out) := hide HO.out
          go_wp2
          go_region
          go_wp2
          go_region
          go_wp2_with (at_builtin; refine wpList_app_ent rfl _ _ rfl z HO2.out HSZ.out (by omega) rfl rfl rfl ?_; intro a3 n3 cap3 w3 hn3 ho3 hb3; clear hn3)
          have HO3 := hide ho3
          have HB3 := hide (HB.out.drew.drew.trans (hb3.mono (Nat.le_succ _)))
          have HK3 : Hid (Blk5 w3 w.heap.size p) := hide ((show Blk5 wr.drew.drew w.heap.size p from HK.out).later hb3 (Nat.lt_succ_self _))
          clear ho3 hb3 HO HB HK HO2
          go_roundw
          case rel => exact ⟨k + 1, true, a3, n3, cap3, _, by omega, rfl, rfl, by go_num, HE, HO3, HK3, HB3⟩
          case measure => first | (simp [intOf]; done) | (simp [intOf]; omega)
        | false =>
          by_cases hg : klt p.key (xs[k]).key = true
          · have HE := hide (HS.out.gt hkf hq hg)
            obtain ⟨z, hz⟩ : ∃ z, xs[k] = z := ⟨_, rfl⟩
            have HZ := hide hz
            rw [hz] at e0 e1 e2 e3 e4 t1 HE hg
            have t2 : Op.bytesLess z.key.toList p.key.toList = false := klt_asymm hg
            clear hq hz hg
            have HO2 : Hid (entSh.Own 71 wr.drew.drew (w.heap.size + 1) (.slice a' n' c') out) := hide HO.out
            go_wp2
            go_region
            go_wp2
            go_region
            go_wp2_with (at_builtin; first
              | (refine wpList_app_ent rfl _ _ rfl z HO3.out HSZ3.out (by simp; omega) rfl rfl rfl ?_; intro a4 n4 cap4 w4 hn4 ho4 hb4; clear hn4)
              | (refine wpList_app_ent rfl _ _ rfl p HO2.out HSZ.out (by omega) rfl rfl rfl ?_; intro a3 n3 cap3 w3 hn3 ho3 hb3; clear hn3; have HO3 := hide ho3; have HB3 := hide (HB.out.drew.drew.trans (hb3.mono (Nat.le_succ _))); have HK3 : Hid (Blk5 w3 w.heap.size p) := hide ((show Blk5 wr.drew.drew w.heap.size p from HK.out).later hb3 (Nat.lt_succ_self _)); have HSZ3 : Hid (w.heap.size + 1 ≤ w3.heap.size) := hide HK3.out.lt; have hbw3 : b < w3.heap.size := Nat.lt_of_lt_of_le hbw hb3.size; clear ho3 hb3 HO2 HO; obtain ⟨b', off', q0, -, g0, g1, g2, g3, g4⟩ := ent_cells (HR.out.later HB3.out) k hkf; rw [HZ.out] at g0 g1 g2 g3 g4; simp only [Option.some.injEq, Addr.mk.injEq] at q0; obtain ⟨rfl, rfl, -⟩ := q0))
            have HO4 := hide ho4
            have HB4 := hide (HB3.out.trans (hb4.mono (Nat.le_succ _)))
            have HK4 := hide (HK3.out.later hb4 (Nat.lt_succ_self _))
            clear ho4 hb4 HO3 HB3 HK3 HB HK
            go_roundw
            case rel => exact ⟨k + 1, true, a4, n4, cap4, _, by omega, rfl, rfl, by go_num, HE, HO4, HK4, HB4⟩
            case measure => first | (simp [intOf]; done) | (simp [intOf]; omega)
          · have hg' : klt p.key (xs[k]).key = false := by simpa using hg
            have HE := hide (HS.out.le hkf hq hg')
            obtain ⟨z, hz⟩ : ∃ z, xs[k] = z := ⟨_, rfl⟩
            rw [hz] at e0 e1 e2 e3 e4 t1 HE hg' hq
            have t2 : Op.bytesLess z.key.toList p.key.toList = true := klt_other hg' hq
            clear hq hz hg hg'
            have HO2 : Hid (entSh.Own 71 wr.drew.drew (w.heap.size + 1) (.slice a' n' c') out) := hide HO.out
            go_wp2
            go_region
            go_wp2
            go_region
            go_wp2_with (at_builtin; refine wpList_app_ent rfl _ _ rfl z HO2.out HSZ.out (by omega) rfl rfl rfl ?_; intro a3 n3 cap3 w3 hn3 ho3 hb3; clear hn3)
            have HO3 := hide ho3
            have HB3 := hide (HB.out.drew.drew.trans (hb3.mono (Nat.le_succ _)))
            have HK3 : Hid (Blk5 w3 w.heap.size p) := hide ((show Blk5 wr.drew.drew w.heap.size p from HK.out).later hb3 (Nat.lt_succ_self _))
            clear ho3 hb3 HO HB HK HO2
            go_roundw
            case rel => exact ⟨k + 1, false, a3, n3, cap3, _, by omega, rfl, rfl, by go_num, HE, HO3, HK3, HB3⟩
            case measure => first | (simp [intOf]; done) | (simp [intOf]; omega)
    · obtain rfl : k = n := by omega
      subst hlen
      cases done with
      | true =>
        have HV := hide HS.out.end_yes
        go_wp2
        go_ret
        exact ⟨⟨a', n', c', rfl, by rw [HV.out]; exact HO.out.mono (Nat.le_succ _)⟩, HB.out⟩
      | false =>
        have HV := hide HS.out.end_no
        have HSZ : Hid (w.heap.size + 1 ≤ wr.heap.size) := hide HK.out.lt
        have hol := HS.out.len
        go_wp2_with (at_builtin; refine wpList_app_ent rfl _ _ rfl p HO.out HSZ.out (by omega) rfl rfl rfl ?_; intro a3 n3 cap3 w3 hn3 ho3 hb3; clear hn3)
        have HO3 := hide ho3
        have HB3 := hide (HB.out.trans (hb3.mono (Nat.le_succ _)))
        clear ho3 hb3 HO HB
        go_wp2
        go_ret
        exact ⟨⟨a3, n3, cap3, rfl, by rw [HV.out]; exact HO3.out.mono (Nat.le_succ _)⟩, HB3.out⟩

end Go.Proofs.YtimpokbcfjgdaaaGreatDoor
namespace Go.Proofs.YtimpokbcfjgdaaaGreatDoor
open Go.RowKit
open Plain

set_option maxRecDepth 100000 in
set_option maxHeartbeats 1000000 in
theorem specDrop_any (w : World) (a : Option Addr) (n cap : Nat) (xs : List EntV) (key : ByteArray) (hr : entSh.Row w a n xs) (hn : n ≤ 4194304) :
    Calls Tryz.prog 92 #[.slice a n cap, .string key] w fun e w' => (∃ a' n' cap', e = .returned (.slice a' n' cap') ∧ entSh.Own 71 w' w.heap.size (.slice a' n' cap') (dropE xs key)) ∧ Below w.heap.size w w' := by
  have hlen := hr.len
  have HR := hide hr
  have HO0 := hide (Shape.Own.empty entSh 71 w)
  have HB0 := hide (al1 w (.cells #[] 71))
  clear hr
  go_enter Tryz.func92, Tryz.ntmps92
  go_wp2
  go_loopw [5, 6] (fun v i wr => ∃ (k : Nat) (a' : Option Addr) (n' c' : Nat), k ≤ n ∧ v = .slice a' n' c' ∧ i = .int .i64 k ∧ Hid (entSh.Own 71 wr w.heap.size (.slice a' n' c') (dropE (xs.take k) key)) ∧ Hid (Below w.heap.size w wr)) (fun _ i _ => n - (intOf i).toNat)
  case atStart => exact ⟨0, _, 0, 0, by omega, rfl, rfl, HO0, HB0⟩
  case round =>
    clear HO0 HB0
    obtain ⟨k, a', n', c', hk, rfl, rfl, HO, HB⟩ := hrel
    by_cases hlt : k < n
    · have hkf : k < xs.length := by omega
      obtain ⟨b, off, rfl, hbw, e0, e1, e2, e3, e4⟩ := ent_cells (HR.out.later HB.out) k hkf
      have hl := dropE_len (xs.take k) key
      rw [List.length_take] at hl
      have HSZ := hide HB.out.size
      by_cases hq : (xs[k]).key = key
      · have t1 := str_eq _ _ hq
        have HE := hide (dropE_succ_eq xs key k hkf hq)
        clear hq
        go_wp2
        go_roundw
        case rel => exact ⟨k + 1, a', n', c', by omega, rfl, by go_num, by rw [HE.out]; exact HO, HB⟩
        case measure => first | (simp [intOf]; done) | (simp [intOf]; omega)
      · have t1 := str_ne _ _ hq
        have HE := hide (dropE_succ_ne xs key k hkf hq)
        clear hq
        obtain ⟨z, hz⟩ : ∃ z, xs[k] = z := ⟨_, rfl⟩
        rw [hz] at e0 e1 e2 e3 e4 t1 HE
        clear hz
        go_wp2_with (at_builtin; refine wpList_app_ent rfl _ _ rfl z HO.out HSZ.out (by omega) rfl rfl rfl ?_; intro a3 n3 cap3 w3 hn3 ho3 hb3; clear hn3)
        have HO3 := hide ho3
        have HB3 := hide (HB.out.trans hb3)
        clear ho3 hb3 HO HB
        go_roundw
        case rel => exact ⟨k + 1, a3, n3, cap3, by omega, rfl, by go_num, by rw [HE.out]; exact HO3, HB3⟩
        case measure => first | (simp [intOf]; done) | (simp [intOf]; omega)
    · obtain rfl : k = n := by omega
      have HT : Hid (xs.take k = xs) := hide (List.take_of_length_le (by omega))
      go_wp2
      go_ret
      exact ⟨⟨a', n', c', rfl, by have h := HO.out; rw [HT.out] at h; exact h⟩, HB.out⟩

end Go.Proofs.YtimpokbcfjgdaaaGreatDoor
