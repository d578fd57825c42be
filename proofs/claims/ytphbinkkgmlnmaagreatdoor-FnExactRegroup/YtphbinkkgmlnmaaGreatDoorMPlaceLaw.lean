/-
  What the laws' szPlace, szPlaceS, toPlace, toPlaceS, eqPlace and eqPlaceS answer; a slice of places that comes in as an argument.
-/
import Derived.Test.YtphbinkkgmlnmaaGreatDoorG11
import Derived.Test.YtphbinkkgmlnmaaGreatDoorMLawRecBase
import Derived.Deep.RegionHeld3
namespace Go.Proofs.YtphbinkkgmlnmaaGreatDoor
open Go.RowKit Go.Deep
open Plain

def szP (p : PlaceV) : Nat := szR p.r
def szPs : List PlaceV → Nat
  | [] => 0
  | r :: l => szP r + szPs l
theorem szPs_append (l m : List PlaceV) : szPs (l ++ m) = szPs l + szPs m := by
  induction l with
  | nil => simp [szPs]
  | cons r l ih => rw [List.cons_append, szPs, szPs, ih]; omega
theorem szPs_take_succ (l : List PlaceV) (k : Nat) (h : k < l.length) : szPs (l.take (k + 1)) = szPs (l.take k) + szP (l[k]) := by
  rw [List.take_succ_eq_append_getElem h, szPs_append]
  simp [szPs]
theorem szPs_take_le (l : List PlaceV) (k : Nat) : szPs (l.take k) ≤ szPs l := by
  have := szPs_append (l.take k) (l.drop k)
  rw [List.take_append_drop] at this
  omega
theorem szPs_mem (l : List PlaceV) (k : Nat) (h : k < l.length) : szP (l[k]) ≤ szPs l := by
  have := szPs_take_succ l k h
  have := szPs_take_le l (k + 1)
  omega
theorem PFits.at {l : List PlaceV} (h : PFits l) (k : Nat) (hk : k < l.length) : (l[k]).r.key.size ≤ maxLen ∧ (l[k]).r.val.size ≤ maxLen := ⟨(h _ (List.getElem_mem hk)).1, (h _ (List.getElem_mem hk)).2.1⟩

set_option maxRecDepth 100000 in
set_option maxHeartbeats 1000000 in
theorem szPlace_any (p : PlaceV) (l : Int) (h0 : 0 ≤ l) (h1 : l ≤ 1048576) (hn : p.r.key.size ≤ maxLen) (ht : p.r.val.size ≤ maxLen) (w : World) :
    Calls Tryz.prog 33 #[.agg #[.int .i64 p.seg, .int .i64 p.pos, .int .i64 p.len, .int .i64 p.r.kind, .int .i64 p.r.batch, .string p.r.key, .string p.r.val, .int .i64 p.r.cnt, .int .i64 p.r.sum], .int .i64 l] w fun e w' => e = .returned (.int .i64 (lessR l (szP p : Int))) ∧ Below w.heap.size w w' := by
  have HS := hide (szRec_any p.r l h0 h1 hn ht)
  have HB0 := hide (al1 w (.cells #[.int .i64 p.seg, .int .i64 p.pos, .int .i64 p.len, .int .i64 p.r.kind, .int .i64 p.r.batch, .string p.r.key, .string p.r.val, .int .i64 p.r.cnt, .int .i64 p.r.sum] 74))
  obtain ⟨v, hv⟩ : ∃ v, lessR l (szR p.r : Int) = v := ⟨_, rfl⟩
  have HV : Hid (lessR l (szP p : Int) = v) := hide hv
  have hsz : 0 ≤ v ∨ v = -1 := by rw [← hv]; unfold lessR; split <;> omega
  rw [hv] at HS
  rw [HV.out]
  clear hn ht hv HV
  by_cases c1 : v < 0
  · have t1 : decide (v < 0) = true := by simpa using c1
    have HE : Hid (v = -1) := hide (by omega)
    clear hsz c1
    go_enter Tryz.func33, Tryz.ntmps33
    go_wp2_with fail
    refine (HS.out _).mono ?_
    rintro e w1 ⟨rfl, hb1⟩
    have HB1 := hide (HB0.out.trans (hb1.mono HB0.out.size))
    clear hb1 HS
    go_wp2
    go_ret
    exact ⟨by rw [HE.out]; rfl, HB1.out⟩
  · have t1 : decide (v < 0) = false := by simpa using c1
    clear hsz c1
    go_enter Tryz.func33, Tryz.ntmps33
    go_wp2_with fail
    refine (HS.out _).mono ?_
    rintro e w1 ⟨rfl, hb1⟩
    have HB1 := hide (HB0.out.trans (hb1.mono HB0.out.size))
    clear hb1 HS
    go_wp2
    go_ret
    exact ⟨rfl, HB1.out⟩

set_option maxRecDepth 100000 in
set_option maxHeartbeats 1000000 in
theorem szPlaceS_any (w : World) (a : Option Addr) (len cap : Nat) (fs : List PlaceV) (hr : plSh.Row w a len fs) (hf : PFits fs) (hl : len ≤ maxLen) (l : Int) (h0 : 0 ≤ l) (h1 : l ≤ 1048576) :
    Calls Tryz.prog 13 #[.slice a len cap, .int .i64 l] w fun e w' => e = .returned (.int .i64 (lessR l (len + szPs fs : Nat))) ∧ Below w.heap.size w w' := by
  unfold maxLen at hl
  have HR := hide hr
  have HF := hide hf
  have hlen := hr.len
  clear hr hf
  by_cases c1 : l - (len : Int) < 0
  · have HV := hide (lessR_no (l := l) (n := ((len + szPs fs : Nat) : Int)) (by omega))
    go_enter Tryz.func13, Tryz.ntmps13
    go_wp2
    go_ret
    exact ⟨by rw [HV.out]; rfl, Below.refl _ _⟩
  · go_enter Tryz.func13, Tryz.ntmps13
    go_wp2
    go_loopw [1, 5] (fun v i wr => ∃ k : Nat, k ≤ len ∧ i = .int .i64 k ∧ v = .int .i64 (l - (len : Int) - (szPs (fs.take k) : Int)) ∧ (szPs (fs.take k) : Int) ≤ l - (len : Int) ∧ Hid (Below w.heap.size w wr)) (fun _ i _ => len - (intOf i).toNat)
    case atStart => exact ⟨0, by omega, rfl, by simp [szPs], by simp [szPs]; omega, hide (Below.refl _ _)⟩
    case round =>
      obtain ⟨k, hk, rfl, rfl, hle, HB⟩ := hrel
      by_cases hlt : k < len
      · have hkf : k < fs.length := by omega
        obtain ⟨b, off, rfl, hbw, e1, e2, e3, e4, e5, e6, e7, e8, e9⟩ := pl_cells (HR.out.later HB.out) k hkf
        have hfit := HF.out.at k hkf
        have hst := szPs_take_succ fs k hkf
        have HLE := hide (szPs_take_le fs (k + 1))
        generalize szPs (fs.take k) = S at *
        go_wp2_with fail
        refine (szPlace_any (fs[k]) (l - (len : Int) - (S : Int)) (by omega) (by omega) hfit.1 hfit.2 wr).mono ?_
        rintro e w2 ⟨rfl, hb2⟩
        have HB2 := hide (HB.out.trans (hb2.mono HB.out.size))
        clear hb2 e1 e2 e3 e4 e5 e6 e7 e8 e9 HB
        by_cases c2 : (szP (fs[k]) : Int) ≤ l - (len : Int) - (S : Int)
        · rw [lessR_yes c2]
          have HS2 : Hid (l - (len : Int) - (S : Int) - (szP (fs[k]) : Int) = l - (len : Int) - (szPs (fs.take (k + 1)) : Int)) := hide (by omega)
          have hle2 : (szPs (fs.take (k + 1)) : Int) ≤ l - (len : Int) := by omega
          clear hst HLE
          generalize szP (fs[k]) = sf at *
          go_wp2
          go_roundw
          case rel => exact ⟨k + 1, by omega, by go_num, by rw [HS2.out], by omega, HB2⟩
          case measure => first | (simp [intOf]; done) | (simp [intOf]; omega)
        · rw [lessR_no (by omega)]
          have HV := hide (lessR_no (l := l) (n := ((len + szPs fs : Nat) : Int)) (by have := HLE.out; omega))
          clear hst HLE
          go_wp2
          go_ret
          exact ⟨by rw [HV.out]; rfl, HB2.out⟩
      · obtain rfl : k = len := by omega
        rw [List.take_of_length_le (by omega)] at hle ⊢
        have HV : Hid (lessR l ((k + szPs fs : Nat) : Int) = l - (k : Int) - (szPs fs : Int)) := hide (by rw [lessR_yes (by omega)]; omega)
        go_wp2
        go_ret
        exact ⟨by rw [HV.out]; rfl, HB.out⟩

set_option maxRecDepth 100000 in
set_option maxHeartbeats 1000000 in
theorem toPlace_any (p : PlaceV) : Ans 35 #[.agg #[.int .i64 p.seg, .int .i64 p.pos, .int .i64 p.len, .int .i64 p.r.kind, .int .i64 p.r.batch, .string p.r.key, .string p.r.val, .int .i64 p.r.cnt, .int .i64 p.r.sum]] (.agg #[.int .i64 p.seg, .int .i64 p.pos, .int .i64 p.len, .int .i64 p.r.kind, .int .i64 p.r.batch, .string p.r.key, .string p.r.val, .int .i64 p.r.cnt, .int .i64 p.r.sum]) := by
  intro w
  have HS := hide (toRec_any p.r)
  obtain ⟨W, hW⟩ : ∃ W, W = ((w.alloc (.cells #[.int .i64 p.seg, .int .i64 p.pos, .int .i64 p.len, .int .i64 p.r.kind, .int .i64 p.r.batch, .string p.r.key, .string p.r.val, .int .i64 p.r.cnt, .int .i64 p.r.sum] 74)).alloc (.cells #[.int .i64 0, .int .i64 0, .int .i64 0, .int .i64 0, .int .i64 0, .string ⟨#[]⟩, .string ⟨#[]⟩, .int .i64 0, .int .i64 0] 37)).alloc (.cells #[.int .i64 p.seg, .int .i64 p.pos, .int .i64 p.len, .int .i64 0, .int .i64 0, .string ⟨#[]⟩, .string ⟨#[]⟩, .int .i64 0, .int .i64 0] 37) := ⟨_, rfl⟩
  have HB0 : Hid (Below w.heap.size w W) := hide (by rw [hW]; exact al3 w _ _ _)
  have HRS : Hid (W.heap[w.heap.size + 1]? = some (.cells #[.int .i64 0, .int .i64 0, .int .i64 0, .int .i64 0, .int .i64 0, .string ⟨#[]⟩, .string ⟨#[]⟩, .int .i64 0, .int .i64 0] 37 (0, 0))) := hide (by
    rw [hW, Below.heap_alloc _ _ _ (by simp)]
    have h := heap_alloc_new (w.alloc (.cells #[.int .i64 p.seg, .int .i64 p.pos, .int .i64 p.len, .int .i64 p.r.kind, .int .i64 p.r.batch, .string p.r.key, .string p.r.val, .int .i64 p.r.cnt, .int .i64 p.r.sum] 74)) (.cells #[.int .i64 0, .int .i64 0, .int .i64 0, .int .i64 0, .int .i64 0, .string ⟨#[]⟩, .string ⟨#[]⟩, .int .i64 0, .int .i64 0] 37)
    rw [World.size_alloc] at h
    exact h)
  have HOU : Hid (W.heap[w.heap.size + 1 + 1]? = some (.cells #[.int .i64 p.seg, .int .i64 p.pos, .int .i64 p.len, .int .i64 0, .int .i64 0, .string ⟨#[]⟩, .string ⟨#[]⟩, .int .i64 0, .int .i64 0] 37 (0, 0))) := hide (by
    rw [hW]
    have h := heap_alloc_new ((w.alloc (.cells #[.int .i64 p.seg, .int .i64 p.pos, .int .i64 p.len, .int .i64 p.r.kind, .int .i64 p.r.batch, .string p.r.key, .string p.r.val, .int .i64 p.r.cnt, .int .i64 p.r.sum] 74)).alloc (.cells #[.int .i64 0, .int .i64 0, .int .i64 0, .int .i64 0, .int .i64 0, .string ⟨#[]⟩, .string ⟨#[]⟩, .int .i64 0, .int .i64 0] 37)) (.cells #[.int .i64 p.seg, .int .i64 p.pos, .int .i64 p.len, .int .i64 0, .int .i64 0, .string ⟨#[]⟩, .string ⟨#[]⟩, .int .i64 0, .int .i64 0] 37)
    rw [World.size_alloc, World.size_alloc] at h
    exact h)
  go_enter Tryz.func35, Tryz.ntmps35
  go_wp2_with fail
  rw [← hW]
  clear hW
  refine (HS.out W).mono ?_
  rintro e w1 ⟨rfl, hb1⟩
  have HB1 := hide (HB0.out.trans (hb1.mono HB0.out.size))
  have hrs := (hb1.block _ (Array.getElem?_eq_some_iff.1 HRS.out).1).trans HRS.out
  have hou := (hb1.block _ (Array.getElem?_eq_some_iff.1 HOU.out).1).trans HOU.out
  obtain ⟨x0, x1, x2, x3, x4, x5, x6, x7, x8⟩ := cells9 hrs
  obtain ⟨y0, y1, y2, y3, y4, y5, y6, y7, y8⟩ := cells9 hou
  have fz1 : ∀ j, w1.frozen? ⟨w.heap.size + 1, j, none⟩ = false := fun j => by simp [World.frozen?, hrs]
  have fz2 : ∀ j, w1.frozen? ⟨w.heap.size + 1 + 1, j, none⟩ = false := fun j => by simp [World.frozen?, hou]
  clear hb1 HS HB0 HRS HOU hrs hou
  go_wp2
  refine bodyPost_ret (v := .agg #[.int .i64 p.seg, .int .i64 p.pos, .int .i64 p.len, .int .i64 p.r.kind, .int .i64 p.r.batch, .string p.r.key, .string p.r.val, .int .i64 p.r.cnt, .int .i64 p.r.sum]) (by simp [results, Tryz.results35, go_sem, *]) rfl ⟨rfl, ?_⟩
  iterate 15 (refine Below.setCell ?_ (by dsimp only; omega) _)
  exact HB1.out

set_option maxRecDepth 100000 in
set_option maxHeartbeats 1000000 in
theorem toPlaceS_any (w : World) (a : Option Addr) (len cap : Nat) (fs : List PlaceV) (hr : plSh.Row w a len fs) (hl : len ≤ 1048576) :
    Calls Tryz.prog 15 #[.slice a len cap] w fun e w' => e = .returned (.slice (some ⟨w.heap.size, 0, none⟩) len len) ∧ plSh.Own 37 w' w.heap.size (.slice (some ⟨w.heap.size, 0, none⟩) len len) fs ∧ Below w.heap.size w w' := by
  have HR := hide hr
  have hlen := hr.len
  clear hr
  obtain ⟨i0, hi, hz0, hz1, hz2⟩ := info_parts Tryz.infoPlace
  obtain ⟨w1, hmk, hown, hgrow⟩ := run_make_full (P := Tryz.prog) w w.heap.size 27 37 i0 _ 9 Tryz.underlying27 hi hz0 hz1 .i64 .i64 len (by rw [hz2]; omega) (by unfold maxLen; omega) (Nat.le_refl _)
  have HB1 := hide ((Below.refl w.heap.size w).grown hgrow (Nat.le_refl _) (by intro k h; cases h))
  have HO1 : Hid (plSh.Own 37 w1 w.heap.size (.slice (some ⟨w.heap.size, 0, none⟩) len len) (List.replicate len zeroP)) := hide (by
    unfold Shape.Own
    rw [List.length_replicate, plSh.flat_made]
    exact hown)
  clear hown hgrow hi hz0 hz1 hz2
  go_enter Tryz.func15, Tryz.ntmps15
  go_wp2
  go_loopw [4] (fun i wr => ∃ (k : Nat) (gs : List PlaceV), k ≤ len ∧ i = .int .i64 k ∧ Hid (gs.length = len ∧ gs.take k = fs.take k) ∧ Hid (plSh.Own 37 wr w.heap.size (.slice (some ⟨w.heap.size, 0, none⟩) len len) gs) ∧ Hid (Below w.heap.size w wr)) (fun i _ => len - (intOf i).toNat)
  case atStart => exact ⟨0, _, by omega, rfl, hide (by simp), HO1, HB1⟩
  case round =>
    clear hmk HO1 HB1
    obtain ⟨k, gs, hk, rfl, HG, HO, HB⟩ := hrel
    by_cases hlt : k < len
    · have hkf : k < fs.length := by omega
      obtain ⟨b, off, rfl, hbw, e1, e2, e3, e4, e5, e6, e7, e8, e9⟩ := pl_cells (HR.out.later HB.out) k hkf
      go_wp2_with fail
      refine (toPlace_any (fs[k]) wr).mono ?_
      rintro e w2 ⟨rfl, hb2⟩
      have HO2 := hide (HO.out.later hb2 (Nat.le_refl _))
      have HB2 := hide (HB.out.trans (hb2.mono HB.out.size))
      have HP := hide (HO2.out.put k (fs[k]) hlt)
      have f1 := HO2.out.frz (k * 9)
      have f2 := HO2.out.frz (k * 9 + 1)
      have f3 := HO2.out.frz (k * 9 + 2)
      have f4 := HO2.out.frz (k * 9 + 3)
      have f5 := HO2.out.frz (k * 9 + 4)
      have f6 := HO2.out.frz (k * 9 + 5)
      have f7 := HO2.out.frz (k * 9 + 6)
      have f8 := HO2.out.frz (k * 9 + 7)
      have f9 := HO2.out.frz (k * 9 + 8)
      obtain ⟨b', o', q0, -, q1, q2, q3, q4, q5, q6, q7, q8, q9⟩ := pl_cells HO2.out.row k (by rw [HO2.out.len]; omega)
      simp only [Option.some.injEq, Addr.mk.injEq] at q0
      obtain ⟨rfl, rfl, -⟩ := q0
      rw [Nat.zero_add] at q1 q2 q3 q4 q5 q6 q7 q8 q9
      clear hb2 e1 e2 e3 e4 e5 e6 e7 e8 e9 HB HO
      have HG2 : Hid ((gs.set k (fs[k])).length = len ∧ (gs.set k (fs[k])).take (k + 1) = fs.take (k + 1)) := hide ⟨by rw [List.length_set]; exact HG.out.1, take_set_succ' gs fs k hkf (by have := HG.out.1; omega) HG.out.2⟩
      have HB3 := hide (HB2.out.grown HP.out.2 HB2.out.size (by intro j h; injection h with h; omega))
      clear HB2 HG
      go_wp2
      go_roundw
      case rel => exact ⟨k + 1, gs.set k (fs[k]), by omega, by go_num, HG2, hide HP.out.1, HB3⟩
      case measure => first | (simp [intOf]; done) | (simp [intOf]; omega)
    · obtain rfl : k = len := by omega
      have HE : Hid (gs = fs) := hide (by
        have h := HG.out
        rw [List.take_of_length_le (by omega), List.take_of_length_le (by omega)] at h
        exact h.2)
      clear HG
      go_wp2
      go_ret
      exact ⟨rfl, by rw [← HE.out]; exact HO.out, HB.out⟩

set_option maxRecDepth 100000 in
set_option maxHeartbeats 1000000 in
theorem eqPlace_same (p : PlaceV) : Ans 37 #[.agg #[.int .i64 p.seg, .int .i64 p.pos, .int .i64 p.len, .int .i64 p.r.kind, .int .i64 p.r.batch, .string p.r.key, .string p.r.val, .int .i64 p.r.cnt, .int .i64 p.r.sum], .agg #[.int .i64 p.seg, .int .i64 p.pos, .int .i64 p.len, .int .i64 p.r.kind, .int .i64 p.r.batch, .string p.r.key, .string p.r.val, .int .i64 p.r.cnt, .int .i64 p.r.sum]] (.bool true) := by
  intro w
  have HE := hide (eqRec_any p.r.kind p.r.batch p.r.key p.r.val p.r.cnt p.r.sum p.r.kind p.r.batch p.r.key p.r.val p.r.cnt p.r.sum)
  rw [eqN_yes ⟨rfl, rfl, rfl, rfl, rfl, rfl⟩] at HE
  have t1 : (p.seg != p.seg) = false := by simp
  have t2 : (p.pos != p.pos) = false := by simp
  have t3 : (p.len != p.len) = false := by simp
  go_enter Tryz.func37, Tryz.ntmps37
  go_wp2_with fail
  refine (HE.out _).mono ?_
  rintro e w1 ⟨rfl, hb1⟩
  have HB := hide ((al2 w _ _).trans (hb1.mono (al2 w _ _).size))
  clear hb1 HE
  go_wp2
  go_ret
  exact ⟨rfl, HB.out⟩

set_option maxRecDepth 100000 in
set_option maxHeartbeats 4000000 in
theorem eqPlaceS_same (w : World) (a b : Option Addr) (n cap cap' : Nat) (xs : List PlaceV) (ha : plSh.Row w a n xs) (hb : plSh.Row w b n xs) (hn : n ≤ 1048576) :
    Calls Tryz.prog 17 #[.slice a n cap, .slice b n cap'] w fun e w' => e = .returned (.bool true) ∧ Below w.heap.size w w' := by
  have HA := hide ha
  have HB := hide hb
  have HLN := hide ha.len
  clear ha hb
  go_enter Tryz.func17, Tryz.ntmps17
  go_wp2
  go_loopw [5] (fun x wr => ∃ k : Nat, k ≤ n ∧ x = .int .i64 k ∧ Hid (Below w.heap.size w wr)) (fun x _ => n - (intOf x).toNat)
  case atStart => exact ⟨0, by omega, rfl, hide (Below.refl _ _)⟩
  case round =>
    obtain ⟨k, hk, rfl, HW⟩ := hrel
    by_cases hlt : k < n
    · have hkx : k < xs.length := by have := HLN.out; omega
      obtain ⟨b1, o1, rfl, hb1, c0, c1, c2, c3, c4, c5, c6, c7, c8⟩ := pl_cells (HA.out.later HW.out) k hkx
      obtain ⟨b2, o2, rfl, hb2, d0, d1, d2, d3, d4, d5, d6, d7, d8⟩ := pl_cells (HB.out.later HW.out) k hkx
      have HE := hide (eqPlace_same (xs[k]))
      have hk2 : (k : Int) < (n : Int) := by omega
      go_wp2_with fail
      go_region_with (go_at_call 37; refine (HE.out _).mono ?_; rintro e w1 ⟨rfl, hb1⟩)
      all_goals
        have HW1 := hide (HW.out.trans (((Below.refl _ _).drew.trans hb1).mono HW.out.size))
        clear hb1 HW HE c0 c1 c2 c3 c4 c5 c6 c7 c8 d0 d1 d2 d3 d4 d5 d6 d7 d8
        go_wp2
        go_roundw
        case rel => exact ⟨k + 1, by omega, by go_num, HW1⟩
        case measure => first | (simp [intOf]; done) | (simp [intOf]; omega)
    · obtain rfl : k = n := by omega
      go_wp2
      go_ret
      exact ⟨rfl, HW.out⟩

theorem cellsLP : Tryz.prog.cellsOf 74 = 9 := by kernel_rfl
section
variable {H : Type} {enc : TypeId × Value → H} {w : World} {base : Nat} {spare : Nat → Bool} {held : Bool}
set_option maxRecDepth 100000 in
/-- The place itself. -/
theorem open_place {fuel : Nat} {cs : List Value} {x : DataW H × List MemPlace} (h : DataW.trod enc Tryz.prog w base spare held fuel 74 cs = some x) :
    ∃ p : PlaceV, cs = plSh.cells p ∧ p.r.key.size ≤ maxLen ∧ p.r.val.size ≤ maxLen ∧ (Lit.int .i64 p.r.batch).wf = true := by
  obtain ⟨xs, n, _, _, hl, hlen, hf⟩ := DataW.trod_struct Tryz.underlying74 h
  rw [cellsLP] at hl
  match xs, hlen, cs, hl with
  | [y0, y1, y2, y3], _, [v0, v1, v2, v3, v4, v5, v6, v7, v8], _ =>
    obtain ⟨a, e0, _, z0⟩ := DataW.trod_int Tryz.underlying3 (by simpa using hf 0 _ rfl)
    obtain ⟨b, e1, _, z1⟩ := DataW.trod_int Tryz.underlying3 (by simpa using hf 1 _ rfl)
    obtain ⟨c, e2, _, z2⟩ := DataW.trod_int Tryz.underlying3 (by simpa using hf 2 _ rfl)
    obtain ⟨r, e3, f1, f2, _, f3, _, _⟩ := open_rec (by simpa using hf 3 _ rfl)
    simp [cells3', cellsLR] at e0 e1 e2 e3
    obtain ⟨g0, g1, g2, g3, g4, g5⟩ := e3
    subst e0; subst e1; subst e2; subst g0; subst g1; subst g2; subst g3; subst g4; subst g5
    exact ⟨⟨a, b, c, r⟩, rfl, f1, f2, f3⟩
end

theorem list_ofP {Q : Nat → PlaceV → Prop} : ∀ n, (∀ i, i < n → ∃ f, Q i f) → ∃ fs : List PlaceV, fs.length = n ∧ ∀ i, (h : i < fs.length) → Q i (fs[i])
  | 0, _ => ⟨[], rfl, fun i h => by simp at h⟩
  | n + 1, h => by
    obtain ⟨fs, hl, hq⟩ := list_ofP n (fun i hi => h i (by omega))
    obtain ⟨f, hf⟩ := h n (by omega)
    refine ⟨fs ++ [f], by simp [hl], fun i hi => ?_⟩
    rcases Nat.lt_or_ge i fs.length with h' | h'
    · rw [List.getElem_append_left h']; exact hq i h'
    · have e : i = n := by simp at hi; omega
      subst e
      rw [List.getElem_append_right h']
      simpa using hf

section
variable {H : Type} {enc : TypeId × Value → H} {w : World} {base : Nat} {spare : Nat → Bool} {held : Bool}
set_option maxRecDepth 100000 in
/-- The records themselves. -/
theorem open_places {fuel : Nat} {cs : List Value} {x : DataW H × List MemPlace} (h : DataW.trod enc Tryz.prog w base spare held fuel 42 cs = some x) :
    ∃ (a : Option Addr) (n cap : Nat) (fs : List PlaceV), cs = [.slice a n cap] ∧ plSh.Row w a n fs ∧ PFits fs ∧ n ≤ maxLen := by
  rcases open_slice Tryz.underlying42 h with ⟨rfl, _⟩ | ⟨a, len, cap, m, n, D, Pl, rfl, hb, hl, hm, hmm, _, hx⟩
  · exact ⟨none, 0, 0, [], rfl, ⟨rfl, fun i hi => by simp at hi⟩, fun p hp => by simp at hp, by omega⟩
  · have hlm : len ≤ m := by rw [hmm]; split <;> omega
    rw [cellsLP] at hx
    obtain ⟨fs, hfl, hfs⟩ := list_ofP (Q := fun i f => (∃ b off, a = ⟨b, off, none⟩ ∧ b < w.heap.size ∧ ∀ j, j < 9 → w.cell? ⟨b, off + i * 9 + j, none⟩ = (plSh.cells f)[j]?) ∧ f.r.key.size ≤ maxLen ∧ f.r.val.size ≤ maxLen ∧ (Lit.int .i64 f.r.batch).wf = true) len (fun i hi => by
      obtain ⟨cs', h1, h2⟩ := hx i (by omega)
      obtain ⟨f, rfl, f1, f2, f3⟩ := open_place h2
      obtain ⟨_, _, hcell⟩ := World.cells?_some h1
      refine ⟨f, ?_, f1, f2, f3⟩
      obtain ⟨b, off, spot⟩ := a
      have hs : spot = none := by
        obtain ⟨cs0, h01, h02⟩ := hx 0 (by omega)
        obtain ⟨f0, rfl, -, -, -⟩ := open_place h02
        obtain ⟨_, _, hc0⟩ := World.cells?_some h01
        have hk : w.cell? (((⟨b, off, spot⟩ : Addr).add (0 * 9)).add 0) = some (.int .i64 f0.seg) := hc0 0 (by omega)
        simpa [Addr.add] using World.cell?_spot hk
      subst hs
      have e : ∀ j k, ((⟨b, off, none⟩ : Addr).add j).add k = ⟨b, off + j + k, none⟩ := fun j k => by
        have e1 : ∀ o q, (⟨b, o, none⟩ : Addr).add q = ⟨b, o + q, none⟩ := fun o q => by unfold Addr.add; split <;> simp_all
        rw [e1, e1]
      refine ⟨b, off, rfl, ?_, fun j hj => ?_⟩
      · have k0 : w.cell? (((⟨b, off, none⟩ : Addr).add (i * 9)).add 0) = some (.int .i64 f.seg) := hcell 0 (by omega)
        rw [e] at k0
        rcases Nat.lt_or_ge b w.heap.size with h' | h'
        · exact h'
        · simp [World.cell?, Array.getElem?_eq_none h'] at k0
      · have k0 := hcell j hj
        rw [e] at k0
        exact k0)
    refine ⟨some a, len, cap, fs, rfl, ⟨hfl, fun i hi => ?_⟩, fun p hp => by
      obtain ⟨i, hi, rfl⟩ := List.mem_iff_getElem.1 hp
      exact (hfs i hi).2, Nat.le_trans hl hm⟩
    obtain ⟨b, off, rfl, h1, h2⟩ := (hfs i hi).1
    exact ⟨b, off, rfl, h1, h2⟩
end

end Go.Proofs.YtphbinkkgmlnmaaGreatDoor
