/-
  spec.DrawShowRec and spec.DrawReadRec: a record, and a text, drawn.
-/
import Derived.Test.YtlppgbfpbkpocaaDrawAny5
import Derived.Test.YtlppgbfpbkpocaaSpoil
import Derived.Test.YtlppgbfpbkpocaaShowSpec
import Derived.Test.YtlppgbfpbkpocaaReadImpl
namespace Go.Proofs.Ytlppgbfpbkpocaa
open Go.RowKit
open Plain

set_option maxRecDepth 100000 in
set_option maxHeartbeats 1000000 in
theorem drawShowRec_any (w : World) (a : Option Addr) (len cap : Nat) (zs : List Int) (hc : CodeAt w a len zs) :
    Calls Try.prog 9 #[.slice a len cap] w fun e w' => (∃ r : RecV, r.key.size ≤ 9 ∧ r.val.size ≤ 25 ∧ e = .returned (.agg #[.int .i64 r.kind, .int .i64 r.batch, .string r.key, .string r.val, .int .i64 r.cnt, .int .i64 r.sum])) ∧ Below w.heap.size w w' := by
  obtain ⟨W0, hW⟩ : ∃ W0, W0 = w.alloc (.cells #[.int .i64 0, .int .i64 0, .string ⟨#[]⟩, .string ⟨#[]⟩, .int .i64 0, .int .i64 0] 25) := ⟨_, rfl⟩
  have HRC := hide (fun W h => res_cells w W0 W hW h)
  have HC : Hid (CodeAt W0 a len zs) := hide (by rw [hW]; exact hc.later (al1 _ _))
  clear hc
  go_enter Try.func9, Try.ntmps9
  go_wp2_with fail
  rw [← hW]
  clear hW
  refine (new_any W0 a len cap zs HC.out).mono ?_
  rintro e w1 ⟨rfl, hc1, hb1⟩
  have HC1 := hide hc1
  have HB1 := hide hb1
  clear hc1 hb1
  go_wp2_with fail
  refine (any5_any w1 W0.heap.size a len cap zs ⟨_, HC1.out⟩).mono ?_
  rintro e w5 ⟨⟨⟨k, b, key, val, c, s⟩, hk, hv, rfl⟩, hc2, hg2⟩
  simp only at hk hv ⊢
  obtain ⟨hb6, hf6, hrow⟩ := HRC.out w5 (below_cur HB1.out hg2)
  have HB6 := hide hb6
  have g0 := hf6 0
  have g1 := hf6 1
  have g2 := hf6 2
  have g3 := hf6 3
  have g4 := hf6 4
  have g5 := hf6 5
  have y0 : w5.cell? ⟨w.heap.size, 0, none⟩ = _ := cell_of_row w5 _ 0 _ _ _ hrow
  have y1 : w5.cell? ⟨w.heap.size, 1, none⟩ = _ := cell_of_row w5 _ 1 _ _ _ hrow
  have y2 : w5.cell? ⟨w.heap.size, 2, none⟩ = _ := cell_of_row w5 _ 2 _ _ _ hrow
  have y3 : w5.cell? ⟨w.heap.size, 3, none⟩ = _ := cell_of_row w5 _ 3 _ _ _ hrow
  have y4 : w5.cell? ⟨w.heap.size, 4, none⟩ = _ := cell_of_row w5 _ 4 _ _ _ hrow
  have y5 : w5.cell? ⟨w.heap.size, 5, none⟩ = _ := cell_of_row w5 _ 5 _ _ _ hrow
  have HK := hide hk
  have HV := hide hv
  clear hb6 hf6 hrow HRC hg2 hc2 HB1 HC1 HC hk hv
  go_wp2
  refine bodyPost_ret (v := .agg #[.int .i64 k, .int .i64 b, .string key, .string val, .int .i64 c, .int .i64 s]) (by simp [results, Try.results9, go_sem, *]) rfl ⟨⟨⟨k, b, key, val, c, s⟩, HK.out, HV.out, rfl⟩, ?_⟩
  iterate 6 (refine Below.setCell ?_ (by exact Nat.le_refl _) _)
  exact HB6.out

theorem show_size (r : RecV) : (showS r).size ≤ 60 := by
  cases h : recOkB r with
  | false => rw [show_none r h]; exact Nat.zero_le _
  | true =>
    obtain ⟨k, b, key, val, c, s⟩ := r
    have hok : RecOkP k b key.size val.size c s := okN_iff.1 h
    have e : showS ⟨k, b, key, val, c, s⟩ = varS k ++ varS b ++ bodyS k key val c s := if_pos h
    have z1 := varS_size k
    have z2 := varS_size b
    have z3 := textS_size key
    have z4 := textS_size val
    have z5 := totS_size c s
    rw [e, ByteArray.size_append, ByteArray.size_append]
    unfold RecOkP at hok
    unfold bodyS
    split
    · rw [ByteArray.size_append]; omega
    · split
      · omega
      · omega

set_option maxRecDepth 100000 in
set_option maxHeartbeats 4000000 in
theorem drawReadRec_any (w : World) (a : Option Addr) (len cap : Nat) (zs : List Int) (hc : CodeAt w a len zs) :
    Calls Try.prog 12 #[.slice a len cap] w fun e w' => (∃ t : ByteArray, t.size ≤ 100 ∧ e = .returned (.string t)) ∧ Below w.heap.size w w' := by
  have HC := hide hc
  clear hc
  go_enter Try.func12, Try.ntmps12
  go_wp2_with fail
  refine (new_any w a len cap zs HC.out).mono ?_
  rintro e w1 ⟨rfl, hc1, hb1⟩
  have HC1 := hide hc1
  have HB1 := hide hb1
  clear hc1 hb1
  go_wp2_with fail
  refine (rec5_any w1 w.heap.size a len cap zs ⟨_, HC1.out⟩).mono ?_
  rintro e w2 ⟨⟨r, hk, hv, rfl⟩, hc2, hg2⟩
  have HB2 := hide (below_cur HB1.out hg2)
  have HC2 := hide hc2
  have HSH := hide (specShow_any r (by unfold maxLen; omega))
  have hss := show_size r
  clear hc2 hg2 HC1 HB1 hk hv
  generalize showS r = s at *
  go_wp2_with fail
  refine (HSH.out _).mono ?_
  rintro e w3 ⟨rfl, hb3⟩
  have HB3 := hide (HB2.out.trans (hb3.mono HB2.out.size))
  obtain ⟨st, hst⟩ := HC2.out.below hb3 HC2.out.lt
  have HC3 := hide hst
  clear hst hb3 HC2 HB2 HSH
  go_wp2_with fail
  refine (below_any 5 w3 w.heap.size a len cap zs st HC3.out).mono ?_
  rintro e w4 ⟨rfl, hc4, hg4⟩
  have h5 := lV_bd zs 5 st (by omega)
  have HB4 := hide (below_cur HB3.out hg4)
  have HC4 := hide hc4
  clear hc4 hg4 HC3 HB3
  generalize lS zs 5 st = st4 at *
  generalize lV zs 5 st = x at *
  by_cases k0 : x = 0
  · have t0 : (x == 0) = true := by simpa using k0
    clear k0
    go_wp2_with fail
    refine (spoil_any s (by omega) w4 w.heap.size a len cap zs st4 HC4.out).mono ?_
    rintro e w5 ⟨rfl, hg5⟩
    have HB5 := hide (below_cur HB4.out hg5)
    have HZ : Hid ((spV zs s st4).size ≤ 100) := hide (by have := spV_size zs s st4; omega)
    clear hg5 HC4 HB4
    go_wp2
    go_ret
    exact ⟨⟨_, HZ.out, rfl⟩, HB5.out⟩
  by_cases k1 : x = 1
  · have t0 : (x == 0) = false := by simpa using k0
    have t1 : (x == 1) = true := by simpa using k1
    clear k0 k1
    go_wp2_with fail
    refine (below_any ((s.size : Int) + 1) w4 w.heap.size a len cap zs st4 HC4.out).mono ?_
    rintro e w5 ⟨rfl, hc5, hg5⟩
    have hb := lV_bd zs ((s.size : Int) + 1) st4 (by omega)
    obtain ⟨k, hk⟩ := Int.eq_ofNat_of_zero_le hb.1
    rw [hk] at hb ⊢
    have hks : k ≤ s.size := by omega
    have HZ : Hid ((s.extract 0 k).size ≤ 100) := hide (by rw [ba_len _ _ _ (Nat.zero_le _) hks]; omega)
    have HB5 := hide (below_cur HB4.out hg5)
    clear hc5 hg5 HC4 HB4 hk
    go_wp2
    go_ret
    exact ⟨⟨_, HZ.out, rfl⟩, HB5.out⟩
  by_cases k2 : x = 2
  · have t0 : (x == 0) = false := by simpa using k0
    have t1 : (x == 1) = false := by simpa using k1
    have t2 : (x == 2) = true := by simpa using k2
    clear k0 k1 k2
    go_wp2_with fail
    refine (text_any 3 (by omega) (by omega) w4 w.heap.size a len cap zs st4 HC4.out).mono ?_
    rintro e w5 ⟨rfl, hc5, hg5⟩
    have hl := tV_length zs 3 st4 (by omega)
    have hz : (strOfNums (tV zs 3 st4)).size ≤ 3 := by rw [strOfNums_size]; omega
    have HB5 := hide (below_cur HB4.out hg5)
    clear hc5 hg5 HC4 HB4 hl
    generalize strOfNums (tV zs 3 st4) = u at *
    have HZ : Hid ((s ++ u).size ≤ 100) := hide (by rw [ByteArray.size_append]; omega)
    go_wp2
    go_ret
    exact ⟨⟨_, HZ.out, rfl⟩, HB5.out⟩
  have t0 : (x == 0) = false := by simpa using k0
  have t1 : (x == 1) = false := by simpa using k1
  have t2 : (x == 2) = false := by simpa using k2
  clear k0 k1 k2
  go_wp2
  go_ret
  exact ⟨⟨s, by omega, rfl⟩, HB4.out⟩

end Go.Proofs.Ytlppgbfpbkpocaa
