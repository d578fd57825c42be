/-
  impl.Volatile and impl.Settled.
-/
import Derived.Test.YthfpcjamlbkgfaaDiskOkImpl
import Derived.Test.YthfpcjamlbkgfaaVolPlain
namespace Go.Proofs.Ythfpcjamlbkgfaa
open Go.RowKit
open Plain

set_option maxHeartbeats 400000 in
theorem implLoose_any (f : FileV) (h : 0 ≤ f.safe ∧ f.safe ≤ (f.text.size : Int)) (ht : f.text.size ≤ 1099511627776) (w : World) :
    Calls Try.prog 40 #[.agg #[.string f.name, .string f.text, .int .i64 f.safe]] w fun e w' => e = .returned (.int .i64 (looseF f)) ∧ Below w.heap.size w w' := by
  obtain ⟨h0, h1⟩ := h
  have HV : Hid (looseF f = (f.text.size : Int) - f.safe) := hide rfl
  go_enter Try.func40, Try.ntmps40
  go_wp2
  go_ret
  exact ⟨by rw [HV.out]; rfl, (Below.refl _ _).alloc (Nat.le_refl _) _⟩

set_option maxRecDepth 100000 in
set_option maxHeartbeats 1000000 in
theorem implVol_any (w : World) (a : Option Addr) (n cap : Nat) (fs : List FileV) (hr : FRow w 0 a n fs) (hn : n ≤ 1048576) (hz : szFs fs ≤ 1048576) (c u : Int) (d : Bool) :
    Calls Try.prog 13 #[.agg #[.slice a n cap, .int .i64 c, .int .i64 u, .bool d]] w fun e w' => e = .returned (.int .i64 (volA fs c u)) ∧ Below w.heap.size w w' := by
  have hfn := hr.len
  have hus := usedF_le_sz fs
  have hbx := box4 w (.slice a n cap) (.int .i64 c) (.int .i64 u) (.bool d) 26
  obtain ⟨W, hW⟩ : ∃ W, W = w.alloc (.cells #[.slice a n cap, .int .i64 c, .int .i64 u, .bool d] 26) := ⟨_, rfl⟩
  rw [← hW] at hbx
  have HR := hide (hr.later hbx.1 (Nat.le_refl _))
  have HB := hide hbx.1
  have HX := hide hbx.2
  have HS : Hid (w.heap.size < W.heap.size) := hide (by rw [hW]; simp)
  clear hr hbx
  go_enter Try.func13, Try.ntmps13
  go_wp2_with fail
  rw [← hW]
  clear hW
  refine (implOk_any W a n cap fs HR.out (by omega) (by omega) c u d).mono ?_
  rintro e w1 ⟨rfl, hb1⟩
  have HR1 := hide (HR.out.later hb1 (Nat.le_refl _))
  have HX1 := hide ((hb1.block _ HS.out).trans HX.out)
  have HB1 := hide (HB.out.trans (hb1.mono HB.out.size))
  clear hb1 HR HX HB HS
  by_cases q : diskOk fs c u = true
  · have HV : Hid (volA fs c u = volF fs) := hide (by unfold volA; rw [if_pos q])
    have HSF := hide (safe_of q)
    rw [q]
    obtain ⟨y0, y1, y2, y3, -⟩ := cells4 HX1.out
    go_wp2
    clear y0 y1 y2 y3
    go_loopw [3, 12] (fun v i wr => ∃ k : Nat, k ≤ n ∧ i = .int .i64 k ∧ v = .int .i64 (volF (fs.take k)) ∧ Hid (Below w1.heap.size w1 wr)) (fun _ i _ => n - (intOf i).toNat)
    case atStart => exact ⟨0, by omega, rfl, by simp [volF], hide (Below.refl _ _)⟩
    case round =>
      obtain ⟨k, hk, rfl, rfl, HB2⟩ := hrel
      by_cases hlt : k < n
      · have hkf : k < fs.length := by omega
        obtain ⟨b, off, rfl, -, hbw, e1, e2, e3⟩ := (HR1.out.later HB2.out (Nat.le_refl _)).cells k hkf
        have HST := hide (volF_take_succ fs k hkf)
        have hvb := volF_bd fs HSF.out k
        have hut := usedF_take_le fs k
        have hsf := HSF.out k hkf
        have htx := text_le fs k hkf
        have hlo : 0 ≤ looseF (fs[k]) ∧ looseF (fs[k]) ≤ 1048576 := by unfold looseF; omega
        obtain ⟨V, hV⟩ : ∃ V, volF (fs.take k) = V := ⟨_, rfl⟩
        have hVb : 0 ≤ V ∧ V ≤ 1048576 := by rw [← hV]; omega
        rw [hV] at HST ⊢
        clear hV hvb hut
        obtain ⟨V0, V1⟩ := hVb
        go_wp2_with fail
        refine (implLoose_any (fs[k]) hsf (by omega) _).mono ?_
        rintro e w2 ⟨rfl, hb2⟩
        have HB3 := hide ((HB2.out.alloc HB2.out.size _).trans (hb2.mono (by have := HB2.out.size; simp; omega)))
        obtain ⟨l0, l1⟩ := hlo
        obtain ⟨L, hL⟩ : ∃ L, looseF (fs[k]) = L := ⟨_, rfl⟩
        rw [hL] at HST l0 l1 ⊢
        clear hb2 hsf htx hL
        go_wp2
        go_roundw
        case rel => exact ⟨k + 1, by omega, by go_num, by rw [HST.out], HB3⟩
        case measure => first | (simp [intOf]; done) | (simp [intOf]; omega)
      · obtain rfl : k = n := by omega
        rw [List.take_of_length_le (by omega)]
        have HB3 := hide (HB1.out.trans (HB2.out.mono HB1.out.size))
        go_wp2
        go_ret
        exact ⟨by rw [HV.out]; rfl, HB3.out⟩
  · have q' : diskOk fs c u = false := by simpa using q
    have HV : Hid (volA fs c u = 0) := hide (by unfold volA; rw [if_neg q])
    rw [q']
    go_wp2
    go_ret
    exact ⟨by rw [HV.out]; rfl, HB1.out⟩

set_option maxRecDepth 100000 in
set_option maxHeartbeats 1000000 in
theorem implSet_any (w : World) (a : Option Addr) (n cap : Nat) (fs : List FileV) (hr : FRow w 0 a n fs) (hn : n ≤ 1048576) (hz : szFs fs ≤ 1048576) (c u : Int) (d : Bool) :
    Calls Try.prog 14 #[.agg #[.slice a n cap, .int .i64 c, .int .i64 u, .bool d]] w fun e w' => e = .returned (.bool (setA fs c u)) ∧ Below w.heap.size w w' := by
  have hbx := box4 w (.slice a n cap) (.int .i64 c) (.int .i64 u) (.bool d) 26
  obtain ⟨W, hW⟩ : ∃ W, W = w.alloc (.cells #[.slice a n cap, .int .i64 c, .int .i64 u, .bool d] 26) := ⟨_, rfl⟩
  rw [← hW] at hbx
  have HR := hide (hr.later hbx.1 (Nat.le_refl _))
  have HB := hide hbx.1
  have HX := hide hbx.2
  have HS : Hid (w.heap.size < W.heap.size) := hide (by rw [hW]; simp)
  clear hr hbx
  go_enter Try.func14, Try.ntmps14
  go_wp2_with fail
  rw [← hW]
  clear hW
  refine (implOk_any W a n cap fs HR.out (by omega) (by omega) c u d).mono ?_
  rintro e w1 ⟨rfl, hb1⟩
  have HR1 := hide (HR.out.later hb1 (Nat.le_refl _))
  have HX1 := hide ((hb1.block _ HS.out).trans HX.out)
  have HB1 := hide (HB.out.trans (hb1.mono HB.out.size))
  clear hb1 HR HX HB HS
  by_cases q : diskOk fs c u = true
  · have HV : Hid (setA fs c u = (volF fs == 0)) := hide (by unfold setA; rw [q, Bool.true_and])
    have HA : Hid (volA fs c u = volF fs) := hide (by unfold volA; rw [if_pos q])
    rw [q]
    obtain ⟨y0, y1, y2, y3, -⟩ := cells4 HX1.out
    go_wp2_with fail
    clear y0 y1 y2 y3
    refine (implVol_any w1 a n cap fs HR1.out hn hz c u d).mono ?_
    rintro e w2 ⟨rfl, hb2⟩
    rw [HA.out]
    have HB2 := hide (HB1.out.trans (hb2.mono HB1.out.size))
    clear hb2
    go_wp2
    go_ret
    exact ⟨by rw [HV.out]; rfl, HB2.out⟩
  · have q' : diskOk fs c u = false := by simpa using q
    have HV : Hid (setA fs c u = false) := hide (by unfold setA; rw [q', Bool.false_and])
    rw [q']
    go_wp2
    go_ret
    exact ⟨by rw [HV.out]; rfl, HB1.out⟩

end Go.Proofs.Ythfpcjamlbkgfaa
