/-
  spec.Used and spec.FileText.
-/
import Derived.Test.YthhjomaccbpnbaaDiskOkSpec
namespace Go.Proofs.Ythhjomaccbpnbaa
open Go.RowKit
open Plain

def usedA (fs : List FileV) (c u : Int) : Int := if diskOk fs c u = true then (usedF fs : Int) else 0

set_option maxRecDepth 100000 in
set_option maxHeartbeats 1000000 in
theorem specUsedA_any (w : World) (a : Option Addr) (n cap : Nat) (fs : List FileV) (hr : FRow w 0 a n fs) (hn : n ≤ 1048576) (hz : szFs fs ≤ 1048576) (c u : Int) (d : Bool) :
    Calls Try.prog 19 #[.agg #[.slice a n cap, .int .i64 c, .int .i64 u, .bool d]] w fun e w' => e = .returned (.int .i64 (usedA fs c u)) ∧ Below w.heap.size w w' := by
  have hus := usedF_le_sz fs
  have hbx := box4 w (.slice a n cap) (.int .i64 c) (.int .i64 u) (.bool d) 30
  obtain ⟨W, hW⟩ : ∃ W, W = w.alloc (.cells #[.slice a n cap, .int .i64 c, .int .i64 u, .bool d] 30) := ⟨_, rfl⟩
  rw [← hW] at hbx
  have HR := hide (hr.later hbx.1 (Nat.le_refl _))
  have HB := hide hbx.1
  have HX := hide hbx.2
  have HS : Hid (w.heap.size < W.heap.size) := hide (by rw [hW]; simp)
  clear hr hbx
  go_enter Try.func19, Try.ntmps19
  go_wp2_with fail
  rw [← hW]
  clear hW
  refine (specOk_any W a n cap fs HR.out (by omega) (by omega) c u d).mono ?_
  rintro e w1 ⟨rfl, hb1⟩
  have HR1 := hide (HR.out.later hb1 (Nat.le_refl _))
  have HX1 := hide ((hb1.block _ HS.out).trans HX.out)
  have HB1 := hide (HB.out.trans (hb1.mono HB.out.size))
  clear hb1 HR HX HB HS
  by_cases q : diskOk fs c u = true
  · have HV : Hid (usedA fs c u = (usedF fs : Int)) := hide (by unfold usedA; rw [if_pos q])
    rw [q]
    obtain ⟨y0, y1, y2, y3, -⟩ := cells4 HX1.out
    go_wp2_with fail
    clear y0 y1 y2 y3
    refine (specUsed_any w1 a n cap fs HR1.out (by omega) (by omega) c u d).mono ?_
    rintro e w2 ⟨rfl, hb2⟩
    have HB2 := hide (HB1.out.trans (hb2.mono HB1.out.size))
    clear hb2
    go_wp2
    go_ret
    exact ⟨by rw [HV.out]; rfl, HB2.out⟩
  · have q' : diskOk fs c u = false := by simpa using q
    have HV : Hid (usedA fs c u = 0) := hide (by unfold usedA; rw [if_neg q])
    rw [q']
    go_wp2
    go_ret
    exact ⟨by rw [HV.out]; rfl, HB1.out⟩

/-- What FileText answers. -/
def textA (fs : List FileV) (c u : Int) (nm : ByteArray) : ByteArray × Bool := if diskOk fs c u = true then (if findF fs nm < 0 then (⟨#[]⟩, false) else ((fs.getD (findF fs nm).toNat zeroF).text, true)) else (⟨#[]⟩, false)
theorem findF_at (fs : List FileV) (nm : ByteArray) (h : ¬ findF fs nm < 0) : ∃ k : Nat, findF fs nm = (k : Int) ∧ k < fs.length := by
  unfold findF at *
  cases hf : fs.findIdx? (fun f => decide (f.name = nm)) with
  | none => rw [hf] at h; simp at h
  | some i =>
    refine ⟨i, rfl, ?_⟩
    rw [List.findIdx?_eq_some_iff_getElem] at hf
    exact hf.1

set_option maxRecDepth 100000 in
set_option maxHeartbeats 1000000 in
theorem specText_any (w : World) (a : Option Addr) (n cap : Nat) (fs : List FileV) (hr : FRow w 0 a n fs) (hn : n ≤ 1048576) (hz : szFs fs ≤ 1048576) (c u : Int) (d : Bool) (nm : ByteArray) :
    Calls Try.prog 21 #[.agg #[.slice a n cap, .int .i64 c, .int .i64 u, .bool d], .string nm] w fun e w' => e = .returned (.tuple #[.string (textA fs c u nm).1, .bool (textA fs c u nm).2]) ∧ Below w.heap.size w w' := by
  have hfn := hr.len
  have hbx := box4 w (.slice a n cap) (.int .i64 c) (.int .i64 u) (.bool d) 30
  obtain ⟨W, hW⟩ : ∃ W, W = w.alloc (.cells #[.slice a n cap, .int .i64 c, .int .i64 u, .bool d] 30) := ⟨_, rfl⟩
  rw [← hW] at hbx
  have HR := hide (hr.later hbx.1 (Nat.le_refl _))
  have HB := hide hbx.1
  have HX := hide hbx.2
  have HS : Hid (w.heap.size < W.heap.size) := hide (by rw [hW]; simp)
  clear hr hbx
  go_enter Try.func21, Try.ntmps21
  go_wp2_with fail
  rw [← hW]
  clear hW
  refine (specOk_any W a n cap fs HR.out (by omega) (by omega) c u d).mono ?_
  rintro e w1 ⟨rfl, hb1⟩
  have HR1 := hide (HR.out.later hb1 (Nat.le_refl _))
  have HX1 := hide ((hb1.block _ HS.out).trans HX.out)
  have HB1 := hide (HB.out.trans (hb1.mono HB.out.size))
  have hs1 : w.heap.size < w1.heap.size := Nat.lt_of_lt_of_le HS.out hb1.size
  clear hb1 HR HX HB HS
  by_cases q : diskOk fs c u = true
  · rw [q]
    obtain ⟨y0, y1, y2, y3, -⟩ := cells4 HX1.out
    go_wp2_with fail
    clear y0 y1 y2 y3
    refine (specFind_any w1 a n cap fs HR1.out (by omega) c u d nm).mono ?_
    rintro e w2 ⟨rfl, hb2⟩
    have HB2 := hide (HB1.out.trans (hb2.mono HB1.out.size))
    have HR2 := hide (HR1.out.later hb2 (Nat.le_refl _))
    obtain ⟨y0, -⟩ := cells4 ((hb2.block _ hs1).trans HX1.out)
    clear hb2
    by_cases q1 : findF fs nm < 0
    · have HV : Hid (textA fs c u nm = (⟨#[]⟩, false)) := hide (by unfold textA; rw [if_pos q, if_pos q1])
      have t1 : decide (findF fs nm < 0) = true := by simpa using q1
      clear q1
      go_wp2
      go_ret2
      exact ⟨by rw [HV.out]; rfl, HB2.out⟩
    · obtain ⟨k, hk, hkl⟩ := findF_at fs nm q1
      have hgd : fs.getD k zeroF = fs[k] := by simp [List.getD, hkl]
      have HV : Hid (textA fs c u nm = ((fs[k]).text, true)) := hide (by unfold textA; rw [if_pos q, if_neg q1, hk, Int.toNat_natCast, hgd])
      rw [hk]
      clear q1 hk hgd
      obtain ⟨b, off, rfl, -, hbw, e1, e2, e3⟩ := HR2.out.cells k hkl
      have hkn : (k : Int) < (n : Int) := by omega
      have hkz : decide ((k : Int) < 0) = false := by simp
      go_wp2
      go_ret2
      exact ⟨by rw [HV.out]; rfl, HB2.out⟩
  · have q' : diskOk fs c u = false := by simpa using q
    have HV : Hid (textA fs c u nm = (⟨#[]⟩, false)) := hide (by unfold textA; rw [if_neg q])
    rw [q']
    go_wp2
    go_ret2
    exact ⟨by rw [HV.out]; rfl, HB1.out⟩

end Go.Proofs.Ythhjomaccbpnbaa
