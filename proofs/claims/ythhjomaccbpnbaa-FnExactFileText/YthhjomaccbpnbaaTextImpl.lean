/-
  impl.FileText.
-/
import Derived.Test.YthhjomaccbpnbaaBsfImpl
import Derived.Test.YthhjomaccbpnbaaDiskOkImpl
import Derived.Test.YthhjomaccbpnbaaAskSpec
namespace Go.Proofs.Ythhjomaccbpnbaa
open Go.RowKit
open Plain

theorem place_hit {fs : List FileV} {x : ByteArray} {i : Nat} (h : Place fs x i) (hb : bsB fs x i = true) : ∃ hi : i < fs.length, (fs[i]).name = x ∧ findF fs x = (i : Int) := by
  unfold bsB at hb
  rw [Bool.and_eq_true, decide_eq_true_eq, decide_eq_true_eq] at hb
  obtain ⟨h1, h2⟩ := hb
  rw [getD_of h1, cmpB_eq] at h2
  refine ⟨h1, h2, findF_hit fs x i h1 (fun j hj e => ?_) h2⟩
  have := h.lo j (by omega) hj
  rw [e] at this
  exact List.lt_irrefl _ this
theorem place_miss {fs : List FileV} {x : ByteArray} {i : Nat} (hr : Rising fs) (h : Place fs x i) (hb : bsB fs x i = false) : findF fs x < 0 := by
  rcases Int.lt_or_le (findF fs x) 0 with h0 | h0
  · exact h0
  · exfalso
    obtain ⟨k, hk, hkl, hkn⟩ := findF_name (Int.not_lt.2 h0)
    rcases Nat.lt_trichotomy k i with h1 | h1 | h1
    · have := h.lo k hkl h1
      rw [hkn] at this
      exact List.lt_irrefl _ this
    · subst h1
      unfold bsB at hb
      rw [getD_of hkl, hkn, decide_eq_true hkl, decide_eq_true ((cmpB_eq x x).2 rfl)] at hb
      cases hb
    · have hi : i < fs.length := by omega
      have h2 := List.pairwise_iff_getElem.1 hr i k hi hkl h1
      rw [hkn] at h2
      exact h.hi i hi (Nat.le_refl _) h2

set_option maxRecDepth 100000 in
set_option maxHeartbeats 2000000 in
theorem implText_any (w : World) (a : Option Addr) (n cap : Nat) (fs : List FileV) (hr : FRow w 0 a n fs) (hn : n ≤ 1048576) (hz : szFs fs ≤ 1048576) (c u : Int) (d : Bool) (nm : ByteArray) :
    Calls Try.prog 22 #[.agg #[.slice a n cap, .int .i64 c, .int .i64 u, .bool d], .string nm] w fun e w' => e = .returned (.tuple #[.string (textA fs c u nm).1, .bool (textA fs c u nm).2]) ∧ Below w.heap.size w w' := by
  have hlen := hr.len
  have hbx := box4 w (.slice a n cap) (.int .i64 c) (.int .i64 u) (.bool d) 30
  obtain ⟨W, hW⟩ : ∃ W, W = w.alloc (.cells #[.slice a n cap, .int .i64 c, .int .i64 u, .bool d] 30) := ⟨_, rfl⟩
  rw [← hW] at hbx
  have HR := hide (hr.later hbx.1 (Nat.le_refl _))
  have HB := hide hbx.1
  have HX := hide hbx.2
  have HS : Hid (w.heap.size < W.heap.size) := hide (by rw [hW]; simp)
  clear hr hbx
  go_enter Try.func22, Try.ntmps22
  go_wp2_with fail
  rw [← hW]
  clear hW
  refine (implOk_any W a n cap fs HR.out (by omega) (by omega) c u d).mono ?_
  rintro e w1 ⟨rfl, hb1⟩
  have HR1 := hide (HR.out.later hb1 (Nat.le_refl _))
  have HX1 := hide ((hb1.block _ HS.out).trans HX.out)
  have HB1 := hide (HB.out.trans (hb1.mono HB.out.size))
  have HS1 := hide (Nat.lt_of_lt_of_le HS.out hb1.size)
  clear hb1 HR HX HB HS
  by_cases q : diskOk fs c u = true
  · have HRI := hide (rising_of q)
    have HQ := hide q
    rw [q]
    obtain ⟨y0, y1, y2, y3, -⟩ := cells4 HX1.out
    go_wp2_with fail
    clear y0 y1 y2 y3
    refine (bsf_any w1 a n cap fs HR1.out hn HRI.out nm).mono ?_
    rintro e w2 ⟨⟨i, rfl, hpl⟩, hb2⟩
    have HB2 := hide (HB1.out.trans (hb2.mono HB1.out.size))
    have HX2 := hide ((hb2.block _ HS1.out).trans HX1.out)
    have HR2 := hide (HR1.out.later hb2 (Nat.le_refl _))
    have HPL := hide hpl
    clear hb2 hpl HR1 HX1 HB1
    cases hq2 : bsB fs nm i with
    | false =>
      have HV : Hid (textA fs c u nm = (⟨#[]⟩, false)) := hide (by unfold textA; rw [if_pos HQ.out, if_pos (place_miss HRI.out HPL.out hq2)])
      clear hq2
      go_wp2
      refine bodyPost_ret (v := .tuple #[.string ⟨#[]⟩, .bool false]) (by simp [results, Try.results22, go_sem]) rfl ⟨by rw [HV.out], HB2.out⟩
    | true =>
      obtain ⟨hi, hin, hif⟩ := place_hit HPL.out hq2
      have HV : Hid (textA fs c u nm = ((fs[i]).text, true)) := hide (by unfold textA; rw [if_pos HQ.out, hif, if_neg (by omega), Int.toNat_natCast, getD_of hi])
      clear hq2 hin hif
      obtain ⟨y0, y1, y2, y3, -⟩ := cells4 HX2.out
      obtain ⟨b, off, rfl, -, hbw, e1, e2, e3⟩ := HR2.out.cells i hi
      have hi2 : (i : Int) < (n : Int) := by omega
      go_wp2
      first
        | (refine bodyPost_ret (v := .tuple #[.string (fs[i]).text, .bool true]) (by simp [results, Try.results22, go_sem]) rfl ⟨by rw [HV.out], HB2.out⟩)
        | (go_region; go_wp2; refine bodyPost_ret (v := .tuple #[.string (fs[i]).text, .bool true]) (by simp [results, Try.results22, go_sem]) rfl ⟨by rw [HV.out], HB2.out⟩)
  · have q' : diskOk fs c u = false := by simpa using q
    have HV : Hid (textA fs c u nm = (⟨#[]⟩, false)) := hide (by unfold textA; rw [if_neg q])
    rw [q']
    go_wp2
    refine bodyPost_ret (v := .tuple #[.string ⟨#[]⟩, .bool false]) (by simp [results, Try.results22, go_sem]) rfl ⟨by rw [HV.out], HB1.out⟩

end Go.Proofs.Ythhjomaccbpnbaa
