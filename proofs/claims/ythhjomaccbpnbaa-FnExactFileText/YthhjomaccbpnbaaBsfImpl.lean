/-
  slices.BinarySearchFunc at files and a name, by its own text.
-/
import Derived.Test.YthhjomaccbpnbaaRise
import Derived.Laws.BitsAllLaws
namespace Go.Proofs.Ythhjomaccbpnbaa
open Go.RowKit
open Plain

theorem cmpB_lt (x y : ByteArray) : cmpB x y < 0 ↔ x.data.toList < y.data.toList := by
  unfold cmpB
  simp only [bytesLess_lt, tl]
  by_cases h1 : x.data.toList < y.data.toList
  · simp [h1]
  · by_cases h2 : y.data.toList < x.data.toList <;> simp [h1, h2]
theorem cmpB_eq (x y : ByteArray) : cmpB x y = 0 ↔ x = y := by
  unfold cmpB
  simp only [bytesLess_lt, tl]
  by_cases h1 : x.data.toList < y.data.toList
  · simp [h1]
    intro e
    rw [e] at h1
    exact List.lt_irrefl _ h1
  · by_cases h2 : y.data.toList < x.data.toList
    · simp [h1, h2]
      intro e
      rw [e] at h2
      exact List.lt_irrefl _ h2
    · simp [h1, h2]
      rcases List.le_iff_lt_or_eq.1 (List.not_lt.1 h1) with h | h
      · exact absurd h h2
      · exact name_of_data h.symm

/-- Where the search ends: the files ahead have lesser names, the others have not. -/
structure Place (fs : List FileV) (x : ByteArray) (i : Nat) : Prop where
  le : i ≤ fs.length
  lo : ∀ k, (h : k < fs.length) → k < i → (fs[k]).name.data.toList < x.data.toList
  hi : ∀ k, (h : k < fs.length) → i ≤ k → ¬ (fs[k]).name.data.toList < x.data.toList
def bsB (fs : List FileV) (x : ByteArray) (i : Nat) : Bool := decide (i < fs.length) && decide (cmpB (fs.getD i zeroF).name x = 0)

set_option maxRecDepth 100000 in
set_option maxHeartbeats 1000000 in
theorem ftC_any (f : FileV) (x : ByteArray) (W : World) : Calls Try.prog 33 #[.agg #[.string f.name, .string f.text, .int .i64 f.safe], .string x] W fun e w' => e = .returned (.int .i64 (cmpB f.name x)) ∧ Below W.heap.size W w' := by
  have hcon := fun W' => cmpS_any f.name x W'
  generalize cmpB f.name x = r at hcon ⊢
  go_enter Try.func33, Try.ntmps33
  go_wp2_with (go_at_call 34; refine (hcon _).mono ?_; rintro e w' ⟨rfl, rfl⟩)
  go_ret
  exact ⟨rfl, (Below.refl _ _).alloc (Nat.le_refl _) _⟩

set_option maxRecDepth 100000 in
set_option maxHeartbeats 2000000 in
theorem bsf_any (w : World) (a : Option Addr) (n cap : Nat) (fs : List FileV) (hr : FRow w 0 a n fs) (hn : n ≤ 1048576) (hris : Rising fs) (x : ByteArray) :
    Calls Try.prog 32 #[.slice a n cap, .string x, .func (.func 33) #[] #[]] w fun e w' => (∃ i : Nat, e = .returned (.tuple #[.int .i64 i, .bool (bsB fs x i)]) ∧ Place fs x i) ∧ Below w.heap.size w w' := by
  have HR := hide hr
  have hlen := hr.len
  clear hr
  go_enter Try.func32, Try.ntmps32
  go_wp2
  go_loopw [9, 10] (fun i j wr => ∃ I J : Nat, I ≤ J ∧ J ≤ n ∧ i = .int .i64 I ∧ j = .int .i64 J ∧ Hid ((∀ k, (h : k < fs.length) → k < I → (fs[k]).name.data.toList < x.data.toList) ∧ (∀ k, (h : k < fs.length) → J ≤ k → ¬ (fs[k]).name.data.toList < x.data.toList)) ∧ Hid (Below w.heap.size w wr)) (fun i j _ => (intOf j).toNat - (intOf i).toNat)
  case atStart => exact ⟨0, n, by omega, by omega, rfl, rfl, hide ⟨fun k h h2 => by omega, fun k h h2 => by omega⟩, hide (Below.refl _ _)⟩
  case round =>
    obtain ⟨I, J, hIJ, hJn, rfl, rfl, HP, HB⟩ := hrel
    by_cases hlt : I < J
    · have t1 : decide ((I : Int) < (J : Int)) = true := by simp; omega
      have hH : (I + J) / 2 < fs.length := by omega
      obtain ⟨b, off, rfl, -, hbw, e1, e2, e3⟩ := (HR.out.later HB.out (Nat.le_refl _)).cells ((I + J) / 2) hH
      have HC := hide (ftC_any (fs[(I + J) / 2]) x wr)
      by_cases q : cmpB (fs[(I + J) / 2]).name x < 0
      · have t2 : decide (cmpB (fs[(I + J) / 2]).name x < 0) = true := by simpa using q
        have hq := hide ((cmpB_lt _ _).1 q)
        clear q
        go_wp2_with (go_at_call 33; refine HC.out.mono ?_; rintro e w2 ⟨rfl, hb2⟩)
        go_roundw
        case rel =>
          refine ⟨(I + J) / 2 + 1, J, by omega, hJn, by go_num, rfl, hide ⟨fun k h hk => ?_, HP.out.2⟩, hide (HB.out.trans (hb2.mono HB.out.size))⟩
          rcases Nat.lt_or_ge k ((I + J) / 2) with h1 | h1
          · exact List.lt_trans (List.pairwise_iff_getElem.1 hris k ((I + J) / 2) h hH h1) hq.out
          · obtain rfl : k = (I + J) / 2 := by omega
            exact hq.out
        case measure => first | (simp [intOf]; done) | (simp [intOf]; omega)
      · have t2 : decide (cmpB (fs[(I + J) / 2]).name x < 0) = false := by simpa using q
        have hq := hide (fun h => q ((cmpB_lt _ _).2 h))
        clear q
        go_wp2_with (go_at_call 33; refine HC.out.mono ?_; rintro e w2 ⟨rfl, hb2⟩)
        go_roundw
        case rel =>
          refine ⟨I, (I + J) / 2, by omega, by omega, rfl, by first | rfl | go_num, hide ⟨HP.out.1, fun k h hk => ?_⟩, hide (HB.out.trans (hb2.mono HB.out.size))⟩
          rcases Nat.lt_or_ge ((I + J) / 2) k with h1 | h1
          · intro h2
            exact hq.out (List.lt_trans (List.pairwise_iff_getElem.1 hris ((I + J) / 2) k hH h h1) h2)
          · obtain rfl : k = (I + J) / 2 := by omega
            exact hq.out
        case measure => first | (simp [intOf]; done) | (simp [intOf]; omega)
    · obtain rfl : I = J := by omega
      have t1 : decide ((I : Int) < (I : Int)) = false := by simp
      have HPL : Hid (Place fs x I) := hide ⟨by omega, HP.out.1, HP.out.2⟩
      clear HP
      by_cases hin : I < n
      · have t3 : decide ((I : Int) < (n : Int)) = true := by simp; omega
        have hI : I < fs.length := by omega
        obtain ⟨b, off, rfl, -, hbw, e1, e2, e3⟩ := (HR.out.later HB.out (Nat.le_refl _)).cells I hI
        have HC := hide (ftC_any (fs[I]) x wr)
        have HV : Hid (bsB fs x I = decide (cmpB (fs[I]).name x = 0)) := hide (by unfold bsB; rw [getD_of hI, decide_eq_true hI, Bool.true_and])
        obtain ⟨z, hz⟩ : ∃ z, cmpB (fs[I]).name x = z := ⟨_, rfl⟩
        rw [hz] at HV HC
        by_cases q : z = 0
        · have t4 : (z == 0) = true := by simpa using q
          have HV2 : Hid (bsB fs x I = true) := hide (by rw [HV.out]; simpa using q)
          clear q hz
          go_wp2_with (go_at_call 33; refine HC.out.mono ?_; rintro e w2 ⟨rfl, hb2⟩)
          refine bodyPost_ret (v := .tuple #[.int .i64 I, .bool true]) (by simp [results, Try.results32, go_sem]) rfl ⟨⟨I, by rw [HV2.out], HPL.out⟩, HB.out.trans (hb2.mono HB.out.size)⟩
        · have t4 : (z == 0) = false := by simpa using q
          have HV2 : Hid (bsB fs x I = false) := hide (by rw [HV.out]; simpa using q)
          clear q hz
          go_wp2_with (go_at_call 33; refine HC.out.mono ?_; rintro e w2 ⟨rfl, hb2⟩)
          refine bodyPost_ret (v := .tuple #[.int .i64 I, .bool false]) (by simp [results, Try.results32, go_sem]) rfl ⟨⟨I, by rw [HV2.out], HPL.out⟩, HB.out.trans (hb2.mono HB.out.size)⟩
      · have t3 : decide ((I : Int) < (n : Int)) = false := by simp; omega
        have HV : Hid (bsB fs x I = false) := hide (by unfold bsB; rw [decide_eq_false (by omega), Bool.false_and])
        go_wp2
        refine bodyPost_ret (v := .tuple #[.int .i64 I, .bool false]) (by simp [results, Try.results32, go_sem]) rfl ⟨⟨I, by rw [HV.out], HPL.out⟩, HB.out⟩

end Go.Proofs.Ythhjomaccbpnbaa
