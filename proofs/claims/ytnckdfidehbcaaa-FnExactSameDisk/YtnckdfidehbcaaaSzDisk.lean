/-
  What the laws' szFile, szFileS and szDisk answer: how much is left when a disk's files are weighed.
-/
import Derived.Test.YtnckdfidehbcaaaFileBase
namespace Go.Proofs.Ytnckdfidehbcaaa
open Go.RowKit
open Plain

/-- l less n, or -1. -/
def lessR (l n : Int) : Int := if n ≤ l then l - n else -1
theorem lessR_yes {l n : Int} (h : n ≤ l) : lessR l n = l - n := by unfold lessR; rw [if_pos h]
theorem lessR_no {l n : Int} (h : l < n) : lessR l n = -1 := by unfold lessR; rw [if_neg (by omega)]

set_option maxHeartbeats 400000 in
theorem szFile_any (f : FileV) (l : Int) (h0 : 0 ≤ l) (h1 : l ≤ 1048576) (hn : f.name.size ≤ maxLen) (ht : f.text.size ≤ maxLen) (w : World) :
    Calls Try.prog 52 #[.agg #[.string f.name, .string f.text, .int .i64 f.safe], .int .i64 l] w fun e w' => e = .returned (.int .i64 (lessR l (szF f))) ∧ Below w.heap.size w w' := by
  unfold maxLen at hn ht
  have hsz : (szF f : Int) = (f.name.size : Int) + (f.text.size : Int) := by unfold szF; omega
  by_cases c1 : l - (f.name.size : Int) < 0
  · have HR := hide (lessR_no (l := l) (n := (szF f : Int)) (by omega))
    clear hsz
    go_enter Try.func52, Try.ntmps52
    go_wp2
    go_ret
    exact ⟨by rw [HR.out]; rfl, (Below.refl _ _).alloc (Nat.le_refl _) _⟩
  · by_cases c2 : l - (f.name.size : Int) - (f.text.size : Int) < 0
    · have HR := hide (lessR_no (l := l) (n := (szF f : Int)) (by omega))
      clear hsz
      go_enter Try.func52, Try.ntmps52
      go_wp2
      go_ret
      exact ⟨by rw [HR.out]; rfl, (Below.refl _ _).alloc (Nat.le_refl _) _⟩
    · have HR : Hid (lessR l (szF f) = l - (f.name.size : Int) - (f.text.size : Int)) := hide (by rw [lessR_yes (by omega)]; omega)
      clear hsz
      go_enter Try.func52, Try.ntmps52
      go_wp2
      go_ret
      exact ⟨by rw [HR.out]; rfl, (Below.refl _ _).alloc (Nat.le_refl _) _⟩

/-- Every text of the files can be. -/
def Fits (fs : List FileV) : Prop := ∀ i, (h : i < fs.length) → (fs[i]).name.size ≤ maxLen ∧ (fs[i]).text.size ≤ maxLen

set_option maxRecDepth 100000 in
set_option maxHeartbeats 1000000 in
theorem szFileS_any (w : World) (a : Option Addr) (len cap : Nat) (fs : List FileV) (hr : FRow w 0 a len fs) (hf : Fits fs) (hl : len ≤ maxLen) (l : Int) (h0 : 0 ≤ l) (h1 : l ≤ 1048576) :
    Calls Try.prog 35 #[.slice a len cap, .int .i64 l] w fun e w' => e = .returned (.int .i64 (lessR l (len + szFs fs : Nat))) ∧ Below w.heap.size w w' := by
  unfold maxLen at hl
  have HR := hide hr
  have HF := hide hf
  have hlen := hr.len
  clear hr hf
  by_cases c1 : l - (len : Int) < 0
  · have HV := hide (lessR_no (l := l) (n := ((len + szFs fs : Nat) : Int)) (by omega))
    go_enter Try.func35, Try.ntmps35
    go_wp2
    go_ret
    exact ⟨by rw [HV.out]; rfl, Below.refl _ _⟩
  · go_enter Try.func35, Try.ntmps35
    go_wp2
    go_loopw [1, 5] (fun v i wr => ∃ k : Nat, k ≤ len ∧ i = .int .i64 k ∧ v = .int .i64 (l - (len : Int) - (szFs (fs.take k) : Int)) ∧ (szFs (fs.take k) : Int) ≤ l - (len : Int) ∧ Hid (Below w.heap.size w wr)) (fun _ i _ => len - (intOf i).toNat)
    case atStart => exact ⟨0, by omega, rfl, by simp [szFs], by simp [szFs]; omega, hide (Below.refl _ _)⟩
    case round =>
      obtain ⟨k, hk, rfl, rfl, hle, HB⟩ := hrel
      by_cases hlt : k < len
      · have hkf : k < fs.length := by omega
        obtain ⟨b, off, rfl, -, hbw, e1, e2, e3⟩ := (HR.out.later HB.out (Nat.le_refl _)).cells k hkf
        have hfit := HF.out k hkf
        have hst := szFs_take_succ fs k hkf
        have HLE := hide (szFs_take_le fs (k + 1))
        generalize szFs (fs.take k) = S at *
        go_wp2_with fail
        refine (szFile_any (fs[k]) (l - (len : Int) - (S : Int)) (by omega) (by omega) hfit.1 hfit.2 wr).mono ?_
        rintro e w2 ⟨rfl, hb2⟩
        have HB2 := hide (HB.out.trans (hb2.mono HB.out.size))
        clear hb2 e1 e2 e3 HB
        by_cases c2 : (szF (fs[k]) : Int) ≤ l - (len : Int) - (S : Int)
        · rw [lessR_yes c2]
          have HS2 : Hid (l - (len : Int) - (S : Int) - (szF (fs[k]) : Int) = l - (len : Int) - (szFs (fs.take (k + 1)) : Int)) := hide (by omega)
          have hle2 : (szFs (fs.take (k + 1)) : Int) ≤ l - (len : Int) := by omega
          clear hst HLE
          generalize szF (fs[k]) = sf at *
          go_wp2
          go_roundw
          case rel => exact ⟨k + 1, by omega, by go_num, by rw [HS2.out], by omega, HB2⟩
          case measure => first | (simp [intOf]; done) | (simp [intOf]; omega)
        · rw [lessR_no (by omega)]
          have HV := hide (lessR_no (l := l) (n := ((len + szFs fs : Nat) : Int)) (by have := HLE.out; omega))
          clear hst HLE
          go_wp2
          go_ret
          exact ⟨by rw [HV.out]; rfl, HB2.out⟩
      · obtain rfl : k = len := by omega
        rw [List.take_of_length_le (by omega)] at hle ⊢
        have HV : Hid (lessR l ((k + szFs fs : Nat) : Int) = l - (k : Int) - (szFs fs : Int)) := hide (by rw [lessR_yes (by omega)]; omega)
        go_wp2
        go_ret
        exact ⟨by rw [HV.out]; rfl, HB.out⟩

set_option maxHeartbeats 400000 in
theorem szDisk_any (w : World) (a : Option Addr) (len cap : Nat) (fs : List FileV) (hr : FRow w 0 a len fs) (hf : Fits fs) (hl : len ≤ maxLen) (c u : Int) (dn : Bool) (l : Int) (h0 : 0 ≤ l) (h1 : l ≤ 1048576) :
    Calls Try.prog 14 #[.agg #[.slice a len cap, .int .i64 c, .int .i64 u, .bool dn], .int .i64 l] w fun e w' => e = .returned (.int .i64 (lessR l (len + szFs fs : Nat))) ∧ Below w.heap.size w w' := by
  have HB0 := hide ((Below.refl w.heap.size w).alloc (Nat.le_refl _) (.cells #[.slice a len cap, .int .i64 c, .int .i64 u, .bool dn] 39))
  have HR := hide (hr.later HB0.out (Nat.le_refl _))
  clear hr
  go_enter Try.func14, Try.ntmps14
  go_wp2_with fail
  refine (szFileS_any _ a len cap fs HR.out hf hl l h0 h1).mono ?_
  rintro e w2 ⟨rfl, hb2⟩
  have HB2 := hide (HB0.out.trans (hb2.mono HB0.out.size))
  clear hb2 HB0 HR
  by_cases c2 : ((len + szFs fs : Nat) : Int) ≤ l
  · have HV : Hid (lessR l ((len + szFs fs : Nat) : Int) = l - ((len : Int) + (szFs fs : Int))) := hide (by rw [lessR_yes c2]; omega)
    rw [HV.out]
    go_wp2
    go_ret
    exact ⟨by rw [HV.out]; rfl, HB2.out⟩
  · have HV := hide (lessR_no (l := l) (n := ((len + szFs fs : Nat) : Int)) (by omega))
    rw [HV.out]
    go_wp2
    go_ret
    exact ⟨by rw [HV.out]; rfl, HB2.out⟩

end Go.Proofs.Ytnckdfidehbcaaa
