/-
  spec.SumOf: the sum of records' texts, one behind the other.
-/
import Derived.Test.YtkcjlalkniaapaaDoorFrameSpec
import Derived.Test.YtkcjlalkniaapaaDoorShowSpec
import Derived.Test.YtkcjlalkniaapaaDoorBC
namespace Go.Proofs.YtkcjlalkniaapaaDoor
open Go.RowKit
open Plain

/-- The texts of records, one behind the other. -/
def cat (xs : List RecV) : ByteArray := xs.foldl (fun s r => s ++ showS r) ⟨#[]⟩
theorem cat_succ (xs : List RecV) (k : Nat) (h : k < xs.length) : cat (xs.take (k + 1)) = cat (xs.take k) ++ showS (xs[k]) := by
  unfold cat
  rw [List.take_succ_eq_append_getElem h, List.foldl_append]
  rfl
theorem show_size' (r : RecV) : (showS r).size ≤ 60 := by
  cases h : recOkB r with
  | false => rw [show_none r h]; exact Nat.zero_le _
  | true =>
    obtain ⟨k, b, key, val, c, s⟩ := r
    have hok : RecOkP k b key.size val.size c s := okN_iff.1 h
    have e : showS ⟨k, b, key, val, c, s⟩ = varS k ++ varS b ++ bodyS k key val c s := if_pos h
    have z1 := varS_size k
    have z2 := varS_size b
    have z3 := textS_size key
    have z4 := textS_size val
    have z5 := totS_size c s
    rw [e, ByteArray.size_append, ByteArray.size_append]
    unfold RecOkP at hok
    unfold bodyS
    split
    · rw [ByteArray.size_append]; omega
    · split
      · omega
      · omega
theorem cat_size (xs : List RecV) (k : Nat) (h : k ≤ xs.length) : (cat (xs.take k)).size ≤ 60 * k := by
  induction k with
  | zero => exact Nat.zero_le _
  | succ k ih =>
    rw [cat_succ xs k (by omega), ByteArray.size_append]
    have := show_size' (xs[k])
    have := ih (by omega)
    omega
theorem rec_cells {w : World} {a : Option Addr} {n : Nat} {xs : List RecV} (h : recSh.Row w a n xs) (i : Nat) (hi : i < xs.length) : ∃ b off, a = some ⟨b, off, none⟩ ∧ b < w.heap.size ∧
    w.cell? ⟨b, off + i * 6, none⟩ = some (.int .i64 (xs[i]).kind) ∧ w.cell? ⟨b, off + i * 6 + 1, none⟩ = some (.int .i64 (xs[i]).batch) ∧ w.cell? ⟨b, off + i * 6 + 2, none⟩ = some (.string (xs[i]).key) ∧ w.cell? ⟨b, off + i * 6 + 3, none⟩ = some (.string (xs[i]).val) ∧ w.cell? ⟨b, off + i * 6 + 4, none⟩ = some (.int .i64 (xs[i]).cnt) ∧ w.cell? ⟨b, off + i * 6 + 5, none⟩ = some (.int .i64 (xs[i]).sum) := by
  obtain ⟨b, off, h1, h2, h3⟩ := h.cells i hi
  exact ⟨b, off, h1, h2, h3 0 (by decide), h3 1 (by decide), h3 2 (by decide), h3 3 (by decide), h3 4 (by decide), h3 5 (by decide)⟩

set_option maxRecDepth 100000 in
set_option maxHeartbeats 2000000 in
theorem specSumOf_any (w : World) (a : Option Addr) (n cap : Nat) (xs : List RecV) (hr : recSh.Row w a n xs) (hn : n ≤ 1048576) (hv : ∀ i, (h : i < xs.length) → (xs[i]).val.size ≤ maxLen) :
    Calls Tryd.prog 26 #[.slice a n cap] w fun e w' => e = .returned (.int .i64 (crcN (cat xs) : Nat)) ∧ Below w.heap.size w w' := by
  have HR := hide hr
  have hlen := hr.len
  have HV := hide hv
  clear hr hv
  go_enter Tryd.func26, Tryd.ntmps26
  go_wp2
  go_loopw [3, 4] (fun v x wr => ∃ k : Nat, k ≤ n ∧ v = .string (cat (xs.take k)) ∧ x = .int .i64 k ∧ Hid (Below w.heap.size w wr)) (fun _ x _ => n - (intOf x).toNat)
  case atStart => exact ⟨0, by omega, rfl, rfl, hide (Below.refl _ _)⟩
  case round =>
    obtain ⟨k, hk, rfl, rfl, HB⟩ := hrel
    have hcs := cat_size xs k (by omega)
    by_cases hlt : k < n
    · have hkx : k < xs.length := by omega
      obtain ⟨b, off, rfl, hbw, c0, c1, c2, c3, c4, c5⟩ := rec_cells (HR.out.later HB.out) k hkx
      have HSH := hide (specShow_any (xs[k]) (HV.out k hkx))
      have h60 := show_size' (xs[k])
      have HC : Hid (cat (xs.take (k + 1)) = cat (xs.take k) ++ showS (xs[k])) := hide (cat_succ xs k hkx)
      have z1 : ¬ 9223372036854775807 < (cat (xs.take k)).size + (showS (xs[k])).size := by omega
      generalize showS (xs[k]) = S at *
      generalize cat (xs.take k) = A at *
      have hk2 : (k : Int) < (n : Int) := by omega
      go_wp2_with fail
      refine (HSH.out _).mono ?_
      rintro e w1 ⟨rfl, hb1⟩
      have HB1 := hide (HB.out.trans (hb1.mono HB.out.size))
      clear hb1 HB HSH c0 c1 c2 c3 c4 c5
      go_wp2
      go_roundw
      case rel => exact ⟨k + 1, by omega, by rw [HC.out], by go_num, HB1⟩
      case measure => first | (simp [intOf]; done) | (simp [intOf]; omega)
    · obtain rfl : k = n := by omega
      have HE : Hid (cat (xs.take k) = cat xs) := hide (by rw [List.take_of_length_le (by omega)])
      have HC := hide (specCrc_ans (cat (xs.take k)) (by omega))
      rw [HE.out] at HC
      go_wp2_with fail
      rw [HE.out]
      refine (HC.out _).mono ?_
      rintro e w1 ⟨rfl, hb1⟩
      have HB1 := hide (HB.out.trans (hb1.mono HB.out.size))
      clear hb1 HB HC
      go_wp2
      go_ret
      exact ⟨rfl, HB1.out⟩

end Go.Proofs.YtkcjlalkniaapaaDoor
