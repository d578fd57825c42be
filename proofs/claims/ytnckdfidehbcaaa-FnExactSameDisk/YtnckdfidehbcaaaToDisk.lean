/-
  What the laws' toFile, toFileS and toDisk answer: the same files, in a row of their own.
-/
import Derived.Test.YtnckdfidehbcaaaFiles
namespace Go.Proofs.Ytnckdfidehbcaaa
open Go.RowKit
open Plain

set_option maxHeartbeats 400000 in
theorem toFile_any (f : FileV) (w : World) :
    Calls Try.prog 53 #[.agg #[.string f.name, .string f.text, .int .i64 f.safe]] w fun e w' => e = .returned (.agg #[.string f.name, .string f.text, .int .i64 f.safe]) ∧ Below w.heap.size w w' := by
  go_enter Try.func53, Try.ntmps53
  go_wp2
  refine bodyPost_ret (v := .agg #[.string f.name, .string f.text, .int .i64 f.safe]) (by simp [results, Try.results53, go_sem]) rfl ⟨rfl, ?_⟩
  exact (((Below.refl _ w).alloc (Nat.le_refl _) _).alloc (by simp) _).alloc (by simp; omega) _

theorem Try.infoF : (Try.prog.info? 65).map (fun i => (i.zero, i.size, i.bytes)) = some (some (.agg #[.string ⟨#[]⟩, .string ⟨#[]⟩, .int .i64 0]), 3, 40) := by kernel_rfl

theorem take_set_succ (gs fs : List FileV) (k : Nat) (hk : k < fs.length) (hg : k < gs.length) (h : gs.take k = fs.take k) : (gs.set k (fs[k])).take (k + 1) = fs.take (k + 1) := by
  rw [List.take_succ_eq_append_getElem (by rw [List.length_set]; exact hg), List.take_succ_eq_append_getElem hk, List.take_set_of_le (Nat.le_refl _), h]
  simp

set_option maxRecDepth 100000 in
set_option maxHeartbeats 1000000 in
theorem toFileS_any (w : World) (a : Option Addr) (len cap : Nat) (fs : List FileV) (hr : FRow w 0 a len fs) (hl : len ≤ 1048576) :
    Calls Try.prog 36 #[.slice a len cap] w fun e w' => e = .returned (.slice (some ⟨w.heap.size, 0, none⟩) len len) ∧ FOwn w' w.heap.size (.slice (some ⟨w.heap.size, 0, none⟩) len len) fs ∧ Below w.heap.size w w' := by
  have HR := hide hr
  have hlen := hr.len
  clear hr
  obtain ⟨i0, hi, hz0, hz1, hz2⟩ := info_parts Try.infoF
  obtain ⟨w1, hmk, hown, hgrow⟩ := run_make_full (P := Try.prog) w w.heap.size 42 65 i0 _ 3 Try.underlying42 hi hz0 hz1 .i64 .i64 len (by rw [hz2]; omega) (by unfold maxLen; omega) (Nat.le_refl _)
  have HB1 := hide ((Below.refl w.heap.size w).grown hgrow (Nat.le_refl _) (by intro k h; cases h))
  have HO1 : Hid (FOwn w1 w.heap.size (.slice (some ⟨w.heap.size, 0, none⟩) len len) (List.replicate len zeroF)) := hide (by
    unfold FOwn
    rw [List.length_replicate, fcells_zero]
    exact hown)
  clear hown hgrow hi hz0 hz1 hz2
  go_enter Try.func36, Try.ntmps36
  go_wp2
  go_loopw [4] (fun i wr => ∃ (k : Nat) (gs : List FileV), k ≤ len ∧ i = .int .i64 k ∧ Hid (gs.length = len ∧ gs.take k = fs.take k) ∧ Hid (FOwn wr w.heap.size (.slice (some ⟨w.heap.size, 0, none⟩) len len) gs) ∧ Hid (Below w.heap.size w wr)) (fun i _ => len - (intOf i).toNat)
  case atStart => exact ⟨0, _, by omega, rfl, hide (by simp), HO1, HB1⟩
  case round =>
    clear hmk HO1 HB1
    obtain ⟨k, gs, hk, rfl, HG, HO, HB⟩ := hrel
    by_cases hlt : k < len
    · have hkf : k < fs.length := by omega
      obtain ⟨b, off, rfl, -, hbw, e1, e2, e3⟩ := (HR.out.later HB.out (Nat.le_refl _)).cells k hkf
      go_wp2_with fail
      refine (toFile_any (fs[k]) wr).mono ?_
      rintro e w2 ⟨rfl, hb2⟩
      have HO2 := hide (HO.out.later hb2 (Nat.le_refl _))
      have HB2 := hide (HB.out.trans (hb2.mono HB.out.size))
      have HP := hide (HO2.out.put k (fs[k]) hlt)
      have hw := HO2.out
      unfold FOwn at hw
      rw [HO2.out.len] at hw
      have f1 := hw.frozenAt (k * 3)
      have f2 := hw.frozenAt (k * 3 + 1)
      have f3 := hw.frozenAt (k * 3 + 2)
      obtain ⟨b', o', q0, -, -, q1, q2, q3⟩ := HO2.out.row.cells k (by rw [HO2.out.len]; omega)
      simp only [Option.some.injEq, Addr.mk.injEq] at q0
      obtain ⟨rfl, rfl, -⟩ := q0
      rw [Nat.zero_add] at q1 q2 q3
      clear hb2 e1 e2 e3 HB hw HO
      have HG2 : Hid ((gs.set k (fs[k])).length = len ∧ (gs.set k (fs[k])).take (k + 1) = fs.take (k + 1)) := hide ⟨by rw [List.length_set]; exact HG.out.1, take_set_succ gs fs k hkf (by have := HG.out.1; omega) HG.out.2⟩
      have HB3 := hide (HB2.out.grown HP.out.2 HB2.out.size (by intro j h; injection h with h; omega))
      clear HB2 HG
      go_wp2
      go_roundw
      case rel => exact ⟨k + 1, gs.set k (fs[k]), by omega, by go_num, HG2, hide HP.out.1, HB3⟩
      case measure => first | (simp [intOf]; done) | (simp [intOf]; omega)
    · obtain rfl : k = len := by omega
      have HE : Hid (gs = fs) := hide (by
        have h := HG.out
        rw [List.take_of_length_le (by omega), List.take_of_length_le (by omega)] at h
        exact h.2)
      clear HG
      go_wp2
      go_ret
      exact ⟨rfl, by rw [← HE.out]; exact HO.out, HB.out⟩

/-- A disk as a Go value. -/
def diskVal (v : Value) (c u : Int) (dn : Bool) : Value := .agg #[v, .int .i64 c, .int .i64 u, .bool dn]

set_option maxHeartbeats 1000000 in
theorem toDisk_any (w : World) (a : Option Addr) (len cap : Nat) (fs : List FileV) (hr : FRow w 0 a len fs) (hl : len ≤ 1048576) (c u : Int) (dn : Bool) :
    Calls Try.prog 16 #[.agg #[.slice a len cap, .int .i64 c, .int .i64 u, .bool dn]] w fun e w' => (∃ g, e = .returned (.agg #[.slice (some ⟨g, 0, none⟩) len len, .int .i64 c, .int .i64 u, .bool dn]) ∧ FOwn w' w.heap.size (.slice (some ⟨g, 0, none⟩) len len) fs) ∧ Below w.heap.size w w' := by
  obtain ⟨W, hW⟩ : ∃ W, W = ((w.alloc (.cells #[.slice a len cap, .int .i64 c, .int .i64 u, .bool dn] 39)).alloc (.cells #[.slice none 0 0, .int .i64 0, .int .i64 0, .bool false] 44)).alloc (.cells #[.slice none 0 0, .int .i64 0, .int .i64 0, .bool false] 44) := ⟨_, rfl⟩
  have hA := alloc3 w (.cells #[.slice a len cap, .int .i64 c, .int .i64 u, .bool dn] 39) (.cells #[.slice none 0 0, .int .i64 0, .int .i64 0, .bool false] 44) (.cells #[.slice none 0 0, .int .i64 0, .int .i64 0, .bool false] 44)
  rw [← hW] at hA
  have HS := hide hA.1
  have HB0 := hide hA.2.1
  have HC0 := hide hA.2.2.1
  have HC1 := hide hA.2.2.2.1
  have HC2 := hide hA.2.2.2.2
  clear hA
  have HR := hide (hr.later HB0.out (Nat.le_refl _))
  clear hr
  go_enter Try.func16, Try.ntmps16
  go_wp2_with fail
  rw [← hW]
  clear hW
  refine (toFileS_any W a len cap fs HR.out hl).mono ?_
  rintro e w2 ⟨rfl, ho2, hb2⟩
  obtain ⟨g, hg⟩ : ∃ g, W.heap.size = g := ⟨_, rfl⟩
  have hgs : g = w.heap.size + 3 := by rw [← hg]; exact HS.out
  have d0 := cells4 ((hb2.block _ (by have := HS.out; omega)).trans HC0.out)
  have d1 := cells4 ((hb2.block _ (by have := HS.out; omega)).trans HC1.out)
  have d2 := cells4 ((hb2.block _ (by have := HS.out; omega)).trans HC2.out)
  have HB2 := hide (HB0.out.trans (hb2.mono HB0.out.size))
  rw [hg] at ho2
  have HO2 := hide ho2
  clear hb2 ho2 HC0 HC1 HC2 HS HB0 HR
  obtain ⟨a0, a1, a2, a3, -, -, -, -⟩ := d0
  obtain ⟨b0, b1, b2, b3, k0, k1, k2, k3⟩ := d1
  obtain ⟨c0, c1, c2, c3, l0, l1, l2, l3⟩ := d2
  have hlt : w.heap.size ≤ g := by omega
  go_wp2
  refine bodyPost_ret (v := .agg #[.slice (some ⟨w.heap.size + 3, 0, none⟩) len len, .int .i64 c, .int .i64 u, .bool dn]) (by simp [results, Try.results16, go_sem, *]) rfl ⟨⟨w.heap.size + 3, rfl, ?_⟩, ?_⟩
  · rw [← hgs]
    refine FOwn.mono ?_ hlt
    iterate 8 (refine FOwn.setCell ?_ _ _ (by simp; omega))
    exact HO2.out
  · iterate 8 (refine Below.setCell ?_ (by dsimp only; omega) _)
    exact HB2.out

end Go.Proofs.Ytnckdfidehbcaaa
