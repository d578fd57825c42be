/-
  The cursor over the bytes of a draw (spec's l1Cur): what it holds, and what the functions that draw from it answer: each a function of the bytes, the place and the number that it holds.
-/
import Derived.Test.YtnckdfidehbcaaaCore
import Derived.BigQuiet
import Derived.Deep.QuietTactic
namespace Go.Proofs.Ytnckdfidehbcaaa
open Go.RowKit
open Plain

theorem i64_and255 (n : Int) : bits .and .i64 n 255 = n % 256 := by
  have h255 : (BitVec.ofInt 64 255).toNat = 2 ^ 8 - 1 := by decide
  have key : (BitVec.ofInt 64 n &&& BitVec.ofInt 64 255).toNat = (n % ((2 ^ 64 : Nat) : Int)).toNat % 2 ^ 8 := by
    rw [BitVec.toNat_and, BitVec.toNat_ofInt, h255, Nat.and_two_pow_sub_one_eq_mod]
  show IntKind.i64.wrap ((BitVec.ofInt 64 n &&& BitVec.ofInt 64 255).toNat : Nat) = n % 256
  rw [key, IntKind.wrap_i64]
  omega

def stepH (h : Int) : Int := wrap64 (wrap64 (h * 6364136223846793005) + 1442695040888963407)
def bX (h : Int) : Int := bits .and .i64 (bits .xor .i64 (h / 8589934592) (h / 35184372088832)) 255
/-- The byte that is drawn next, and what the cursor holds behind it. -/
def bV (zs : List Int) (st : Nat × Int) : Int := if st.1 < zs.length then bits .and .i64 (wrap64 (bX (stepH st.2) + zs.getD st.1 0)) 255 else bX (stepH st.2)
def bS (zs : List Int) (st : Nat × Int) : Nat × Int := (if st.1 < zs.length then st.1 + 1 else st.1, stepH st.2)
theorem bX_bd (h : Int) : 0 ≤ bX h ∧ bX h ≤ 255 := by unfold bX; rw [i64_and255]; omega
theorem bV_bd (zs : List Int) (st : Nat × Int) : 0 ≤ bV zs st ∧ bV zs st ≤ 255 := by
  unfold bV
  split
  · rw [i64_and255]; omega
  · exact bX_bd _

/-- In the world w block B holds the cursor: the slice (a, len, cap) over the bytes zs, the place and the number; the bytes lie in another, older block. -/
structure CurAt (w : World) (B : Nat) (a : Option Addr) (len cap : Nat) (zs : List Int) (st : Nat × Int) : Prop where
  row : w.heap[B]? = some (.cells #[.slice a len cap, .int .i64 st.1, .int .i64 st.2] 73 (0, 0))
  size : zs.length = len
  small : len ≤ 1073741824
  place : st.1 ≤ len
  cells : ∀ j, j < len → ∃ b off, a = some ⟨b, off, none⟩ ∧ b < B ∧ w.cell? ⟨b, off + j, none⟩ = some (.int .u8 (zs.getD j 0))
  bytes : ∀ j, 0 ≤ zs.getD j 0 ∧ zs.getD j 0 ≤ 255

theorem CurAt.cell0 {w : World} {B : Nat} {a : Option Addr} {len cap : Nat} {zs : List Int} {st : Nat × Int} (h : CurAt w B a len cap zs st) : w.cell? ⟨B, 0, none⟩ = some (.slice a len cap) := by rw [cell_of_row w B 0 _ _ _ h.row]; rfl
theorem CurAt.cell1 {w : World} {B : Nat} {a : Option Addr} {len cap : Nat} {zs : List Int} {st : Nat × Int} (h : CurAt w B a len cap zs st) : w.cell? ⟨B, 1, none⟩ = some (.int .i64 st.1) := by rw [cell_of_row w B 1 _ _ _ h.row]; rfl
theorem CurAt.cell2 {w : World} {B : Nat} {a : Option Addr} {len cap : Nat} {zs : List Int} {st : Nat × Int} (h : CurAt w B a len cap zs st) : w.cell? ⟨B, 2, none⟩ = some (.int .i64 st.2) := by rw [cell_of_row w B 2 _ _ _ h.row]; rfl
theorem CurAt.free {w : World} {B : Nat} {a : Option Addr} {len cap : Nat} {zs : List Int} {st : Nat × Int} (h : CurAt w B a len cap zs st) (j : Nat) : w.frozen? ⟨B, j, none⟩ = false := by simp [World.frozen?, h.row]

theorem CurAt.same {w w' : World} {B : Nat} {a : Option Addr} {len cap : Nat} {zs : List Int} {st : Nat × Int} (h : CurAt w B a len cap zs st) (e : w'.heap = w.heap) : CurAt w' B a len cap zs st where
  row := by rw [e]; exact h.row
  size := h.size
  small := h.small
  place := h.place
  cells := fun j hj => by
    obtain ⟨b, off, h1, h2, h3⟩ := h.cells j hj
    exact ⟨b, off, h1, h2, by rw [World.cell?_of_block (w := w) (by rw [e])]; exact h3⟩
  bytes := h.bytes
theorem grown_same {w w1 w' : World} {r : Option Nat} (h : w.grownBy w1 r) (e1 : w'.os = w1.os) (e2 : w'.tape = w1.tape) (e3 : w'.output = w1.output) (e4 : w'.heap = w1.heap) : w.grownBy w' r :=
  ⟨e1.trans h.os, e2.trans h.tape, e3.trans h.output, by rw [e4]; exact h.size, fun k hk hr => by rw [e4]; exact h.block k hk hr⟩
theorem grown_set (w : World) (B : Nat) (cs : Array Value) : w.grownBy (w.setRow B cs) (some B) :=
  ⟨rfl, rfl, rfl, by simp [World.setRow], fun k _ hr => setRow_other w B k cs (fun e => hr (by rw [e]))⟩
theorem grown_trans {a b c : World} {r : Option Nat} (h : a.grownBy b r) (k : b.grownBy c r) : a.grownBy c r :=
  ⟨k.os.trans h.os, k.tape.trans h.tape, k.output.trans h.output, Nat.le_trans h.size k.size, fun i hi hr => (k.block i (Nat.lt_of_lt_of_le hi h.size) hr).trans (h.block i hi hr)⟩
/-- The cursor behind two stores. -/
theorem cur_row {w : World} {B : Nat} {a : Option Addr} {len cap : Nat} {zs : List Int} {st : Nat × Int} (h : CurAt w B a len cap zs st) (i : Nat) (x : Int) (hi : i ≤ len) :
    CurAt (w.setRow B #[.slice a len cap, .int .i64 i, .int .i64 x]) B a len cap zs (i, x) where
  row := setRow_heap w B _ _ _ _ h.row
  size := h.size
  small := h.small
  place := hi
  cells := fun j hj => by
    obtain ⟨b, off, h1, h2, h3⟩ := h.cells j hj
    refine ⟨b, off, h1, h2, ?_⟩
    rw [World.cell?_of_block (w := w) (setRow_other w B b _ (by omega))]
    exact h3
  bytes := h.bytes
theorem two_stores {w : World} {B : Nat} {a : Option Addr} {len cap : Nat} {zs : List Int} {st : Nat × Int} (h : CurAt w B a len cap zs st) (i : Int) (x : Int) :
    (w.setCell ⟨B, 2, none⟩ (.int .i64 x)).setCell ⟨B, 1, none⟩ (.int .i64 i) = w.setRow B #[.slice a len cap, .int .i64 i, .int .i64 x] := by
  rw [setCell_eq_setRow w B 2 _ _ _ _ h.row]
  rw [setCell_eq_setRow _ B 1 _ _ _ _ (setRow_heap w B _ _ _ _ h.row), setRow_setRow]
  rfl
theorem one_store {w : World} {B : Nat} {a : Option Addr} {len cap : Nat} {zs : List Int} {st : Nat × Int} (h : CurAt w B a len cap zs st) (x : Int) :
    w.setCell ⟨B, 2, none⟩ (.int .i64 x) = w.setRow B #[.slice a len cap, .int .i64 st.1, .int .i64 x] := by
  rw [setCell_eq_setRow w B 2 _ _ _ _ h.row]
  rfl

set_option maxRecDepth 100000 in
set_option maxHeartbeats 1000000 in
theorem byte_any (w : World) (B : Nat) (a : Option Addr) (len cap : Nat) (zs : List Int) (st : Nat × Int) (hc : CurAt w B a len cap zs st) :
    Calls Try.prog 55 #[.pointer (some ⟨B, 0, none⟩)] w fun e w' => e = .returned (.int .i64 (bV zs st)) ∧ CurAt w' B a len cap zs (bS zs st) ∧ w.grownBy w' (some B) := by
  obtain ⟨i, h⟩ := st
  have c0 := hc.cell0
  have c1 := hc.cell1
  have c2 := hc.cell2
  have f1 := hc.free 1
  have f2 := hc.free 2
  have hi := hc.place
  have hs := hc.small
  have hzl := hc.size
  obtain ⟨H, hH⟩ : ∃ H, wrap64 (wrap64 (h * 6364136223846793005) + 1442695040888963407) = H := ⟨_, rfl⟩
  have HS : Hid (stepH h = H) := hide hH
  simp only at c1 c2 hi
  by_cases hlt : i < len
  · obtain ⟨b, off, rfl, hbB, hcell⟩ := hc.cells i hlt
    have hb := hc.bytes i
    have HV : Hid (bV zs (i, h) = bits .and .i64 (wrap64 (bits .and .i64 (bits .xor .i64 (H / 8589934592) (H / 35184372088832)) 255 + zs.getD i 0)) 255) := hide (by unfold bV; rw [if_pos (by rw [hzl]; exact hlt), HS.out]; rfl)
    have HT : Hid (bS zs (i, h) = (i + 1, H)) := hide (by unfold bS; rw [if_pos (by rw [hzl]; exact hlt), HS.out])
    generalize zs.getD i 0 = z at *
    have HW := hide (two_stores hc ((i : Int) + 1) H)
    have HC := hide (cur_row hc (i + 1) H (by omega))
    have HG := hide (grown_set w B #[.slice (some ⟨b, off, none⟩) len cap, .int .i64 ((i + 1 : Nat) : Int), .int .i64 H])
    clear hc hzl
    go_enter Try.func55, Try.ntmps55
    go_wp2
    go_quiet (fail)
    go_wp2
    go_quiet (fail)
    go_wp2
    go_quiet (fail)
    go_wp2
    go_ret
    refine ⟨?_, ?_, ?_⟩
    · rw [HV.out]; rfl
    · rw [HT.out]
      refine HC.out.same ?_
      show _ = (w.setRow B #[.slice (some ⟨b, off, none⟩) len cap, .int .i64 ((i : Int) + 1), .int .i64 H]).heap
      rw [← HW.out]
      rfl
    · refine grown_same HG.out rfl rfl rfl ?_
      show _ = (w.setRow B #[.slice (some ⟨b, off, none⟩) len cap, .int .i64 ((i : Int) + 1), .int .i64 H]).heap
      rw [← HW.out]
      rfl
  · have HV : Hid (bV zs (i, h) = bits .and .i64 (bits .xor .i64 (H / 8589934592) (H / 35184372088832)) 255) := hide (by unfold bV; rw [if_neg (by rw [hzl]; exact hlt), HS.out]; rfl)
    have HT : Hid (bS zs (i, h) = (i, H)) := hide (by unfold bS; rw [if_neg (by rw [hzl]; exact hlt), HS.out])
    have HW := hide (one_store hc H)
    have HC := hide (cur_row hc i H (by omega))
    have HG := hide (grown_set w B #[.slice a len cap, .int .i64 (i : Int), .int .i64 H])
    clear hc hzl
    go_enter Try.func55, Try.ntmps55
    go_wp2
    go_quiet (fail)
    go_wp2
    go_quiet (fail)
    go_wp2
    go_ret
    refine ⟨?_, ?_, ?_⟩
    · rw [HV.out]; rfl
    · rw [HT.out]
      refine HC.out.same ?_
      show _ = (w.setRow B #[.slice a len cap, .int .i64 (i : Int), .int .i64 H]).heap
      rw [← HW.out]
      rfl
    · refine grown_same HG.out rfl rfl rfl ?_
      rw [← HW.out]
      rfl

/-- A number below n, and what the cursor holds behind it. -/
def lV (zs : List Int) (n : Int) (st : Nat × Int) : Int :=
  if n ≤ 0 then 0 else if n ≤ 256 then bV zs st % n else
    (bV zs st * 16777216 + bV zs (bS zs st) * 65536 + bV zs (bS zs (bS zs st)) * 256 + bV zs (bS zs (bS zs (bS zs st)))) % n
def lS (zs : List Int) (n : Int) (st : Nat × Int) : Nat × Int :=
  if n ≤ 0 then st else if n ≤ 256 then bS zs st else bS zs (bS zs (bS zs (bS zs st)))
theorem lV_bd (zs : List Int) (n : Int) (st : Nat × Int) (h : 0 < n) : 0 ≤ lV zs n st ∧ lV zs n st < n := by
  unfold lV
  rw [if_neg (by omega)]
  split
  · exact ⟨Int.emod_nonneg _ (by omega), Int.emod_lt_of_pos _ h⟩
  · exact ⟨Int.emod_nonneg _ (by omega), Int.emod_lt_of_pos _ h⟩

set_option maxRecDepth 100000 in
set_option maxHeartbeats 1000000 in
theorem below_any (n : Int) (w : World) (B : Nat) (a : Option Addr) (len cap : Nat) (zs : List Int) (st : Nat × Int) (hc : CurAt w B a len cap zs st) :
    Calls Try.prog 42 #[.pointer (some ⟨B, 0, none⟩), .int .i64 n] w fun e w' => e = .returned (.int .i64 (lV zs n st)) ∧ CurAt w' B a len cap zs (lS zs n st) ∧ w.grownBy w' (some B) := by
  have HC := hide hc
  clear hc
  by_cases h0 : n ≤ 0
  · have HV : Hid (lV zs n st = 0) := hide (by unfold lV; rw [if_pos h0])
    have HS : Hid (lS zs n st = st) := hide (by unfold lS; rw [if_pos h0])
    go_enter Try.func42, Try.ntmps42
    go_wp2
    go_ret
    refine ⟨by rw [HV.out]; rfl, by rw [HS.out]; exact HC.out, ⟨rfl, rfl, rfl, Nat.le_refl _, fun _ _ _ => rfl⟩⟩
  · by_cases h1 : n ≤ 256
    · have HV : Hid (lV zs n st = bV zs st % n) := hide (by unfold lV; rw [if_neg h0, if_pos h1])
      have HS : Hid (lS zs n st = bS zs st) := hide (by unfold lS; rw [if_neg h0, if_pos h1])
      have hb := bV_bd zs st
      have hn0 : (n == 0) = false := by simp; omega
      go_enter Try.func42, Try.ntmps42
      go_wp2_with fail
      refine (byte_any w B a len cap zs st HC.out).mono ?_
      rintro e w1 ⟨rfl, hc1, hg1⟩
      have HC1 := hide hc1
      have HG1 := hide hg1
      clear hc1 hg1
      generalize bV zs st = x at *
      go_wp2
      go_ret
      exact ⟨by rw [HV.out]; rfl, by rw [HS.out]; exact HC1.out, HG1.out⟩
    · have HV : Hid (lV zs n st = (bV zs st * 16777216 + bV zs (bS zs st) * 65536 + bV zs (bS zs (bS zs st)) * 256 + bV zs (bS zs (bS zs (bS zs st)))) % n) := hide (by unfold lV; rw [if_neg h0, if_neg h1])
      have HS : Hid (lS zs n st = bS zs (bS zs (bS zs (bS zs st)))) := hide (by unfold lS; rw [if_neg h0, if_neg h1])
      have hb0 := bV_bd zs st
      have hb1 := bV_bd zs (bS zs st)
      have hb2 := bV_bd zs (bS zs (bS zs st))
      have hb3 := bV_bd zs (bS zs (bS zs (bS zs st)))
      have hn0 : (n == 0) = false := by simp; omega
      go_enter Try.func42, Try.ntmps42
      go_wp2_with fail
      refine (byte_any w B a len cap zs st HC.out).mono ?_
      rintro e w1 ⟨rfl, hc1, hg1⟩
      have HC1 := hide hc1
      have HG1 := hide hg1
      clear hc1 hg1
      go_wp2_with fail
      refine (byte_any w1 B a len cap zs (bS zs st) HC1.out).mono ?_
      rintro e w2 ⟨rfl, hc2, hg2⟩
      have HC2 := hide hc2
      have HG2 := hide hg2
      clear hc2 hg2
      go_wp2_with fail
      refine (byte_any w2 B a len cap zs (bS zs (bS zs st)) HC2.out).mono ?_
      rintro e w3 ⟨rfl, hc3, hg3⟩
      have HC3 := hide hc3
      have HG3 := hide hg3
      clear hc3 hg3
      go_wp2_with fail
      refine (byte_any w3 B a len cap zs (bS zs (bS zs (bS zs st))) HC3.out).mono ?_
      rintro e w4 ⟨rfl, hc4, hg4⟩
      have HC4 := hide hc4
      have HG4 := hide (grown_trans HG1.out (grown_trans HG2.out (grown_trans HG3.out hg4)))
      clear hc4 hg4 HC1 HC2 HC3 HG1 HG2 HG3 HC
      generalize bV zs (bS zs (bS zs (bS zs st))) = x3 at *
      generalize bV zs (bS zs (bS zs st)) = x2 at *
      generalize bV zs (bS zs st) = x1 at *
      generalize bV zs st = x0 at *
      go_wp2
      go_ret
      exact ⟨by rw [HV.out]; rfl, by rw [HS.out]; exact HC4.out, HG4.out⟩

end Go.Proofs.Ytnckdfidehbcaaa
