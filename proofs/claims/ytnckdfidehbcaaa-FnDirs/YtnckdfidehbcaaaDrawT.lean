/-
  What the functions that draw (spec's l1New, l1Once, l1Text) answer: functions of the bytes alone.
-/
import Derived.Test.YtnckdfidehbcaaaCur
namespace Go.Proofs.Ytnckdfidehbcaaa
open Go.RowKit
open Plain

theorem i64_and30 (n : Int) : bits .and .i64 n 1073741823 = n % 1073741824 := by
  have h30 : (BitVec.ofInt 64 1073741823).toNat = 2 ^ 30 - 1 := by decide
  have key : (BitVec.ofInt 64 n &&& BitVec.ofInt 64 1073741823).toNat = (n % ((2 ^ 64 : Nat) : Int)).toNat % 2 ^ 30 := by
    rw [BitVec.toNat_and, BitVec.toNat_ofInt, h30, Nat.and_two_pow_sub_one_eq_mod]
  show IntKind.i64.wrap ((BitVec.ofInt 64 n &&& BitVec.ofInt 64 1073741823).toNat : Nat) = n % 1073741824
  rw [key, IntKind.wrap_i64]
  omega
/-- The number that a new cursor holds, of the first k bytes. -/
def hs (zs : List Int) : Nat → Int
  | 0 => 10101 + (zs.length : Int)
  | k + 1 => bits .and .i64 (hs zs k * 131 + zs.getD k 0 + 7) 1073741823
theorem hs_bd (zs : List Int) (h : zs.length ≤ 1073741824) (k : Nat) : 0 ≤ hs zs k ∧ hs zs k ≤ 1073751925 := by
  cases k with
  | zero => simp only [hs]; omega
  | succ k => simp only [hs]; rw [i64_and30]; omega
/-- What a new cursor holds. -/
def st0 (zs : List Int) : Nat × Int := (0, hs zs (min zs.length 4000))

/-- The bytes of a draw, as they lie in the world. -/
structure CodeAt (w : World) (a : Option Addr) (len : Nat) (zs : List Int) : Prop where
  size : zs.length = len
  small : len ≤ 1073741824
  cells : ∀ j, j < len → ∃ b off, a = some ⟨b, off, none⟩ ∧ b < w.heap.size ∧ w.cell? ⟨b, off + j, none⟩ = some (.int .u8 (zs.getD j 0))
  bytes : ∀ j, 0 ≤ zs.getD j 0 ∧ zs.getD j 0 ≤ 255
theorem CodeAt.later {w w' : World} {a : Option Addr} {len : Nat} {zs : List Int} (h : CodeAt w a len zs) (hb : Below w.heap.size w w') : CodeAt w' a len zs where
  size := h.size
  small := h.small
  cells := fun j hj => by
    obtain ⟨b, off, h1, h2, h3⟩ := h.cells j hj
    exact ⟨b, off, h1, Nat.lt_of_lt_of_le h2 hb.size, by rw [hb.cell h2]; exact h3⟩
  bytes := h.bytes

theorem CodeAt.cur {w : World} {a : Option Addr} {len cap : Nat} {zs : List Int} (h : CodeAt w a len zs) (x : Int) : CurAt (w.alloc (.cells #[.slice a len cap, .int .i64 0, .int .i64 x] 73)) w.heap.size a len cap zs (0, x) where
  row := heap_alloc_new w _
  size := h.size
  small := h.small
  place := Nat.zero_le _
  cells := fun j hj => by
    obtain ⟨b, off, h1, h2, h3⟩ := h.cells j hj
    refine ⟨b, off, h1, h2, ?_⟩
    rw [World.cell?_of_block (w := w) (Below.heap_alloc _ _ _ h2)]
    exact h3
  bytes := h.bytes

set_option maxRecDepth 100000 in
set_option maxHeartbeats 1000000 in
theorem new_any (w : World) (a : Option Addr) (len cap : Nat) (zs : List Int) (hc : CodeAt w a len zs) :
    Calls Try.prog 23 #[.slice a len cap] w fun e w' => e = .returned (.pointer (some ⟨w.heap.size, 0, none⟩)) ∧ CurAt w' w.heap.size a len cap zs (st0 zs) ∧ Below w.heap.size w w' := by
  have hs' := hc.small
  have hzl := hc.size
  obtain ⟨m, hm, hm1, hm2⟩ : ∃ m : Nat, min zs.length 4000 = m ∧ m ≤ len ∧ m ≤ 4000 := ⟨min zs.length 4000, rfl, by omega, by omega⟩
  have HM : Hid (m = 4000 ∨ m = len) := hide (by omega)
  have H0 : Hid (hs zs 0 = 10101 + (len : Int)) := hide (by simp only [hs]; rw [hzl])
  have HST : Hid (st0 zs = (0, hs zs m)) := hide (by unfold st0; rw [hm])
  have HB := hide (hs_bd zs (by omega))
  have HC := hide hc
  clear hm hc hzl
  go_enter Try.func23, Try.ntmps23
  go_wp2
  go_loop [3, 4] (fun h i => ∃ k : Nat, k ≤ m ∧ i = .int .i64 k ∧ h = .int .i64 (hs zs k)) (fun _ i => m - (intOf i).toNat)
  case atStart => exact ⟨0, Nat.zero_le _, rfl, val_int H0.out.symm⟩
  case round =>
    obtain ⟨k, hk, rfl, rfl⟩ := hrel
    have hb := HB.out k
    by_cases hlt : k < m
    · obtain ⟨b, off, rfl, hbw, hcell⟩ := HC.out.cells k (by omega)
      have hz := HC.out.bytes k
      have HS : Hid (hs zs (k + 1) = bits .and .i64 (hs zs k * 131 + zs.getD k 0 + 7) 1073741823) := hide rfl
      generalize hs zs k = h at *
      generalize zs.getD k 0 = z at *
      have hk1 : k < len := by omega
      go_wp2
      go_round
      case rel => exact ⟨k + 1, by omega, by go_num, val_int HS.out.symm⟩
      case measure => simp [intOf]; omega
    · obtain rfl : k = m := by omega
      have HCU := hide (HC.out.cur (cap := cap) (hs zs k))
      generalize hs zs k = h at *
      by_cases hk2 : k < len
      · have hk4 : ¬ k < 4000 := by rcases HM.out with h | h <;> omega
        go_wp2
        go_ret
        exact ⟨rfl, by rw [HST.out]; exact HCU.out, (Below.refl _ _).alloc (Nat.le_refl _) _⟩
      · have hdk : decide (k < len) = false := by simpa using hk2
        go_wp2
        go_ret
        exact ⟨rfl, by rw [HST.out]; exact HCU.out, (Below.refl _ _).alloc (Nat.le_refl _) _⟩

theorem CurAt.alloc {w : World} {B : Nat} {a : Option Addr} {len cap : Nat} {zs : List Int} {st : Nat × Int} (h : CurAt w B a len cap zs st) (o : Obj) : CurAt (w.alloc o) B a len cap zs st where
  row := by rw [Below.heap_alloc _ _ _ (lt_of_block h.row)]; exact h.row
  size := h.size
  small := h.small
  place := h.place
  cells := fun j hj => by
    obtain ⟨b, off, h1, h2, h3⟩ := h.cells j hj
    exact ⟨b, off, h1, h2, by rw [World.cell?_of_block (w := w) (Below.heap_alloc _ _ _ (by have := lt_of_block h.row; show b < w.heap.size; omega))]; exact h3⟩
  bytes := h.bytes

theorem CurAt.below {w w' : World} {B K : Nat} {a : Option Addr} {len cap : Nat} {zs : List Int} {st : Nat × Int} (h : CurAt w B a len cap zs st) (hb : Below K w w') (hK : B < K) : CurAt w' B a len cap zs st where
  row := by rw [hb.block B hK]; exact h.row
  size := h.size
  small := h.small
  place := h.place
  cells := fun j hj => by
    obtain ⟨b, off, h1, h2, h3⟩ := h.cells j hj
    exact ⟨b, off, h1, h2, by rw [hb.cell (p := ⟨b, off + j, none⟩) (by show b < K; omega)]; exact h3⟩
  bytes := h.bytes
theorem grown_below {w w1 w2 : World} {r : Option Nat} (h : w.grownBy w1 r) (hb : Below w.heap.size w1 w2) : w.grownBy w2 r :=
  ⟨hb.os.trans h.os, hb.tape.trans h.tape, hb.output.trans h.output, Nat.le_trans h.size hb.size, fun k hk hr => (hb.block k hk).trans (h.block k hk hr)⟩

theorem below_cur {w w1 w2 : World} (hb : Below w.heap.size w w1) (hg : w1.grownBy w2 (some w.heap.size)) : Below w.heap.size w w2 :=
  hb.grown hg hb.size (fun k h => by injection h with h; omega)

end Go.Proofs.Ytnckdfidehbcaaa
