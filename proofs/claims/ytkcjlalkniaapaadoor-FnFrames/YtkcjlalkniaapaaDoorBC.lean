/-
  The cursor over the bytes of a draw (spec's l1Cur): what it holds, and what the functions that draw from it answer: each a function of the bytes, the place and the number that it holds. Rows of structs: a slice whose elements are k cells each, read and owned; for every kind of element. Rows of records and of spots.
-/
import Derived.Test.YtkcjlalkniaapaaDoorBA
import Derived.BigQuiet
import Derived.Deep.QuietTactic
import Derived.Below
namespace Go.Proofs.YtkcjlalkniaapaaDoor
open Go.RowKit
open Plain

theorem i64_and255 (n : Int) : bits .and .i64 n 255 = n % 256 := by
  have h255 : (BitVec.ofInt 64 255).toNat = 2 ^ 8 - 1 := by decide
  have key : (BitVec.ofInt 64 n &&& BitVec.ofInt 64 255).toNat = (n % ((2 ^ 64 : Nat) : Int)).toNat % 2 ^ 8 := by
    rw [BitVec.toNat_and, BitVec.toNat_ofInt, h255, Nat.and_two_pow_sub_one_eq_mod]
  show IntKind.i64.wrap ((BitVec.ofInt 64 n &&& BitVec.ofInt 64 255).toNat : Nat) = n % 256
  rw [key, IntKind.wrap_i64]
  omega

def stepH (h : Int) : Int := wrap64 (wrap64 (h * 6364136223846793005) + 1442695040888963407)
def bX (h : Int) : Int := bits .and .i64 (bits .xor .i64 (h / 8589934592) (h / 35184372088832)) 255
/-- The byte that is drawn next, and what the cursor holds behind it. -/
def bV (zs : List Int) (st : Nat × Int) : Int := if st.1 < zs.length then bits .and .i64 (wrap64 (bX (stepH st.2) + zs.getD st.1 0)) 255 else bX (stepH st.2)
def bS (zs : List Int) (st : Nat × Int) : Nat × Int := (if st.1 < zs.length then st.1 + 1 else st.1, stepH st.2)
theorem bX_bd (h : Int) : 0 ≤ bX h ∧ bX h ≤ 255 := by unfold bX; rw [i64_and255]; omega
theorem bV_bd (zs : List Int) (st : Nat × Int) : 0 ≤ bV zs st ∧ bV zs st ≤ 255 := by
  unfold bV
  split
  · rw [i64_and255]; omega
  · exact bX_bd _

/-- In the world w block B holds the cursor: the slice (a, len, cap) over the bytes zs, the place and the number; the bytes lie in another, older block. -/
structure CurAt (w : World) (B : Nat) (a : Option Addr) (len cap : Nat) (zs : List Int) (st : Nat × Int) : Prop where
  row : w.heap[B]? = some (.cells #[.slice a len cap, .int .i64 st.1, .int .i64 st.2] 87 (0, 0))
  size : zs.length = len
  small : len ≤ 1073741824
  place : st.1 ≤ len
  cells : ∀ j, j < len → ∃ b off, a = some ⟨b, off, none⟩ ∧ b < B ∧ w.cell? ⟨b, off + j, none⟩ = some (.int .u8 (zs.getD j 0))
  bytes : ∀ j, 0 ≤ zs.getD j 0 ∧ zs.getD j 0 ≤ 255

theorem CurAt.cell0 {w : World} {B : Nat} {a : Option Addr} {len cap : Nat} {zs : List Int} {st : Nat × Int} (h : CurAt w B a len cap zs st) : w.cell? ⟨B, 0, none⟩ = some (.slice a len cap) := by rw [cell_of_row w B 0 _ _ _ h.row]; rfl
theorem CurAt.cell1 {w : World} {B : Nat} {a : Option Addr} {len cap : Nat} {zs : List Int} {st : Nat × Int} (h : CurAt w B a len cap zs st) : w.cell? ⟨B, 1, none⟩ = some (.int .i64 st.1) := by rw [cell_of_row w B 1 _ _ _ h.row]; rfl
theorem CurAt.cell2 {w : World} {B : Nat} {a : Option Addr} {len cap : Nat} {zs : List Int} {st : Nat × Int} (h : CurAt w B a len cap zs st) : w.cell? ⟨B, 2, none⟩ = some (.int .i64 st.2) := by rw [cell_of_row w B 2 _ _ _ h.row]; rfl
theorem CurAt.free {w : World} {B : Nat} {a : Option Addr} {len cap : Nat} {zs : List Int} {st : Nat × Int} (h : CurAt w B a len cap zs st) (j : Nat) : w.frozen? ⟨B, j, none⟩ = false := by simp [World.frozen?, h.row]

theorem CurAt.same {w w' : World} {B : Nat} {a : Option Addr} {len cap : Nat} {zs : List Int} {st : Nat × Int} (h : CurAt w B a len cap zs st) (e : w'.heap = w.heap) : CurAt w' B a len cap zs st where
  row := by rw [e]; exact h.row
  size := h.size
  small := h.small
  place := h.place
  cells := fun j hj => by
    obtain ⟨b, off, h1, h2, h3⟩ := h.cells j hj
    exact ⟨b, off, h1, h2, by rw [World.cell?_of_block (w := w) (by rw [e])]; exact h3⟩
  bytes := h.bytes
theorem grown_same {w w1 w' : World} {r : Option Nat} (h : w.grownBy w1 r) (e1 : w'.os = w1.os) (e2 : w'.tape = w1.tape) (e3 : w'.output = w1.output) (e4 : w'.heap = w1.heap) : w.grownBy w' r :=
  ⟨e1.trans h.os, e2.trans h.tape, e3.trans h.output, by rw [e4]; exact h.size, fun k hk hr => by rw [e4]; exact h.block k hk hr⟩
theorem grown_set (w : World) (B : Nat) (cs : Array Value) : w.grownBy (w.setRow B cs) (some B) :=
  ⟨rfl, rfl, rfl, by simp [World.setRow], fun k _ hr => setRow_other w B k cs (fun e => hr (by rw [e]))⟩
theorem grown_trans {a b c : World} {r : Option Nat} (h : a.grownBy b r) (k : b.grownBy c r) : a.grownBy c r :=
  ⟨k.os.trans h.os, k.tape.trans h.tape, k.output.trans h.output, Nat.le_trans h.size k.size, fun i hi hr => (k.block i (Nat.lt_of_lt_of_le hi h.size) hr).trans (h.block i hi hr)⟩
/-- The cursor behind two stores. -/
theorem cur_row {w : World} {B : Nat} {a : Option Addr} {len cap : Nat} {zs : List Int} {st : Nat × Int} (h : CurAt w B a len cap zs st) (i : Nat) (x : Int) (hi : i ≤ len) :
    CurAt (w.setRow B #[.slice a len cap, .int .i64 i, .int .i64 x]) B a len cap zs (i, x) where
  row := setRow_heap w B _ _ _ _ h.row
  size := h.size
  small := h.small
  place := hi
  cells := fun j hj => by
    obtain ⟨b, off, h1, h2, h3⟩ := h.cells j hj
    refine ⟨b, off, h1, h2, ?_⟩
    rw [World.cell?_of_block (w := w) (setRow_other w B b _ (by omega))]
    exact h3
  bytes := h.bytes
theorem two_stores {w : World} {B : Nat} {a : Option Addr} {len cap : Nat} {zs : List Int} {st : Nat × Int} (h : CurAt w B a len cap zs st) (i : Int) (x : Int) :
    (w.setCell ⟨B, 2, none⟩ (.int .i64 x)).setCell ⟨B, 1, none⟩ (.int .i64 i) = w.setRow B #[.slice a len cap, .int .i64 i, .int .i64 x] := by
  rw [setCell_eq_setRow w B 2 _ _ _ _ h.row]
  rw [setCell_eq_setRow _ B 1 _ _ _ _ (setRow_heap w B _ _ _ _ h.row), setRow_setRow]
  rfl
theorem one_store {w : World} {B : Nat} {a : Option Addr} {len cap : Nat} {zs : List Int} {st : Nat × Int} (h : CurAt w B a len cap zs st) (x : Int) :
    w.setCell ⟨B, 2, none⟩ (.int .i64 x) = w.setRow B #[.slice a len cap, .int .i64 st.1, .int .i64 x] := by
  rw [setCell_eq_setRow w B 2 _ _ _ _ h.row]
  rfl

set_option maxRecDepth 100000 in
set_option maxHeartbeats 1000000 in
theorem byte_any (w : World) (B : Nat) (a : Option Addr) (len cap : Nat) (zs : List Int) (st : Nat × Int) (hc : CurAt w B a len cap zs st) :
    Calls Tryd.prog 57 #[.pointer (some ⟨B, 0, none⟩)] w fun e w' => e = .returned (.int .i64 (bV zs st)) ∧ CurAt w' B a len cap zs (bS zs st) ∧ w.grownBy w' (some B) := by
  obtain ⟨i, h⟩ := st
  have c0 := hc.cell0
  have c1 := hc.cell1
  have c2 := hc.cell2
  have f1 := hc.free 1
  have f2 := hc.free 2
  have hi := hc.place
  have hs := hc.small
  have hzl := hc.size
  obtain ⟨H, hH⟩ : ∃ H, wrap64 (wrap64 (h * 6364136223846793005) + 1442695040888963407) = H := ⟨_, rfl⟩
  have HS : Hid (stepH h = H) := hide hH
  simp only at c1 c2 hi
  by_cases hlt : i < len
  · obtain ⟨b, off, rfl, hbB, hcell⟩ := hc.cells i hlt
    have hb := hc.bytes i
    have HV : Hid (bV zs (i, h) = bits .and .i64 (wrap64 (bits .and .i64 (bits .xor .i64 (H / 8589934592) (H / 35184372088832)) 255 + zs.getD i 0)) 255) := hide (by unfold bV; rw [if_pos (by rw [hzl]; exact hlt), HS.out]; rfl)
    have HT : Hid (bS zs (i, h) = (i + 1, H)) := hide (by unfold bS; rw [if_pos (by rw [hzl]; exact hlt), HS.out])
    generalize zs.getD i 0 = z at *
    have HW := hide (two_stores hc ((i : Int) + 1) H)
    have HC := hide (cur_row hc (i + 1) H (by omega))
    have HG := hide (grown_set w B #[.slice (some ⟨b, off, none⟩) len cap, .int .i64 ((i + 1 : Nat) : Int), .int .i64 H])
    clear hc hzl
    go_enter Tryd.func57, Tryd.ntmps57
    go_wp2
    go_quiet (fail)
    go_wp2
    go_quiet (fail)
    go_wp2
    go_quiet (fail)
    go_wp2
    go_ret
    refine ⟨?_, ?_, ?_⟩
    · rw [HV.out]; rfl
    · rw [HT.out]
      refine HC.out.same ?_
      show _ = (w.setRow B #[.slice (some ⟨b, off, none⟩) len cap, .int .i64 ((i : Int) + 1), .int .i64 H]).heap
      rw [← HW.out]
      rfl
    · refine grown_same HG.out rfl rfl rfl ?_
      show _ = (w.setRow B #[.slice (some ⟨b, off, none⟩) len cap, .int .i64 ((i : Int) + 1), .int .i64 H]).heap
      rw [← HW.out]
      rfl
  · have HV : Hid (bV zs (i, h) = bits .and .i64 (bits .xor .i64 (H / 8589934592) (H / 35184372088832)) 255) := hide (by unfold bV; rw [if_neg (by rw [hzl]; exact hlt), HS.out]; rfl)
    have HT : Hid (bS zs (i, h) = (i, H)) := hide (by unfold bS; rw [if_neg (by rw [hzl]; exact hlt), HS.out])
    have HW := hide (one_store hc H)
    have HC := hide (cur_row hc i H (by omega))
    have HG := hide (grown_set w B #[.slice a len cap, .int .i64 (i : Int), .int .i64 H])
    clear hc hzl
    go_enter Tryd.func57, Tryd.ntmps57
    go_wp2
    go_quiet (fail)
    go_wp2
    go_quiet (fail)
    go_wp2
    go_ret
    refine ⟨?_, ?_, ?_⟩
    · rw [HV.out]; rfl
    · rw [HT.out]
      refine HC.out.same ?_
      show _ = (w.setRow B #[.slice a len cap, .int .i64 (i : Int), .int .i64 H]).heap
      rw [← HW.out]
      rfl
    · refine grown_same HG.out rfl rfl rfl ?_
      rw [← HW.out]
      rfl

/-- A number below n, and what the cursor holds behind it. -/
def lV (zs : List Int) (n : Int) (st : Nat × Int) : Int :=
  if n ≤ 0 then 0 else if n ≤ 256 then bV zs st % n else
    (bV zs st * 16777216 + bV zs (bS zs st) * 65536 + bV zs (bS zs (bS zs st)) * 256 + bV zs (bS zs (bS zs (bS zs st)))) % n
def lS (zs : List Int) (n : Int) (st : Nat × Int) : Nat × Int :=
  if n ≤ 0 then st else if n ≤ 256 then bS zs st else bS zs (bS zs (bS zs (bS zs st)))
theorem lV_bd (zs : List Int) (n : Int) (st : Nat × Int) (h : 0 < n) : 0 ≤ lV zs n st ∧ lV zs n st < n := by
  unfold lV
  rw [if_neg (by omega)]
  split
  · exact ⟨Int.emod_nonneg _ (by omega), Int.emod_lt_of_pos _ h⟩
  · exact ⟨Int.emod_nonneg _ (by omega), Int.emod_lt_of_pos _ h⟩

set_option maxRecDepth 100000 in
set_option maxHeartbeats 1000000 in
theorem below_any (n : Int) (w : World) (B : Nat) (a : Option Addr) (len cap : Nat) (zs : List Int) (st : Nat × Int) (hc : CurAt w B a len cap zs st) :
    Calls Tryd.prog 33 #[.pointer (some ⟨B, 0, none⟩), .int .i64 n] w fun e w' => e = .returned (.int .i64 (lV zs n st)) ∧ CurAt w' B a len cap zs (lS zs n st) ∧ w.grownBy w' (some B) := by
  have HC := hide hc
  clear hc
  by_cases h0 : n ≤ 0
  · have HV : Hid (lV zs n st = 0) := hide (by unfold lV; rw [if_pos h0])
    have HS : Hid (lS zs n st = st) := hide (by unfold lS; rw [if_pos h0])
    go_enter Tryd.func33, Tryd.ntmps33
    go_wp2
    go_ret
    refine ⟨by rw [HV.out]; rfl, by rw [HS.out]; exact HC.out, ⟨rfl, rfl, rfl, Nat.le_refl _, fun _ _ _ => rfl⟩⟩
  · by_cases h1 : n ≤ 256
    · have HV : Hid (lV zs n st = bV zs st % n) := hide (by unfold lV; rw [if_neg h0, if_pos h1])
      have HS : Hid (lS zs n st = bS zs st) := hide (by unfold lS; rw [if_neg h0, if_pos h1])
      have hb := bV_bd zs st
      have hn0 : (n == 0) = false := by simp; omega
      go_enter Tryd.func33, Tryd.ntmps33
      go_wp2_with fail
      refine (byte_any w B a len cap zs st HC.out).mono ?_
      rintro e w1 ⟨rfl, hc1, hg1⟩
      have HC1 := hide hc1
      have HG1 := hide hg1
      clear hc1 hg1
      generalize bV zs st = x at *
      go_wp2
      go_ret
      exact ⟨by rw [HV.out]; rfl, by rw [HS.out]; exact HC1.out, HG1.out⟩
    · have HV : Hid (lV zs n st = (bV zs st * 16777216 + bV zs (bS zs st) * 65536 + bV zs (bS zs (bS zs st)) * 256 + bV zs (bS zs (bS zs (bS zs st)))) % n) := hide (by unfold lV; rw [if_neg h0, if_neg h1])
      have HS : Hid (lS zs n st = bS zs (bS zs (bS zs (bS zs st)))) := hide (by unfold lS; rw [if_neg h0, if_neg h1])
      have hb0 := bV_bd zs st
      have hb1 := bV_bd zs (bS zs st)
      have hb2 := bV_bd zs (bS zs (bS zs st))
      have hb3 := bV_bd zs (bS zs (bS zs (bS zs st)))
      have hn0 : (n == 0) = false := by simp; omega
      go_enter Tryd.func33, Tryd.ntmps33
      go_wp2_with fail
      refine (byte_any w B a len cap zs st HC.out).mono ?_
      rintro e w1 ⟨rfl, hc1, hg1⟩
      have HC1 := hide hc1
      have HG1 := hide hg1
      clear hc1 hg1
      go_wp2_with fail
      refine (byte_any w1 B a len cap zs (bS zs st) HC1.out).mono ?_
      rintro e w2 ⟨rfl, hc2, hg2⟩
      have HC2 := hide hc2
      have HG2 := hide hg2
      clear hc2 hg2
      go_wp2_with fail
      refine (byte_any w2 B a len cap zs (bS zs (bS zs st)) HC2.out).mono ?_
      rintro e w3 ⟨rfl, hc3, hg3⟩
      have HC3 := hide hc3
      have HG3 := hide hg3
      clear hc3 hg3
      go_wp2_with fail
      refine (byte_any w3 B a len cap zs (bS zs (bS zs (bS zs st))) HC3.out).mono ?_
      rintro e w4 ⟨rfl, hc4, hg4⟩
      have HC4 := hide hc4
      have HG4 := hide (grown_trans HG1.out (grown_trans HG2.out (grown_trans HG3.out hg4)))
      clear hc4 hg4 HC1 HC2 HC3 HG1 HG2 HG3 HC
      generalize bV zs (bS zs (bS zs (bS zs st))) = x3 at *
      generalize bV zs (bS zs (bS zs st)) = x2 at *
      generalize bV zs (bS zs st) = x1 at *
      generalize bV zs st = x0 at *
      go_wp2
      go_ret
      exact ⟨by rw [HV.out]; rfl, by rw [HS.out]; exact HC4.out, HG4.out⟩

end Go.Proofs.YtkcjlalkniaapaaDoor
namespace Go.Proofs.YtkcjlalkniaapaaDoor
open Go.RowKit
open Plain

/-- How an element lies in memory: k cells. -/
structure Shape (α : Type) where
  cells : α → List Value
  k : Nat
  len : ∀ x, (cells x).length = k
  one : ∀ x, ∀ u ∈ cells x, u.oneCell' = true
  pos : 0 < k

def Shape.flat {α : Type} (S : Shape α) : List α → List Value
  | [] => []
  | x :: r => S.cells x ++ S.flat r
theorem Shape.flat_length {α : Type} (S : Shape α) (xs : List α) : (S.flat xs).length = xs.length * S.k := by
  induction xs with
  | nil => simp [Shape.flat]
  | cons x r ih => rw [Shape.flat, List.length_append, S.len, ih, List.length_cons, Nat.succ_mul]; omega
theorem Shape.flat_append {α : Type} (S : Shape α) (xs ys : List α) : S.flat (xs ++ ys) = S.flat xs ++ S.flat ys := by
  induction xs with
  | nil => rfl
  | cons x r ih => rw [List.cons_append, Shape.flat, ih, Shape.flat, List.append_assoc]
theorem Shape.flat_one {α : Type} (S : Shape α) (xs : List α) : ∀ u ∈ S.flat xs, u.oneCell' = true := by
  induction xs with
  | nil => intro u h; simp [Shape.flat] at h
  | cons x r ih =>
    intro u h
    rw [Shape.flat, List.mem_append] at h
    rcases h with h | h
    · exact S.one x u h
    · exact ih u h
theorem Shape.flat_get {α : Type} (S : Shape α) (xs : List α) : ∀ i (hi : i < xs.length) j, j < S.k → (S.flat xs)[i * S.k + j]? = (S.cells (xs[i]))[j]? := by
  induction xs with
  | nil => intro i hi; simp at hi
  | cons x r ih =>
    intro i hi j hj
    have hl := S.len x
    cases i with
    | zero =>
      rw [Shape.flat, Nat.zero_mul, Nat.zero_add, List.getElem?_append_left (by omega)]
      rfl
    | succ i =>
      rw [Shape.flat, List.getElem?_append_right (by rw [hl, Nat.succ_mul]; omega), hl]
      rw [show (i + 1) * S.k + j - S.k = i * S.k + j from by rw [Nat.succ_mul]; omega]
      exact ih i (by simpa using hi) j hj

/-- The slice (a, n, ..) shows these elements. -/
structure Shape.Row {α : Type} (S : Shape α) (w : World) (a : Option Addr) (n : Nat) (xs : List α) : Prop where
  len : xs.length = n
  cells : ∀ i, (hi : i < xs.length) → ∃ b off, a = some ⟨b, off, none⟩ ∧ b < w.heap.size ∧ ∀ j, j < S.k → w.cell? ⟨b, off + i * S.k + j, none⟩ = (S.cells (xs[i]))[j]?
theorem Shape.Row.later {α : Type} {S : Shape α} {w w' : World} {a : Option Addr} {n : Nat} {xs : List α} (h : S.Row w a n xs) (hb : Below w.heap.size w w') : S.Row w' a n xs where
  len := h.len
  cells := fun i hi => by
    obtain ⟨b, off, h1, h2, h3⟩ := h.cells i hi
    exact ⟨b, off, h1, Nat.lt_of_lt_of_le h2 hb.size, fun j hj => by rw [hb.cell (p := ⟨b, off + i * S.k + j, none⟩) h2]; exact h3 j hj⟩
theorem addr_add' (b off j : Nat) : (⟨b, off, none⟩ : Addr).add j = ⟨b, off + j, none⟩ := by unfold Addr.add; split <;> simp_all
theorem Shape.Row.src {α : Type} {S : Shape α} {w : World} {ad : Addr} {n : Nat} {xs : List α} (h : S.Row w (some ad) n xs) : ∀ j u, (S.flat xs)[j]? = some u → w.cell? (ad.add j) = some u := by
  intro j u hj
  have hk := S.pos
  have hjl : j < xs.length * S.k := by
    have := (List.getElem?_eq_some_iff.1 hj).1
    rw [S.flat_length] at this
    exact this
  have hi : j / S.k < xs.length := (Nat.div_lt_iff_lt_mul hk).2 hjl
  have hm : j % S.k < S.k := Nat.mod_lt _ hk
  have hd : j / S.k * S.k + j % S.k = j := by rw [Nat.mul_comm]; exact Nat.div_add_mod j S.k
  obtain ⟨b, off, e, _, c⟩ := h.cells (j / S.k) hi
  injection e with e
  subst e
  have h1 := S.flat_get xs (j / S.k) hi (j % S.k) hm
  rw [hd, hj] at h1
  have h2 := c (j % S.k) hm
  rw [addr_add', show off + j = off + j / S.k * S.k + j % S.k from by omega, h2, ← h1]

/-- The slice v shows these elements; they lie in a row of the call's own, from block base on. -/
def Shape.Own {α : Type} (S : Shape α) (T : TypeId) (w : World) (base : Nat) (v : Value) (xs : List α) : Prop := w.ownsRow base T S.k v xs.length (S.flat xs)
theorem Shape.Own.len {α : Type} {S : Shape α} {T : TypeId} {w : World} {base : Nat} {a : Option Addr} {n cap : Nat} {xs : List α} (h : S.Own T w base (.slice a n cap) xs) : xs.length = n := by
  rcases h.2 with ⟨e, h0⟩ | ⟨g, c, cur, e, _⟩
  · simp only [Value.slice.injEq] at e; omega
  · simp only [Value.slice.injEq] at e; omega
theorem Shape.Own.blk {α : Type} {S : Shape α} {T : TypeId} {w : World} {base : Nat} {v : Value} {xs : List α} (h : S.Own T w base v xs) : ∀ g, v.ownBlock = some g → base ≤ g ∧ g < w.heap.size := World.ownsRow.lt h
theorem Shape.Own.row {α : Type} {S : Shape α} {T : TypeId} {w : World} {base : Nat} {a : Option Addr} {n cap : Nat} {xs : List α} (h : S.Own T w base (.slice a n cap) xs) : S.Row w a n xs where
  len := h.len
  cells := fun i hi => by
    have hn := h.len
    have hfl := S.flat_length xs
    unfold Shape.Own at h
    rw [hn] at h
    rcases h.2 with ⟨e, h0⟩ | ⟨g, c, cur, e, hb, hg, _⟩
    · omega
    · simp only [Value.slice.injEq] at e
      obtain ⟨rfl, _, rfl⟩ := e
      have hgl : g < w.heap.size := by
        rcases Nat.lt_or_ge g w.heap.size with h' | h'
        · exact h'
        · rw [Array.getElem?_eq_none h'] at hg; cases hg
      refine ⟨g, 0, rfl, hgl, fun j hj => ?_⟩
      have hlt : i * S.k + j < n * S.k := by
        have : (i + 1) * S.k ≤ n * S.k := Nat.mul_le_mul_right _ (by omega)
        rw [Nat.succ_mul] at this
        omega
      have hget := S.flat_get xs i hi j hj
      have hj2 : j < (S.cells (xs[i])).length := by rw [S.len]; exact hj
      rw [Nat.zero_add, h.cellAt _ (by omega), hget, List.getElem?_eq_getElem hj2]
theorem Shape.Own.later {α : Type} {S : Shape α} {T : TypeId} {w w' : World} {base K : Nat} {v : Value} {xs : List α} (h : S.Own T w base v xs) (hb : Below K w w') (hK : w.heap.size ≤ K) : S.Own T w' base v xs := by
  refine ⟨h.1, ?_⟩
  rcases h.2 with h | ⟨g, c, cur, e, hbg, hg, h1⟩
  · exact .inl h
  · have hgl : g < w.heap.size := by
      rcases Nat.lt_or_ge g w.heap.size with h' | h'
      · exact h'
      · rw [Array.getElem?_eq_none h'] at hg; cases hg
    exact .inr ⟨g, c, cur, e, hbg, by rw [hb.block g (by omega)]; exact hg, h1⟩
theorem Shape.Own.mono {α : Type} {S : Shape α} {T : TypeId} {w : World} {base base' : Nat} {v : Value} {xs : List α} (h : S.Own T w base v xs) (hb : base' ≤ base) : S.Own T w base' v xs := by
  refine ⟨h.1, ?_⟩
  rcases h.2 with h | ⟨g, c, cur, e, hbg, h1⟩
  · exact .inl h
  · exact .inr ⟨g, c, cur, e, Nat.le_trans hb hbg, h1⟩
/-- Another block is written. -/
theorem Shape.Own.setNe {α : Type} {S : Shape α} {T : TypeId} {w : World} {base : Nat} {v : Value} {xs : List α} (h : S.Own T w base v xs) (p : Addr) (u : Value) (hp : v.ownBlock ≠ some p.block) : S.Own T (w.setCell p u) base v xs := by
  refine ⟨h.1, ?_⟩
  rcases h.2 with h | ⟨g, c, cur, e, hbg, hg, h1⟩
  · exact .inl h
  · refine .inr ⟨g, c, cur, e, hbg, ?_, h1⟩
    rw [Below.heap_setCell w p u g (by intro q; apply hp; rw [e, ← q]; rfl)]
    exact hg
theorem Shape.Own.setCell {α : Type} {S : Shape α} {T : TypeId} {w : World} {base : Nat} {v : Value} {xs : List α} (h : S.Own T w base v xs) (p : Addr) (u : Value) (hp : p.block < base) : S.Own T (w.setCell p u) base v xs :=
  h.setNe p u (fun e => by have := (h.blk _ e).1; omega)
/-- What is drawn from the cursor leaves rows behind it alone. -/
theorem Shape.Own.grownB {α : Type} {S : Shape α} {T : TypeId} {w w' : World} {base B : Nat} {v : Value} {xs : List α} (h : S.Own T w base v xs) (hg : w.grownBy w' (some B)) (hB : B < base) : S.Own T w' base v xs := by
  refine World.ownsRow.kept h hg ?_
  cases e : v.ownBlock with
  | none => exact .inl rfl
  | some g => exact .inr (fun q => by injection q with q; have := (h.blk g e).1; omega)
/-- An empty row that the call has laid. -/
theorem Shape.Own.empty {α : Type} (S : Shape α) (T : TypeId) (w : World) : S.Own T (w.alloc (.cells #[] T)) w.heap.size (.slice (some ⟨w.heap.size, 0, none⟩) 0 0) [] :=
  ⟨by simp [Shape.flat], .inr ⟨w.heap.size, 0, #[], rfl, Nat.le_refl _, heap_alloc_new w _, Nat.le_refl _, by unfold maxLen; omega, by simp, by simp [Shape.flat]⟩⟩
theorem Shape.Own.nil {α : Type} (S : Shape α) (T : TypeId) (w : World) (base : Nat) : S.Own T w base (.slice none 0 0) [] := ⟨by simp [Shape.flat], .inl ⟨rfl, rfl⟩⟩
/-- One element in a new block, as a row. -/
theorem Shape.Row.single {α : Type} (S : Shape α) (T : TypeId) (w : World) (x : α) : S.Row (w.alloc (.cells (S.cells x).toArray T)) (some ⟨w.heap.size, 0, none⟩) 1 [x] where
  len := rfl
  cells := fun i hi => by
    obtain rfl : i = 0 := by simp at hi; omega
    refine ⟨w.heap.size, 0, rfl, by simp, fun j hj => ?_⟩
    rw [cell_of_row _ _ _ _ _ _ (heap_alloc_new w _)]
    simp

/-- 'out = append(out, ys...)', out a row of the call's own: a law for the walk. -/
theorem Shape.wpList_app {P : Program} {α : Type} (S : Shape α) {ops : Array Oper} {rest : List Oper} {o : Oper} {act : Act} {Q : Exit → Act → World → Prop} (hgd : o.guard = none) (s x : Operand) (ST T : TypeId)
    (ho : o.op = .call { callee := .builtin .append, args := #[s, x], argTypes := #[ST, ST] }) {i0 : TypeInfo} {z : Value} {bytes : Nat} (hu : P.underlying ST = some (.slice T)) (hi : P.info? T = some i0) (hz0 : i0.zero = some z) (hz1 : i0.size = S.k) (hz2 : i0.bytes = bytes) (hzs : z.cells.size = S.k) (hby : bytes ≤ 128)
    {w : World} {base : Nat} {v : Value} {xs ys : List α} (hown : S.Own T w base v xs) (hb : base ≤ w.heap.size) {ad : Addr} {m c : Nat} (hr : S.Row w (some ad) m ys) (hn : xs.length + m ≤ 1099511627776)
    (hs : act.eval s = v) (hx : act.eval x = .slice (some ad) m c)
    (h : ∀ a' n' cap' w', n' = xs.length + m → S.Own T w' base (.slice a' n' cap') (xs ++ ys) → w.grownBy w' v.ownBlock → wpList P ops Q rest (act.put o.dst (.slice a' n' cap')) w') : wpList P ops Q (o :: rest) act w := by
  have hm := hr.len
  have hmul : (xs.length + m) * bytes ≤ 140737488355328 := Nat.le_trans (Nat.mul_le_mul hn hby) (by decide)
  refine wpList_append_own (P := P) w hgd s x ST ho base T i0 z S.k bytes hu hi hz0 hz1 hz2 hzs S.pos v xs.length (S.flat xs) hs hown
    ad m c (S.flat ys) hx (by rw [S.flat_length, hm]) hr.src (S.flat_one ys) (by unfold maxLen; omega) hmul hb ?_
  intro v' w' ho' hg _
  have hval : ∃ a' cap', v' = .slice a' (xs.length + m) cap' := by
    rcases ho'.2 with ⟨e, h0⟩ | ⟨g, cap, cur, e, _⟩
    · exact ⟨none, 0, by rw [e, h0]⟩
    · exact ⟨_, _, e⟩
  obtain ⟨a', cap', rfl⟩ := hval
  refine h a' _ cap' w' rfl ?_ hg
  unfold Shape.Own
  rw [List.length_append, hm, S.flat_append]
  exact ho'

end Go.Proofs.YtkcjlalkniaapaaDoor
namespace Go.Proofs.YtkcjlalkniaapaaDoor
open Go.RowKit
open Plain

/-- Where a record stands in a log. -/
structure SpotV where
  pos : Nat
  len : Nat
  r : RecV
def recSh : Shape RecV where
  cells := fun r => [.int .i64 r.kind, .int .i64 r.batch, .string r.key, .string r.val, .int .i64 r.cnt, .int .i64 r.sum]
  k := 6
  len := fun _ => rfl
  one := fun r u h => by
    simp only [List.mem_cons, List.not_mem_nil, or_false] at h
    rcases h with rfl | rfl | rfl | rfl | rfl | rfl <;> rfl
  pos := by decide
def spotSh : Shape SpotV where
  cells := fun p => [.int .i64 (p.pos : Nat), .int .i64 (p.len : Nat), .int .i64 p.r.kind, .int .i64 p.r.batch, .string p.r.key, .string p.r.val, .int .i64 p.r.cnt, .int .i64 p.r.sum]
  k := 8
  len := fun _ => rfl
  one := fun r u h => by
    simp only [List.mem_cons, List.not_mem_nil, or_false] at h
    rcases h with rfl | rfl | rfl | rfl | rfl | rfl | rfl | rfl <;> rfl
  pos := by decide
theorem Tryd.infoSpot : (Tryd.prog.info? 37).map (fun i => (i.zero, i.size, i.bytes)) = some (some (.agg #[.int .i64 0, .int .i64 0, .int .i64 0, .int .i64 0, .string ⟨#[]⟩, .string ⟨#[]⟩, .int .i64 0, .int .i64 0]), 8, 80) := by kernel_rfl
theorem Tryd.infoRec : (Tryd.prog.info? 33).map (fun i => (i.zero, i.size, i.bytes)) = some (some (.agg #[.int .i64 0, .int .i64 0, .string ⟨#[]⟩, .string ⟨#[]⟩, .int .i64 0, .int .i64 0]), 6, 64) := by kernel_rfl

/-- 'out = append(out, p)', out a row of spots of the call's own, p in a new block. -/
theorem wpList_app_spot {ops : Array Oper} {rest : List Oper} {o : Oper} {act : Act} {Q : Exit → Act → World → Prop} (hgd : o.guard = none) (s x : Operand)
    (ho : o.op = .call { callee := .builtin .append, args := #[s, x], argTypes := #[28, 28] }) {w : World} {base : Nat} {v : Value} {xs : List SpotV} (p : SpotV) (hown : spotSh.Own 37 w base v xs) (hb : base ≤ w.heap.size) (hn : xs.length ≤ 1099511627775)
    {N : Nat} (hs : act.eval s = v) (hx : act.eval x = .slice (some ⟨N, 0, none⟩) 1 1) (hN : w.heap.size = N)
    (h : ∀ a' n' cap' w', n' = xs.length + 1 → spotSh.Own 37 w' base (.slice a' n' cap') (xs ++ [p]) → Below base w w' → wpList Tryd.prog ops Q rest (act.put o.dst (.slice a' n' cap')) w') :
    wpList Tryd.prog ops Q (o :: rest) act (w.alloc (.cells #[.int .i64 (p.pos : Nat), .int .i64 (p.len : Nat), .int .i64 p.r.kind, .int .i64 p.r.batch, .string p.r.key, .string p.r.val, .int .i64 p.r.cnt, .int .i64 p.r.sum] 37)) := by
  subst hN
  obtain ⟨i0, hi, hz0, hz1, hz2⟩ := info_parts Tryd.infoSpot
  have hA : Below w.heap.size w (w.alloc (.cells (spotSh.cells p).toArray 37)) := (Below.refl _ _).alloc (Nat.le_refl _) _
  refine spotSh.wpList_app (P := Tryd.prog) hgd s x 28 37 ho Tryd.underlying28 hi hz0 hz1 hz2 rfl (by decide) (hown.later hA (Nat.le_refl _)) (Nat.le_trans hb hA.size) (Shape.Row.single spotSh 37 w p) (by omega) hs hx ?_
  intro a' n' cap' w' hn' ho' hg
  refine h a' n' cap' w' hn' ho' ?_
  refine (hA.mono hb).trans ?_
  exact (Below.refl _ _).grown hg (Nat.le_trans hb hA.size) (fun g hg => (hown.blk g hg).1)
/-- 'l = append(l, r)', l a row of records of the call's own, r in a new block. -/
theorem wpList_app_rec {ops : Array Oper} {rest : List Oper} {o : Oper} {act : Act} {Q : Exit → Act → World → Prop} (hgd : o.guard = none) (s x : Operand)
    (ho : o.op = .call { callee := .builtin .append, args := #[s, x], argTypes := #[46, 46] }) {w : World} {base : Nat} {v : Value} {xs : List RecV} (r : RecV) (hown : recSh.Own 33 w base v xs) (hb : base ≤ w.heap.size) (hn : xs.length ≤ 1099511627775)
    {N : Nat} (hs : act.eval s = v) (hx : act.eval x = .slice (some ⟨N, 0, none⟩) 1 1) (hN : w.heap.size = N)
    (h : ∀ a' n' cap' w', n' = xs.length + 1 → recSh.Own 33 w' base (.slice a' n' cap') (xs ++ [r]) → Below base w w' → wpList Tryd.prog ops Q rest (act.put o.dst (.slice a' n' cap')) w') :
    wpList Tryd.prog ops Q (o :: rest) act (w.alloc (.cells #[.int .i64 r.kind, .int .i64 r.batch, .string r.key, .string r.val, .int .i64 r.cnt, .int .i64 r.sum] 33)) := by
  subst hN
  obtain ⟨i0, hi, hz0, hz1, hz2⟩ := info_parts Tryd.infoRec
  have hA : Below w.heap.size w (w.alloc (.cells (recSh.cells r).toArray 33)) := (Below.refl _ _).alloc (Nat.le_refl _) _
  refine recSh.wpList_app (P := Tryd.prog) hgd s x 46 33 ho Tryd.underlying46 hi hz0 hz1 hz2 rfl (by decide) (hown.later hA (Nat.le_refl _)) (Nat.le_trans hb hA.size) (Shape.Row.single recSh 33 w r) (by omega) hs hx ?_
  intro a' n' cap' w' hn' ho' hg
  refine h a' n' cap' w' hn' ho' ?_
  refine (hA.mono hb).trans ?_
  exact (Below.refl _ _).grown hg (Nat.le_trans hb hA.size) (fun g hg => (hown.blk g hg).1)

end Go.Proofs.YtkcjlalkniaapaaDoor
