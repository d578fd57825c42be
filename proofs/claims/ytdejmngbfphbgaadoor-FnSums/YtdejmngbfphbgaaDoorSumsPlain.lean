/-
  Plain facts for the law FnSums: a byte turned in a row of bytes, and what the sums of two such rows say.
-/
import Derived.Test.YtdejmngbfphbgaaDoorCrcPlain
import Derived.Test.YtdejmngbfphbgaaDoorCrcImpl
import Derived.Lib.ConvBytes
namespace Go.Proofs.YtdejmngbfphbgaaDoor
open Go.RowKit
open Plain

theorem ofInt_u8 (a : Nat) (ha : a < 256) : (BitVec.ofInt 8 (a : Int)).toNat = a := by
  rw [BitVec.ofInt_natCast, BitVec.toNat_ofNat]; exact Nat.mod_eq_of_lt (by omega)
theorem xor_lt8 (a b : Nat) (h1 : a < 256) (h2 : b < 256) : a ^^^ b < 256 := by
  have : a ^^^ b < 2 ^ 8 := Nat.xor_lt_two_pow (by omega) (by omega)
  omega
theorem u8_xor_nat (a b : Nat) (ha : a < 256) (hb : b < 256) : bits .xor .u8 (a : Int) (b : Int) = ((a ^^^ b : Nat) : Int) := by
  have hx := xor_lt8 a b ha hb
  show IntKind.u8.wrap ((BitVec.ofInt 8 (a : Int) ^^^ BitVec.ofInt 8 (b : Int)).toNat : Int) = _
  rw [BitVec.toNat_xor, ofInt_u8 a ha, ofInt_u8 b hb, IntKind.wrap_u8]
  omega

/-- A byte turned: has the row parted from the other one? -/
theorem set_parts (xs ts : List Nat) (p m : Nat) (hp : p < xs.length) (he : xs[p]? = ts[p]?) : (xs.set p (xs.getD p 0 ^^^ m) = ts) ↔ (xs = ts ∧ m = 0) := by
  have hg : xs.getD p 0 = xs[p] := by simp [List.getD, hp]
  constructor
  · intro h
    have h1 : (xs.set p (xs.getD p 0 ^^^ m))[p]? = xs[p]? := by rw [h, he]
    rw [List.getElem?_set_self hp, List.getElem?_eq_getElem hp, hg, Option.some.injEq] at h1
    have hm : m = 0 := by
      have h2 : xs[p] ^^^ (xs[p] ^^^ m) = 0 := by rw [h1, Nat.xor_self]
      rw [← Nat.xor_assoc, Nat.xor_self, Nat.zero_xor] at h2
      exact h2
    subst hm
    rw [hg, Nat.xor_zero, List.set_getElem_self] at h
    exact ⟨h, rfl⟩
  · rintro ⟨rfl, rfl⟩
    rw [hg, Nat.xor_zero, List.set_getElem_self]

def natsI (xs : List Nat) : List Int := xs.map fun b : Nat => (b : Int)
theorem natsI_get (xs : List Nat) (j : Nat) : (natsI xs).getD j 0 = (xs.getD j 0 : Int) := by
  unfold natsI
  rw [List.getD, List.getD, List.getElem?_map]
  cases xs[j]? <;> rfl
theorem bl_natsI (xs : List Nat) (hx : ∀ b ∈ xs, b < 256) : bl (strOfNums (natsI xs)) = xs := by
  unfold bl
  rw [strOfNums_data]
  unfold natsI
  rw [List.map_map, List.map_map]
  conv => rhs; rw [← List.map_id xs]
  apply List.map_congr_left
  intro b hb
  have := hx b hb
  simp [Function.comp]
  omega
/-- The sums part just if the bytes do. -/
theorem crc_parts (T U : ByteArray) (k : Nat) (hl : (bl U).length = (bl T).length) (ho : ∀ j, j < k ∨ k + 4 ≤ j → (bl U)[j]? = (bl T)[j]?) : crcN T = crcN U ↔ bl U = bl T := by
  constructor
  · intro h
    have h1 := cf_lt (bl T) (bl_all T) 4294967295 (by omega)
    have h2 := cf_lt (bl U) (bl_all U) 4294967295 (by omega)
    unfold crcN at h
    exact cf_parts (bl U) (bl T) (bl_all U) (bl_all T) hl k ho 4294967295 (by omega) (by omega)
  · intro h
    unfold crcN
    rw [h]
theorem crcN_bd (T : ByteArray) : crcN T ≤ 4294967295 := by unfold crcN; omega

/-- Block B of the world begins with these bytes, and they can be written. -/
structure BRow (w : World) (B : Nat) (xs : List Nat) : Prop where
  cells : ∀ j, j < xs.length → w.cell? ⟨B, j, none⟩ = some (.int .u8 (xs.getD j 0))
  free : ∀ j, j < xs.length → w.frozen? ⟨B, j, none⟩ = false
theorem BRow.set {w : World} {B : Nat} {xs : List Nat} (h : BRow w B xs) (p y : Nat) (hp : p < xs.length) : BRow (w.setCell ⟨B, p, none⟩ (.int .u8 y)) B (xs.set p y) where
  cells := fun j hj => by
    rw [List.length_set] at hj
    by_cases e : p = j
    · subst e
      rw [World.cell?_setCell_same (w := w) (h := h.cells p hp)]
      simp [List.getD, hp]
    · rw [World.cell?_setCell_other (w := w) (h := by intro q; injection q with _ q; exact e q), h.cells j hj]
      simp [List.getD, e]
  free := fun j hj => by
    rw [List.length_set] at hj
    rw [World.frozen?_setCell]
    exact h.free j hj
theorem BRow.below {w w' : World} {B K : Nat} {xs : List Nat} (h : BRow w B xs) (hb : Below K w w') (hK : B < K) : BRow w' B xs where
  cells := fun j hj => by rw [hb.cell (p := ⟨B, j, none⟩) hK]; exact h.cells j hj
  free := fun j hj => by rw [hb.frozen (p := ⟨B, j, none⟩) hK]; exact h.free j hj
theorem BRow.drew {w : World} {B : Nat} {xs : List Nat} (h : BRow w B xs) : BRow w.drew B xs := ⟨h.cells, h.free⟩
theorem BRow.str {w : World} {B n cap : Nat} {xs : List Nat} (h : BRow w B xs) (hn : xs.length = n) : (convert 22 9 (.slice (some ⟨B, 0, none⟩) n cap)).run Tryd.prog w = .ok (.string (strOfNums (natsI xs))) w := by
  refine run_convert_bytes_arg (P := Tryd.prog) w 22 5 Tryd.underlying22 Tryd.underlying5 B 0 n cap (natsI xs) (by unfold natsI; rw [List.length_map]; exact hn) ?_ 9 Tryd.underlying9
  intro i hi
  rw [Nat.zero_add, h.cells i (by omega), natsI_get]
theorem bytes_row (w : World) (s : ByteArray) : BRow (Lib.bytesWorld w 5 s) w.heap.size (bl s) where
  cells := fun j hj => by
    rw [bl_length] at hj
    rw [Lib.bytesWorld_cell w 5 s j hj]
    congr 2
    unfold bl
    have hj' : j < s.data.toList.length := by simpa using hj
    rw [List.getD, List.getD, List.getElem?_map, List.getElem?_eq_getElem hj']
    rfl
  free := fun j hj => by
    rw [bl_length] at hj
    have hc : s.size ≤ (Lib.bytesCells w 5 s).size := by
      unfold Lib.bytesCells
      rw [Array.size_append, Array.size_map]
      have : s.data.size = s.size := rfl
      omega
    unfold World.frozen?
    rw [Lib.bytesWorld_at_new]
    simp
    omega
theorem bytes_below (w : World) (s : ByteArray) : Below w.heap.size w (Lib.bytesWorld w 5 s) :=
  ⟨rfl, rfl, rfl, by rw [Lib.bytesWorld_size]; omega, fun k hk => Lib.bytesWorld_at_old w 5 s k hk⟩

/-- What stays through the last statement: the row, the table, and all that was there. -/
structure KeepS (w : World) (B : Nat) (xs : List Nat) (w' : World) : Prop where
  row : BRow w' B xs
  tab : STab w'
  lt : B < w'.heap.size
  bel : Below w.heap.size w w'
theorem KeepS.later {w w1 w2 : World} {B : Nat} {xs : List Nat} (h : KeepS w B xs w1) (hb : Below w1.heap.size w1 w2) : KeepS w B xs w2 :=
  ⟨h.row.below hb h.lt, h.tab.later hb, Nat.lt_of_lt_of_le h.lt hb.size, h.bel.trans (hb.mono h.bel.size)⟩
theorem KeepS.drew {w w1 : World} {B : Nat} {xs : List Nat} (h : KeepS w B xs w1) : KeepS w B xs w1.drew :=
  h.later (Below.refl _ _).drew

end Go.Proofs.YtdejmngbfphbgaaDoor
