/-
  What a hexadecimal text says.
-/
import Derived.Test.YtelfhodaahpggacDoorCore
import Derived.Lib.Bytealg
import Derived.Laws.Externs
namespace Go.Proofs.YtelfhodaahpggacDoor
open Go.RowKit
open Plain

/-- The number of a digit's byte; -1 of any other. -/
def fh (b : Nat) : Int := if 48 ≤ b ∧ b ≤ 57 then (b : Int) - 48 else if 97 ≤ b ∧ b ≤ 102 then (b : Int) - 87 else -1
theorem fh_bd (b : Nat) : -1 ≤ fh b ∧ fh b ≤ 15 := by
  unfold fh
  split
  · omega
  · split <;> omega
theorem fh_hit (b k : Nat) (hk : k < 16) (h : dg k = (b : Int)) : fh b = (k : Int) := by
  unfold dg at h
  unfold fh
  split at h
  · rw [if_pos (by omega)]; omega
  · rw [if_neg (by omega), if_pos (by omega)]; omega
theorem fh_miss (b : Nat) (h : ∀ j, j < 16 → dg j ≠ (b : Int)) : fh b = -1 := by
  unfold fh
  split
  · rename_i hb
    have := h (b - 48) (by omega)
    unfold dg at this
    rw [if_pos (by omega)] at this
    omega
  · split
    · rename_i _ hb
      have := h (b - 87) (by omega)
      unfold dg at this
      rw [if_neg (by omega)] at this
      omega
    · rfl
theorem index_hex : ∀ b : Nat, b < 256 → Lib.indexByte [48, 49, 50, 51, 52, 53, 54, 55, 56, 57, 97, 98, 99, 100, 101, 102] b.toUInt8 = fh b := by
  decide +kernel
theorem or16 (a b : Int) (h0 : 0 ≤ a) (h1 : a < 16) (h2 : 0 ≤ b) (h3 : b < 16) : bits .or .i64 (a * 16) b = 16 * a + b := by
  obtain ⟨A, rfl⟩ := Int.eq_ofNat_of_zero_le h0
  obtain ⟨B, rfl⟩ := Int.eq_ofNat_of_zero_le h2
  have e : ((A : Int) * 16) = ((A * 16 : Nat) : Int) := by omega
  rw [e, i64_or_nat _ _ (by omega) (by omega), nat_join 4 (A * 16) B (by omega) (by omega)]
  omega

/-- The bytes that the first k pairs of digits say. -/
def uo (s : ByteArray) (k : Nat) : List Int := (List.range k).map fun i => 16 * fh ((bl s).getD (2 * i) 0) + fh ((bl s).getD (2 * i + 1) 0)
theorem uo_succ (s : ByteArray) (k : Nat) : uo s (k + 1) = uo s k ++ [16 * fh ((bl s).getD (2 * k) 0) + fh ((bl s).getD (2 * k + 1) 0)] := by simp [uo, List.range_succ]
theorem uo_length (s : ByteArray) (k : Nat) : (uo s k).length = k := by simp [uo]
def AllHex (s : ByteArray) : Prop := s.size % 2 = 0 ∧ ∀ j, j < s.size → 0 ≤ fh ((bl s).getD j 0)
/-- What Unhex answers. -/
def UX (s r : ByteArray) (ok : Bool) : Prop := (ok = false ∧ r = ⟨#[]⟩ ∧ ¬ AllHex s) ∨ (ok = true ∧ r = strOfNums (uo s (s.size / 2)) ∧ AllHex s)
theorem UX_one {s r r' : ByteArray} {o o' : Bool} (h : UX s r o) (h' : UX s r' o') : r = r' ∧ o = o' := by
  rcases h with ⟨a, b, c⟩ | ⟨a, b, c⟩
  · rcases h' with ⟨a', b', c'⟩ | ⟨a', b', c'⟩
    · exact ⟨by rw [b, b'], by rw [a, a']⟩
    · exact absurd c' c
  · rcases h' with ⟨a', b', c'⟩ | ⟨a', b', c'⟩
    · exact absurd c c'
    · exact ⟨by rw [b, b'], by rw [a, a']⟩

theorem getD_pair (s : ByteArray) (k : Nat) (h : 2 * k + 1 < s.size) : (bl s).getD (2 * k) 0 = (s[2 * k]'(by omega)).toNat ∧ (bl s).getD (2 * k + 1) 0 = s[2 * k + 1].toNat := ⟨getD_bl s _ (by omega), getD_bl s _ h⟩

end Go.Proofs.YtelfhodaahpggacDoor
