/-
  A list of segments that comes in as an argument: what its reading tells of the world.
-/
import Derived.Test.YthnealhaleccpabDoorLiveBase
import Derived.Deep.Slices
import Derived.ProofKit
import Derived.ChangeSlices
namespace Go.Proofs.YthnealhaleccpabDoor
open Go.RowKit Go.Deep Go.ChangeShapes Go.WideShapes Go.ChangeAt
open Plain

theorem cellsL3 : Tryd.prog.cellsOf 3 = 1 := by kernel_rfl
theorem cellsIS : Tryd.prog.cellsOf 28 = 1 := by kernel_rfl
theorem cellsLLIVE : Tryd.prog.cellsOf 30 = 2 := by kernel_rfl

/-- A row of ints that came in. -/
theorem irow_of {w : World} {ad : Addr} {l : Nat} {zs : List Int} (hl : l ≤ zs.length) (hcell : ∀ i, i < zs.length → w.cell? (ad.add i) = some (.int .i64 (zs.getD i 0))) : IRow w 0 (some ad) l (zs.take l) := by
  refine ⟨by rw [List.length_take]; omega, fun j hj => ?_⟩
  have hjl : j < l := by rw [List.length_take] at hj; omega
  have hc := hcell j (by omega)
  have hc0 := hcell 0 (by omega)
  obtain ⟨b, off, spot⟩ := ad
  have hspot : spot = none := by simpa [Addr.add] using World.cell?_spot hc0
  subst hspot
  rw [addr_add] at hc
  refine ⟨b, off, rfl, Nat.zero_le _, ?_, ?_⟩
  · rcases Nat.lt_or_ge b w.heap.size with h | h
    · exact h
    · simp [World.cell?, Array.getElem?_eq_none h] at hc
  · rw [hc]
    have hz : j < zs.length := by omega
    simp [List.getD, hz]

section
variable {H : Type} {enc : TypeId × Value → H} {w : World} {base : Nat} {spare : Nat → Bool} {held : Bool}

set_option maxRecDepth 100000 in
theorem open_live {fuel : Nat} {cs : List Value} {x : DataW H × List MemPlace} (h : DataW.trod enc Tryd.prog w base spare held fuel 30 cs = some x) :
    ∃ (z : Int) (a : Option Addr) (n cap : Nat) (zs : List Int), cs = [.int .i64 z, .slice a n cap] ∧ IRow w 0 a n zs ∧ n ≤ maxLen ∧ (Lit.int .i64 z).wf = true := by
  obtain ⟨xs, n, _, _, hl, hlen, hf⟩ := DataW.trod_struct Tryd.underlying30 h
  rw [cellsLLIVE] at hl
  match xs, hlen, cs, hl with
  | [y0, y1], _, [v0, v1], _ =>
    obtain ⟨c, e1, _, z1⟩ := DataW.trod_int Tryd.underlying3 (by simpa using hf 0 _ rfl)
    have h1 := hf 1 _ rfl
    have e2 : ∃ (a : Option Addr) (m cap : Nat) (zs : List Int), v1 = .slice a m cap ∧ IRow w 0 a m zs ∧ m ≤ maxLen := by
      rcases open_ints Tryd.underlying28 Tryd.underlying3 cellsL3 h1 with ⟨hcs, _⟩ | ⟨a, l, c, zs, hcs, _, hl, hm, hz, _, hcell, _⟩
      · simp [cellsIS] at hcs
        exact ⟨none, 0, 0, [], hcs, ⟨rfl, fun i hi => by simp at hi⟩, by unfold maxLen; omega⟩
      · simp [cellsIS] at hcs
        exact ⟨some a, l, c, zs.take l, hcs, irow_of (by rw [hz]; split <;> omega) hcell, Nat.le_trans hl hm⟩
    obtain ⟨a, m, cap, zs, rfl, hr, hm⟩ := e2
    simp [cellsL3] at e1
    subst e1
    exact ⟨c, a, m, cap, zs, rfl, hr, hm, z1⟩
end

end Go.Proofs.YthnealhaleccpabDoor
