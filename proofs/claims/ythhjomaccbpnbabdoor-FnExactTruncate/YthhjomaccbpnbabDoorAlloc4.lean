/-
  Four new blocks at once; a block of cells is not a map's.
-/
import Derived.Test.YthhjomaccbpnbabDoorByName
namespace Go.Proofs.YthhjomaccbpnbabDoor
open Go.RowKit Go.Maps

/-- Four new blocks. -/
theorem alloc4 (w : World) (o0 o1 o2 o3 : Obj) : ((((w.alloc o0).alloc o1).alloc o2).alloc o3).heap.size = w.heap.size + 4 ∧ Below w.heap.size w ((((w.alloc o0).alloc o1).alloc o2).alloc o3) ∧
    ((((w.alloc o0).alloc o1).alloc o2).alloc o3).heap[w.heap.size]? = some o0 ∧ ((((w.alloc o0).alloc o1).alloc o2).alloc o3).heap[w.heap.size + 1]? = some o1 ∧ ((((w.alloc o0).alloc o1).alloc o2).alloc o3).heap[w.heap.size + 1 + 1]? = some o2 ∧ ((((w.alloc o0).alloc o1).alloc o2).alloc o3).heap[w.heap.size + 3]? = some o3 := by
  obtain ⟨h1, h2, h3, h4, h5⟩ := alloc3 w o0 o1 o2
  generalize ((w.alloc o0).alloc o1).alloc o2 = W at *
  refine ⟨by rw [size_alloc]; omega, h2.alloc (by omega) _, ?_, ?_, ?_, ?_⟩
  · rw [Below.heap_alloc _ _ _ (by omega)]; exact h3
  · rw [Below.heap_alloc _ _ _ (by omega)]; exact h4
  · rw [Below.heap_alloc _ _ _ (by omega)]; exact h5
  · have := heap_alloc_new W o3
    rw [h1] at this
    exact this
/-- A block of cells is not the map's. -/
theorem mown_ne {W : World} {B n : Nat} {S : List FileV} (hm : MOwn W B n S) {p : Addr} {v : Value} (h : W.cell? p = some v) : B ≠ p.block := by
  rintro rfl
  obtain ⟨D, ⟨es, clock, hb, _⟩, _⟩ := hm
  simp [World.cell?, hb] at h

end Go.Proofs.YthhjomaccbpnbabDoor
