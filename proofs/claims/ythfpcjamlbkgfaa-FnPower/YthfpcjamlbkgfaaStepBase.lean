/-
  What a step answers; files of other names (for seats without impl's steps).
-/
import Derived.Test.YthfpcjamlbkgfaaRise
import Derived.Test.YthfpcjamlbkgfaaBeginSpec
import Derived.Maps.Ext
namespace Go.Proofs.Ythfpcjamlbkgfaa
open Go.RowKit Go.Maps
open Plain

theorem blk_lt {w : World} {b : Nat} {o : Obj} (h : w.heap[b]? = some o) : b < w.heap.size := (Array.getElem?_eq_some_iff.1 h).1
/-- The files of another name. -/
def others (S : List FileV) (x : ByteArray) : List FileV := S.filter (fun g => decide (g.name ≠ x))
theorem mem_others {S : List FileV} {x : ByteArray} {g : FileV} : g ∈ others S x ↔ g ∈ S ∧ g.name ≠ x := by simp [others]
theorem apart_eq {S : List FileV} (h : S.Pairwise (fun f g => f.name ≠ g.name)) {f g : FileV} (hf : f ∈ S) (hg : g ∈ S) (e : f.name = g.name) : f = g := by
  induction S with
  | nil => simp at hf
  | cons a r ih =>
    obtain ⟨h1, h2⟩ := List.pairwise_cons.1 h
    rcases List.mem_cons.1 hf with ef | hf'
    · rcases List.mem_cons.1 hg with eg | hg'
      · rw [ef, eg]
      · exact absurd (ef ▸ e) (h1 g hg')
    · rcases List.mem_cons.1 hg with eg | hg'
      · exact absurd (eg ▸ e).symm (h1 f hf')
      · exact ih h2 hf' hg'
theorem others_none {S : List FileV} {x : ByteArray} (h : ∀ g, g ∈ S → g.name ≠ x) : others S x = S := by
  unfold others
  rw [List.filter_eq_self]
  intro g hg
  simpa using h g hg
theorem length_others {S : List FileV} (h : S.Pairwise (fun f g => f.name ≠ g.name)) {f : FileV} (hf : f ∈ S) : (others S f.name).length + 1 = S.length := by
  induction S with
  | nil => simp at hf
  | cons a r ih =>
    obtain ⟨h1, h2⟩ := List.pairwise_cons.1 h
    rcases List.mem_cons.1 hf with rfl | hf
    · have : others (f :: r) f.name = r := by
        have e := others_none (S := r) (x := f.name) (fun g hg e => h1 g hg e.symm)
        unfold others at e ⊢
        rw [List.filter_cons_of_neg (by simp), e]
      rw [this]
      rfl
    · have hne : a.name ≠ f.name := h1 f hf
      have : others (a :: r) f.name = a :: others r f.name := by
        unfold others
        rw [List.filter_cons_of_pos (by simpa using hne)]
      rw [this, List.length_cons, List.length_cons, ih h2 hf]
theorem Rising.apart {S : List FileV} (h : Rising S) : S.Pairwise (fun f g => f.name ≠ g.name) := h.imp (fun {a b} hab e => by rw [e] at hab; exact List.lt_irrefl _ hab)
theorem heap_setCell_cells {X : World} {x j : Nat} {cs : Array Value} {t : TypeId} (h : X.heap[x]? = some (.cells cs t (0, 0))) (v : Value) : (X.setCell ⟨x, j, none⟩ v).heap[x]? = some (.cells (cs.setIfInBounds j v) t (0, 0)) := by
  simp [World.setCell, Array.getElem?_modify, h]
theorem FOwn.drewO {w : World} {base : Nat} {v : Value} {fs : List FileV} (h : FOwn w base v fs) : FOwn w.drew base v fs := h

/-- What a step answers: its files and its code. -/
def stepF (fs : List FileV) (c u : Int) (d : Bool) (code : Int) (R : List FileV) : List FileV × Int := if begC fs c u d = 0 then (if code = 0 then R else fs, code) else (fs, begC fs c u d)

end Go.Proofs.Ythfpcjamlbkgfaa
