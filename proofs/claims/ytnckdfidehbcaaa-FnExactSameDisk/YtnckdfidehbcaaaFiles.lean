/-
  Rows of files that a call has made itself: their cells, and a file put into its place.
-/
import Derived.Test.YtnckdfidehbcaaaFileBase
namespace Go.Proofs.Ytnckdfidehbcaaa
open Go.RowKit
open Plain

def fcells : List FileV → List Value
  | [] => []
  | f :: r => .string f.name :: .string f.text :: .int .i64 f.safe :: fcells r
theorem fcells_length (fs : List FileV) : (fcells fs).length = fs.length * 3 := by
  induction fs with
  | nil => rfl
  | cons f r ih => simp [fcells, ih]; omega
theorem fcells_append (fs gs : List FileV) : fcells (fs ++ gs) = fcells fs ++ fcells gs := by
  induction fs with
  | nil => rfl
  | cons f r ih => simp [fcells, ih]
theorem fcells_get (fs : List FileV) : ∀ i, (h : i < fs.length) → (fcells fs)[i * 3]? = some (.string (fs[i]).name) ∧ (fcells fs)[i * 3 + 1]? = some (.string (fs[i]).text) ∧ (fcells fs)[i * 3 + 2]? = some (.int .i64 (fs[i]).safe) := by
  induction fs with
  | nil => intro i h; simp at h
  | cons f r ih =>
    intro i h
    cases i with
    | zero => simp [fcells]
    | succ i =>
      have := ih i (by simpa using h)
      have e : (i + 1) * 3 = i * 3 + 1 + 1 + 1 := by omega
      rw [e]
      simp only [fcells]
      refine ⟨?_, ?_, ?_⟩
      · simpa using this.1
      · simpa using this.2.1
      · simpa using this.2.2
theorem fcells_set (fs : List FileV) : ∀ i f, i < fs.length → (((fcells fs).set (i * 3) (.string f.name)).set (i * 3 + 1) (.string f.text)).set (i * 3 + 2) (.int .i64 f.safe) = fcells (fs.set i f) := by
  induction fs with
  | nil => intro i f h; simp at h
  | cons g r ih =>
    intro i f h
    cases i with
    | zero => simp [fcells]
    | succ i =>
      have := ih i f (by simpa using h)
      have e : (i + 1) * 3 = i * 3 + 1 + 1 + 1 := by omega
      rw [e]
      simp only [fcells, List.set_cons_succ]
      rw [← this]
def zeroF : FileV := ⟨⟨#[]⟩, ⟨#[]⟩, 0⟩
theorem fcells_zero (n : Nat) : fcells (List.replicate n zeroF) = (madeCells #[.string ⟨#[]⟩, .string ⟨#[]⟩, .int .i64 0] (n * 3)).toList := by
  apply List.ext_getElem?
  intro j
  by_cases hj : j < n * 3
  · have hi : j / 3 < (List.replicate n zeroF).length := by simp; omega
    have hg := fcells_get (List.replicate n zeroF) (j / 3) hi
    simp only [List.getElem_replicate] at hg
    have hm : (madeCells #[.string ⟨#[]⟩, .string ⟨#[]⟩, .int .i64 0] (n * 3)).toList[j]? = some ((#[Value.string ⟨#[]⟩, .string ⟨#[]⟩, .int .i64 0] : Array Value)[j % 3]?.getD default) := by
      simp [madeCells, hj]
    rw [hm]
    have h3 : j % 3 < 3 := Nat.mod_lt _ (by omega)
    rcases (by omega : j % 3 = 0 ∨ j % 3 = 1 ∨ j % 3 = 2) with h | h | h
    · rw [show j = j / 3 * 3 by omega, hg.1]
      simp [zeroF]
    · rw [show j = j / 3 * 3 + 1 by omega, hg.2.1]
      simp [zeroF]
    · rw [show j = j / 3 * 3 + 2 by omega, hg.2.2]
      simp [zeroF]
  · rw [List.getElem?_eq_none (by rw [fcells_length]; simp; omega), List.getElem?_eq_none (by simp [madeCells]; omega)]

/-- The slice v shows these files; they lie in a row of the call's own, from block base on. -/
def FOwn (w : World) (base : Nat) (v : Value) (fs : List FileV) : Prop := w.ownsRow base 65 3 v fs.length (fcells fs)

theorem FOwn.len {w : World} {base : Nat} {a : Option Addr} {n cap : Nat} {fs : List FileV} (h : FOwn w base (.slice a n cap) fs) : fs.length = n := by
  rcases h.2 with ⟨e, h0⟩ | ⟨g, c, cur, e, _⟩
  · simp only [Value.slice.injEq] at e; omega
  · simp only [Value.slice.injEq] at e; omega
theorem FOwn.row {w : World} {base : Nat} {a : Option Addr} {n cap : Nat} {fs : List FileV} (h : FOwn w base (.slice a n cap) fs) : FRow w base a n fs where
  len := h.len
  cells := fun i hi => by
    have hn := h.len
    unfold FOwn at h
    rw [hn] at h
    rcases h.2 with ⟨e, h0⟩ | ⟨g, c, cur, e, hb, hg, _⟩
    · omega
    · simp only [Value.slice.injEq] at e
      obtain ⟨rfl, _, rfl⟩ := e
      have hgl : g < w.heap.size := by
        rcases Nat.lt_or_ge g w.heap.size with h' | h'
        · exact h'
        · rw [Array.getElem?_eq_none h'] at hg; cases hg
      obtain ⟨h1, h2, h3⟩ := fcells_get fs i hi
      refine ⟨g, 0, rfl, hb, hgl, ?_, ?_, ?_⟩
      · rw [Nat.zero_add, h.cellAt _ (by omega), h1]
      · rw [Nat.zero_add, h.cellAt _ (by omega), h2]
      · rw [Nat.zero_add, h.cellAt _ (by omega), h3]
theorem FOwn.later {w w' : World} {base K : Nat} {v : Value} {fs : List FileV} (h : FOwn w base v fs) (hb : Below K w w') (hK : w.heap.size ≤ K) : FOwn w' base v fs := by
  refine ⟨h.1, ?_⟩
  rcases h.2 with h | ⟨g, c, cur, e, hbg, hg, h1⟩
  · exact .inl h
  · have hgl : g < w.heap.size := by
      rcases Nat.lt_or_ge g w.heap.size with h' | h'
      · exact h'
      · rw [Array.getElem?_eq_none h'] at hg; cases hg
    exact .inr ⟨g, c, cur, e, hbg, by rw [hb.block g (by omega)]; exact hg, h1⟩
theorem FOwn.mono {w : World} {base base' : Nat} {v : Value} {fs : List FileV} (h : FOwn w base v fs) (hb : base' ≤ base) : FOwn w base' v fs := by
  refine ⟨h.1, ?_⟩
  rcases h.2 with h | ⟨g, c, cur, e, hbg, h1⟩
  · exact .inl h
  · exact .inr ⟨g, c, cur, e, Nat.le_trans hb hbg, h1⟩
/-- A file put into place i, field by field. -/
def put3 (w : World) (g i : Nat) (f : FileV) : World := ((w.setCell ⟨g, i * 3, none⟩ (.string f.name)).setCell ⟨g, i * 3 + 1, none⟩ (.string f.text)).setCell ⟨g, i * 3 + 2, none⟩ (.int .i64 f.safe)
theorem FOwn.put {w : World} {base g n cap : Nat} {fs : List FileV} (h : FOwn w base (.slice (some ⟨g, 0, none⟩) n cap) fs) (i : Nat) (f : FileV) (hi : i < n) :
    FOwn (put3 w g i f) base (.slice (some ⟨g, 0, none⟩) n cap) (fs.set i f) ∧ w.grownBy (put3 w g i f) (some g) := by
  have hn := h.len
  unfold FOwn at h ⊢
  rw [hn] at h
  rw [List.length_set, hn, ← fcells_set fs i f (by omega)]
  have h1 := h.stored (i * 3) (.string f.name)
  have h2 := h1.1.stored (i * 3 + 1) (.string f.text)
  have h3 := h2.1.stored (i * 3 + 2) (.int .i64 f.safe)
  refine ⟨h3.1, ?_⟩
  have t : ∀ {x y z : World}, x.grownBy y (some g) → y.grownBy z (some g) → x.grownBy z (some g) := fun {x y z} p q =>
    ⟨q.os.trans p.os, q.tape.trans p.tape, q.output.trans p.output, Nat.le_trans p.size q.size, fun i hi hr => (q.block i (Nat.lt_of_lt_of_le hi p.size) hr).trans (p.block i hi hr)⟩
  exact t h1.2 (t h2.2 h3.2)

theorem size_alloc (w : World) (o : Obj) : (w.alloc o).heap.size = w.heap.size + 1 := by simp
/-- Three new blocks. -/
theorem alloc3 (w : World) (o0 o1 o2 : Obj) : (((w.alloc o0).alloc o1).alloc o2).heap.size = w.heap.size + 3 ∧ Below w.heap.size w (((w.alloc o0).alloc o1).alloc o2) ∧
    (((w.alloc o0).alloc o1).alloc o2).heap[w.heap.size]? = some o0 ∧ (((w.alloc o0).alloc o1).alloc o2).heap[w.heap.size + 1]? = some o1 ∧ (((w.alloc o0).alloc o1).alloc o2).heap[w.heap.size + 1 + 1]? = some o2 := by
  refine ⟨by simp, (((Below.refl _ w).alloc (Nat.le_refl _) _).alloc (by simp) _).alloc (by simp; omega) _, ?_, ?_, ?_⟩
  · rw [Below.heap_alloc _ _ _ (by rw [size_alloc, size_alloc]; omega), Below.heap_alloc _ _ _ (by rw [size_alloc]; omega)]
    exact heap_alloc_new w o0
  · rw [Below.heap_alloc _ _ _ (by rw [size_alloc, size_alloc]; omega)]
    have := heap_alloc_new (w.alloc o0) o1
    rw [size_alloc] at this
    exact this
  · have := heap_alloc_new ((w.alloc o0).alloc o1) o2
    rw [size_alloc, size_alloc] at this
    exact this
/-- Two new blocks. -/
theorem alloc2 (w : World) (o0 o1 : Obj) : ((w.alloc o0).alloc o1).heap.size = w.heap.size + 2 ∧ Below w.heap.size w ((w.alloc o0).alloc o1) ∧
    ((w.alloc o0).alloc o1).heap[w.heap.size]? = some o0 ∧ ((w.alloc o0).alloc o1).heap[w.heap.size + 1]? = some o1 := by
  refine ⟨by simp, ((Below.refl _ w).alloc (Nat.le_refl _) _).alloc (by simp) _, ?_, ?_⟩
  · rw [Below.heap_alloc _ _ _ (by rw [size_alloc]; omega)]
    exact heap_alloc_new w o0
  · have := heap_alloc_new (w.alloc o0) o1
    rw [size_alloc] at this
    exact this
/-- Four cells of a block, and that they can be written. -/
theorem cells4 {w : World} {B : Nat} {x0 x1 x2 x3 : Value} {ty : TypeId} (h : w.heap[B]? = some (.cells #[x0, x1, x2, x3] ty (0, 0))) :
    w.cell? ⟨B, 0, none⟩ = some x0 ∧ w.cell? ⟨B, 1, none⟩ = some x1 ∧ w.cell? ⟨B, 2, none⟩ = some x2 ∧ w.cell? ⟨B, 3, none⟩ = some x3 ∧ w.frozen? ⟨B, 0, none⟩ = false ∧ w.frozen? ⟨B, 1, none⟩ = false ∧ w.frozen? ⟨B, 2, none⟩ = false ∧ w.frozen? ⟨B, 3, none⟩ = false := by
  have hf : ∀ j, w.frozen? ⟨B, j, none⟩ = false := fun j => by simp [World.frozen?, h]
  refine ⟨?_, ?_, ?_, ?_, hf 0, hf 1, hf 2, hf 3⟩ <;> rw [cell_of_row w B _ _ _ _ h] <;> rfl
theorem FOwn.setCell {w : World} {base : Nat} {v : Value} {fs : List FileV} (h : FOwn w base v fs) (p : Addr) (u : Value) (hp : p.block < base) : FOwn (w.setCell p u) base v fs := by
  refine ⟨h.1, ?_⟩
  rcases h.2 with h | ⟨g, c, cur, e, hbg, hg, h1⟩
  · exact .inl h
  · exact .inr ⟨g, c, cur, e, hbg, by rw [Below.heap_setCell w p u g (by omega)]; exact hg, h1⟩

end Go.Proofs.Ytnckdfidehbcaaa
