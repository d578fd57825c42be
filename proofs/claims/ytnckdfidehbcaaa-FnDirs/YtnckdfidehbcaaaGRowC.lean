/-
  Rows of structs: a slice whose elements are k cells each, read and owned; for every kind of element.
-/
import Derived.Test.YtnckdfidehbcaaaCore
import Derived.Below
namespace Go.Proofs.Ytnckdfidehbcaaa
open Go.RowKit
open Plain

/-- How an element lies in memory: k cells. -/
structure Shape (α : Type) where
  cells : α → List Value
  k : Nat
  len : ∀ x, (cells x).length = k
  one : ∀ x, ∀ u ∈ cells x, u.oneCell' = true
  pos : 0 < k

def Shape.flat {α : Type} (S : Shape α) : List α → List Value
  | [] => []
  | x :: r => S.cells x ++ S.flat r
theorem Shape.flat_length {α : Type} (S : Shape α) (xs : List α) : (S.flat xs).length = xs.length * S.k := by
  induction xs with
  | nil => simp [Shape.flat]
  | cons x r ih => rw [Shape.flat, List.length_append, S.len, ih, List.length_cons, Nat.succ_mul]; omega
theorem Shape.flat_append {α : Type} (S : Shape α) (xs ys : List α) : S.flat (xs ++ ys) = S.flat xs ++ S.flat ys := by
  induction xs with
  | nil => rfl
  | cons x r ih => rw [List.cons_append, Shape.flat, ih, Shape.flat, List.append_assoc]
theorem Shape.flat_one {α : Type} (S : Shape α) (xs : List α) : ∀ u ∈ S.flat xs, u.oneCell' = true := by
  induction xs with
  | nil => intro u h; simp [Shape.flat] at h
  | cons x r ih =>
    intro u h
    rw [Shape.flat, List.mem_append] at h
    rcases h with h | h
    · exact S.one x u h
    · exact ih u h
theorem Shape.flat_get {α : Type} (S : Shape α) (xs : List α) : ∀ i (hi : i < xs.length) j, j < S.k → (S.flat xs)[i * S.k + j]? = (S.cells (xs[i]))[j]? := by
  induction xs with
  | nil => intro i hi; simp at hi
  | cons x r ih =>
    intro i hi j hj
    have hl := S.len x
    cases i with
    | zero =>
      rw [Shape.flat, Nat.zero_mul, Nat.zero_add, List.getElem?_append_left (by omega)]
      rfl
    | succ i =>
      rw [Shape.flat, List.getElem?_append_right (by rw [hl, Nat.succ_mul]; omega), hl]
      rw [show (i + 1) * S.k + j - S.k = i * S.k + j from by rw [Nat.succ_mul]; omega]
      exact ih i (by simpa using hi) j hj

/-- The slice (a, n, ..) shows these elements. -/
structure Shape.Row {α : Type} (S : Shape α) (w : World) (a : Option Addr) (n : Nat) (xs : List α) : Prop where
  len : xs.length = n
  cells : ∀ i, (hi : i < xs.length) → ∃ b off, a = some ⟨b, off, none⟩ ∧ b < w.heap.size ∧ ∀ j, j < S.k → w.cell? ⟨b, off + i * S.k + j, none⟩ = (S.cells (xs[i]))[j]?
theorem Shape.Row.later {α : Type} {S : Shape α} {w w' : World} {a : Option Addr} {n : Nat} {xs : List α} (h : S.Row w a n xs) (hb : Below w.heap.size w w') : S.Row w' a n xs where
  len := h.len
  cells := fun i hi => by
    obtain ⟨b, off, h1, h2, h3⟩ := h.cells i hi
    exact ⟨b, off, h1, Nat.lt_of_lt_of_le h2 hb.size, fun j hj => by rw [hb.cell (p := ⟨b, off + i * S.k + j, none⟩) h2]; exact h3 j hj⟩
theorem addr_add' (b off j : Nat) : (⟨b, off, none⟩ : Addr).add j = ⟨b, off + j, none⟩ := by unfold Addr.add; split <;> simp_all
theorem Shape.Row.src {α : Type} {S : Shape α} {w : World} {ad : Addr} {n : Nat} {xs : List α} (h : S.Row w (some ad) n xs) : ∀ j u, (S.flat xs)[j]? = some u → w.cell? (ad.add j) = some u := by
  intro j u hj
  have hk := S.pos
  have hjl : j < xs.length * S.k := by
    have := (List.getElem?_eq_some_iff.1 hj).1
    rw [S.flat_length] at this
    exact this
  have hi : j / S.k < xs.length := (Nat.div_lt_iff_lt_mul hk).2 hjl
  have hm : j % S.k < S.k := Nat.mod_lt _ hk
  have hd : j / S.k * S.k + j % S.k = j := by rw [Nat.mul_comm]; exact Nat.div_add_mod j S.k
  obtain ⟨b, off, e, _, c⟩ := h.cells (j / S.k) hi
  injection e with e
  subst e
  have h1 := S.flat_get xs (j / S.k) hi (j % S.k) hm
  rw [hd, hj] at h1
  have h2 := c (j % S.k) hm
  rw [addr_add', show off + j = off + j / S.k * S.k + j % S.k from by omega, h2, ← h1]

/-- The slice v shows these elements; they lie in a row of the call's own, from block base on. -/
def Shape.Own {α : Type} (S : Shape α) (T : TypeId) (w : World) (base : Nat) (v : Value) (xs : List α) : Prop := w.ownsRow base T S.k v xs.length (S.flat xs)
theorem Shape.Own.len {α : Type} {S : Shape α} {T : TypeId} {w : World} {base : Nat} {a : Option Addr} {n cap : Nat} {xs : List α} (h : S.Own T w base (.slice a n cap) xs) : xs.length = n := by
  rcases h.2 with ⟨e, h0⟩ | ⟨g, c, cur, e, _⟩
  · simp only [Value.slice.injEq] at e; omega
  · simp only [Value.slice.injEq] at e; omega
theorem Shape.Own.blk {α : Type} {S : Shape α} {T : TypeId} {w : World} {base : Nat} {v : Value} {xs : List α} (h : S.Own T w base v xs) : ∀ g, v.ownBlock = some g → base ≤ g ∧ g < w.heap.size := World.ownsRow.lt h
theorem Shape.Own.row {α : Type} {S : Shape α} {T : TypeId} {w : World} {base : Nat} {a : Option Addr} {n cap : Nat} {xs : List α} (h : S.Own T w base (.slice a n cap) xs) : S.Row w a n xs where
  len := h.len
  cells := fun i hi => by
    have hn := h.len
    have hfl := S.flat_length xs
    unfold Shape.Own at h
    rw [hn] at h
    rcases h.2 with ⟨e, h0⟩ | ⟨g, c, cur, e, hb, hg, _⟩
    · omega
    · simp only [Value.slice.injEq] at e
      obtain ⟨rfl, _, rfl⟩ := e
      have hgl : g < w.heap.size := by
        rcases Nat.lt_or_ge g w.heap.size with h' | h'
        · exact h'
        · rw [Array.getElem?_eq_none h'] at hg; cases hg
      refine ⟨g, 0, rfl, hgl, fun j hj => ?_⟩
      have hlt : i * S.k + j < n * S.k := by
        have : (i + 1) * S.k ≤ n * S.k := Nat.mul_le_mul_right _ (by omega)
        rw [Nat.succ_mul] at this
        omega
      have hget := S.flat_get xs i hi j hj
      have hj2 : j < (S.cells (xs[i])).length := by rw [S.len]; exact hj
      rw [Nat.zero_add, h.cellAt _ (by omega), hget, List.getElem?_eq_getElem hj2]
theorem Shape.Own.later {α : Type} {S : Shape α} {T : TypeId} {w w' : World} {base K : Nat} {v : Value} {xs : List α} (h : S.Own T w base v xs) (hb : Below K w w') (hK : w.heap.size ≤ K) : S.Own T w' base v xs := by
  refine ⟨h.1, ?_⟩
  rcases h.2 with h | ⟨g, c, cur, e, hbg, hg, h1⟩
  · exact .inl h
  · have hgl : g < w.heap.size := by
      rcases Nat.lt_or_ge g w.heap.size with h' | h'
      · exact h'
      · rw [Array.getElem?_eq_none h'] at hg; cases hg
    exact .inr ⟨g, c, cur, e, hbg, by rw [hb.block g (by omega)]; exact hg, h1⟩
theorem Shape.Own.mono {α : Type} {S : Shape α} {T : TypeId} {w : World} {base base' : Nat} {v : Value} {xs : List α} (h : S.Own T w base v xs) (hb : base' ≤ base) : S.Own T w base' v xs := by
  refine ⟨h.1, ?_⟩
  rcases h.2 with h | ⟨g, c, cur, e, hbg, h1⟩
  · exact .inl h
  · exact .inr ⟨g, c, cur, e, Nat.le_trans hb hbg, h1⟩
/-- Another block is written. -/
theorem Shape.Own.setNe {α : Type} {S : Shape α} {T : TypeId} {w : World} {base : Nat} {v : Value} {xs : List α} (h : S.Own T w base v xs) (p : Addr) (u : Value) (hp : v.ownBlock ≠ some p.block) : S.Own T (w.setCell p u) base v xs := by
  refine ⟨h.1, ?_⟩
  rcases h.2 with h | ⟨g, c, cur, e, hbg, hg, h1⟩
  · exact .inl h
  · refine .inr ⟨g, c, cur, e, hbg, ?_, h1⟩
    rw [Below.heap_setCell w p u g (by intro q; apply hp; rw [e, ← q]; rfl)]
    exact hg
theorem Shape.Own.setCell {α : Type} {S : Shape α} {T : TypeId} {w : World} {base : Nat} {v : Value} {xs : List α} (h : S.Own T w base v xs) (p : Addr) (u : Value) (hp : p.block < base) : S.Own T (w.setCell p u) base v xs :=
  h.setNe p u (fun e => by have := (h.blk _ e).1; omega)
/-- What is drawn from the cursor leaves rows behind it alone. -/
theorem Shape.Own.grownB {α : Type} {S : Shape α} {T : TypeId} {w w' : World} {base B : Nat} {v : Value} {xs : List α} (h : S.Own T w base v xs) (hg : w.grownBy w' (some B)) (hB : B < base) : S.Own T w' base v xs := by
  refine World.ownsRow.kept h hg ?_
  cases e : v.ownBlock with
  | none => exact .inl rfl
  | some g => exact .inr (fun q => by injection q with q; have := (h.blk g e).1; omega)
/-- An empty row that the call has laid. -/
theorem Shape.Own.empty {α : Type} (S : Shape α) (T : TypeId) (w : World) : S.Own T (w.alloc (.cells #[] T)) w.heap.size (.slice (some ⟨w.heap.size, 0, none⟩) 0 0) [] :=
  ⟨by simp [Shape.flat], .inr ⟨w.heap.size, 0, #[], rfl, Nat.le_refl _, heap_alloc_new w _, Nat.le_refl _, by unfold maxLen; omega, by simp, by simp [Shape.flat]⟩⟩
theorem Shape.Own.nil {α : Type} (S : Shape α) (T : TypeId) (w : World) (base : Nat) : S.Own T w base (.slice none 0 0) [] := ⟨by simp [Shape.flat], .inl ⟨rfl, rfl⟩⟩
/-- One element in a new block, as a row. -/
theorem Shape.Row.single {α : Type} (S : Shape α) (T : TypeId) (w : World) (x : α) : S.Row (w.alloc (.cells (S.cells x).toArray T)) (some ⟨w.heap.size, 0, none⟩) 1 [x] where
  len := rfl
  cells := fun i hi => by
    obtain rfl : i = 0 := by simp at hi; omega
    refine ⟨w.heap.size, 0, rfl, by simp, fun j hj => ?_⟩
    rw [cell_of_row _ _ _ _ _ _ (heap_alloc_new w _)]
    simp

/-- 'out = append(out, ys...)', out a row of the call's own: a law for the walk. -/
theorem Shape.wpList_app {P : Program} {α : Type} (S : Shape α) {ops : Array Oper} {rest : List Oper} {o : Oper} {act : Act} {Q : Exit → Act → World → Prop} (hgd : o.guard = none) (s x : Operand) (ST T : TypeId)
    (ho : o.op = .call { callee := .builtin .append, args := #[s, x], argTypes := #[ST, ST] }) {i0 : TypeInfo} {z : Value} {bytes : Nat} (hu : P.underlying ST = some (.slice T)) (hi : P.info? T = some i0) (hz0 : i0.zero = some z) (hz1 : i0.size = S.k) (hz2 : i0.bytes = bytes) (hzs : z.cells.size = S.k) (hby : bytes ≤ 128)
    {w : World} {base : Nat} {v : Value} {xs ys : List α} (hown : S.Own T w base v xs) (hb : base ≤ w.heap.size) {ad : Addr} {m c : Nat} (hr : S.Row w (some ad) m ys) (hn : xs.length + m ≤ 1099511627776)
    (hs : act.eval s = v) (hx : act.eval x = .slice (some ad) m c)
    (h : ∀ a' n' cap' w', n' = xs.length + m → S.Own T w' base (.slice a' n' cap') (xs ++ ys) → w.grownBy w' v.ownBlock → wpList P ops Q rest (act.put o.dst (.slice a' n' cap')) w') : wpList P ops Q (o :: rest) act w := by
  have hm := hr.len
  have hmul : (xs.length + m) * bytes ≤ 140737488355328 := Nat.le_trans (Nat.mul_le_mul hn hby) (by decide)
  refine wpList_append_own (P := P) w hgd s x ST ho base T i0 z S.k bytes hu hi hz0 hz1 hz2 hzs S.pos v xs.length (S.flat xs) hs hown
    ad m c (S.flat ys) hx (by rw [S.flat_length, hm]) hr.src (S.flat_one ys) (by unfold maxLen; omega) hmul hb ?_
  intro v' w' ho' hg _
  have hval : ∃ a' cap', v' = .slice a' (xs.length + m) cap' := by
    rcases ho'.2 with ⟨e, h0⟩ | ⟨g, cap, cur, e, _⟩
    · exact ⟨none, 0, by rw [e, h0]⟩
    · exact ⟨_, _, e⟩
  obtain ⟨a', cap', rfl⟩ := hval
  refine h a' _ cap' w' rfl ?_ hg
  unfold Shape.Own
  rw [List.length_append, hm, S.flat_append]
  exact ho'

end Go.Proofs.Ytnckdfidehbcaaa
