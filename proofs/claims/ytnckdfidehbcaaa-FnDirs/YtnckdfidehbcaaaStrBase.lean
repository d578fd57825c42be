/-
  A slice of texts, and how it lies in the world; the laws' eqStringS.
-/
import Derived.Test.YtnckdfidehbcaaaOwnB
import Derived.Laws.CopyOwn
namespace Go.Proofs.Ytnckdfidehbcaaa
open Go.RowKit
open Plain

/-- The slice shows these texts; what it leads to lies in blocks from base on. -/
structure TRow (w : World) (base : Nat) (a : Option Addr) (len : Nat) (zs : List ByteArray) : Prop where
  len : zs.length = len
  cells : ∀ i, (h : i < zs.length) → ∃ b off, a = some ⟨b, off, none⟩ ∧ base ≤ b ∧ b < w.heap.size ∧ w.cell? ⟨b, off + i, none⟩ = some (.string (zs[i]))
theorem TRow.later {w w' : World} {base K : Nat} {a : Option Addr} {len : Nat} {zs : List ByteArray} (h : TRow w base a len zs) (hb : Below K w w') (hK : w.heap.size ≤ K) : TRow w' base a len zs where
  len := h.len
  cells := fun i hi => by
    obtain ⟨b, off, h1, h2, h3, h4⟩ := h.cells i hi
    refine ⟨b, off, h1, h2, Nat.lt_of_lt_of_le h3 hb.size, ?_⟩
    rw [hb.cell (p := ⟨b, _, none⟩) (Nat.lt_of_lt_of_le h3 hK)]
    exact h4
/-- The same in a row of the call's own. -/
def TOwn (w : World) (base : Nat) (v : Value) (zs : List ByteArray) : Prop := w.ownsRow base 9 1 v zs.length (zs.map (Value.string))
theorem TOwn.len {w : World} {base : Nat} {a : Option Addr} {n cap : Nat} {zs : List ByteArray} (h : TOwn w base (.slice a n cap) zs) : zs.length = n := by
  rcases h.2 with ⟨e, h0⟩ | ⟨g, c, cur, e, _⟩
  · simp only [Value.slice.injEq] at e; omega
  · simp only [Value.slice.injEq] at e; omega
theorem TOwn.row {w : World} {base : Nat} {a : Option Addr} {n cap : Nat} {zs : List ByteArray} (h : TOwn w base (.slice a n cap) zs) : TRow w 0 a n zs where
  len := h.len
  cells := fun i hi => by
    have hn := h.len
    unfold TOwn at h
    rw [hn] at h
    rcases h.2 with ⟨e, h0⟩ | ⟨g, c, cur, e, hb, hg, _⟩
    · omega
    · simp only [Value.slice.injEq] at e
      obtain ⟨rfl, _, rfl⟩ := e
      have hgl : g < w.heap.size := by
        rcases Nat.lt_or_ge g w.heap.size with h' | h'
        · exact h'
        · rw [Array.getElem?_eq_none h'] at hg; cases hg
      refine ⟨g, 0, rfl, Nat.zero_le _, hgl, ?_⟩
      rw [Nat.zero_add, h.cellAt _ (by omega)]
      simp [hi]
theorem TOwn.later {w w' : World} {base K : Nat} {v : Value} {zs : List ByteArray} (h : TOwn w base v zs) (hb : Below K w w') (hK : w.heap.size ≤ K) : TOwn w' base v zs := own_later h hb hK
theorem TOwn.mono {w : World} {base base' : Nat} {v : Value} {zs : List ByteArray} (h : TOwn w base v zs) (hb : base' ≤ base) : TOwn w base' v zs := by
  refine ⟨h.1, ?_⟩
  rcases h.2 with h | ⟨g, c, cur, e, hbg, h1⟩
  · exact .inl h
  · exact .inr ⟨g, c, cur, e, Nat.le_trans hb hbg, h1⟩
theorem TOwn.blk {w : World} {base : Nat} {v : Value} {zs : List ByteArray} (h : TOwn w base v zs) : ∀ g, v.ownBlock = some g → base ≤ g ∧ g < w.heap.size := World.ownsRow.lt h
/-- A text put into its place. -/
theorem TOwn.put {w : World} {base g n cap : Nat} {zs : List ByteArray} (h : TOwn w base (.slice (some ⟨g, 0, none⟩) n cap) zs) (i : Nat) (z : ByteArray) :
    TOwn (w.setCell ⟨g, i, none⟩ (.string z)) base (.slice (some ⟨g, 0, none⟩) n cap) (zs.set i z) ∧ w.grownBy (w.setCell ⟨g, i, none⟩ (.string z)) (some g) := by
  have hn := h.len
  unfold TOwn at h ⊢
  rw [hn] at h
  rw [List.length_set, hn, List.map_set]
  exact h.stored i (.string z)

theorem Try.infoS : (Try.prog.info? 9).map (fun i => (i.zero, i.size, i.bytes)) = some (some (.string ⟨#[]⟩), 1, 16) := by kernel_rfl
/-- 'out = append(out, z)', out a row of texts of the call's own: a law for the walk. -/
theorem wpList_app_str {ops : Array Oper} {rest : List Oper} {o : Oper} {act : Act} {Q : Exit → Act → World → Prop} (hgd : o.guard = none) (s x : Operand)
    (ho : o.op = .call { callee := .builtin .append, args := #[s, x], argTypes := #[34, 34] }) {w : World} {base K : Nat} {v : Value} {xs : List Value} (z : ByteArray) (hown : (w.alloc (.cells #[.string z] 9)).ownsRow base 9 1 v K xs) (hb : base ≤ w.heap.size)
    (hn : K ≤ 1000) (hs : act.eval s = v) (hx : act.eval x = .slice (some ⟨w.heap.size, 0, none⟩) 1 1)
    (h : ∀ v' w', w'.ownsRow base 9 1 v' (K + 1) (xs ++ [.string z]) → (w.alloc (.cells #[.string z] 9)).grownBy w' v.ownBlock → wpList Try.prog ops Q rest (act.put o.dst v') w') :
    wpList Try.prog ops Q (o :: rest) act (w.alloc (.cells #[.string z] 9)) := by
  obtain ⟨i0, hi, hz0, hz1, hz2⟩ := info_parts Try.infoS
  refine wpList_append_own (P := Try.prog) (w.alloc (.cells #[.string z] 9)) hgd s x 34 ho base 9 i0 _ 1 16 Try.underlying34 hi hz0 hz1 hz2 rfl (by decide) v K _ hs hown ⟨w.heap.size, 0, none⟩ 1 1 [.string z] hx rfl (fun j u h => ?_) (fun u hu => by simp at hu; subst hu; rfl) (by unfold maxLen; omega) (by omega) (by simp; omega) ?_
  · rw [addr_add, Nat.zero_add, cell_of_row _ _ _ _ _ _ (heap_alloc_new w _)]
    simpa using h
  · intro v' w' ho' hg _
    exact h v' w' ho' hg
theorem TOwn.setCell {w : World} {base : Nat} {v : Value} {zs : List ByteArray} (h : TOwn w base v zs) (p : Addr) (u : Value) (hp : p.block < base) : TOwn (w.setCell p u) base v zs := by
  refine ⟨h.1, ?_⟩
  rcases h.2 with h | ⟨g, c, cur, e, hbg, hg, h1⟩
  · exact .inl h
  · exact .inr ⟨g, c, cur, e, hbg, by rw [Below.heap_setCell w p u g (by omega)]; exact hg, h1⟩
theorem TOwn.nil (w : World) (base : Nat) : TOwn w base (.slice none 0 0) [] := World.ownsRow_nil _ _ _ _
theorem TOwn.empty (w : World) : TOwn (w.alloc (.cells #[] 9)) w.heap.size (.slice (some ⟨w.heap.size, 0, none⟩) 0 0) [] :=
  ⟨rfl, .inr ⟨w.heap.size, 0, #[], rfl, Nat.le_refl _, heap_alloc_new w _, Nat.le_refl _, by unfold maxLen; omega, by simp, by simp⟩⟩

end Go.Proofs.Ytnckdfidehbcaaa
