/-
  A slice of ints, and how it lies in the world; the laws' toIntS and eqIntS.
-/
import Derived.Test.YtnckdfidehbcaaaOwnB
import Derived.Laws.CopyOwn
namespace Go.Proofs.Ytnckdfidehbcaaa
open Go.RowKit
open Plain

/-- The slice shows these numbers; what it leads to lies in blocks from base on. -/
structure IRow (w : World) (base : Nat) (a : Option Addr) (len : Nat) (zs : List Int) : Prop where
  len : zs.length = len
  cells : ∀ i, (h : i < zs.length) → ∃ b off, a = some ⟨b, off, none⟩ ∧ base ≤ b ∧ b < w.heap.size ∧ w.cell? ⟨b, off + i, none⟩ = some (.int .i64 (zs[i]))
theorem IRow.later {w w' : World} {base K : Nat} {a : Option Addr} {len : Nat} {zs : List Int} (h : IRow w base a len zs) (hb : Below K w w') (hK : w.heap.size ≤ K) : IRow w' base a len zs where
  len := h.len
  cells := fun i hi => by
    obtain ⟨b, off, h1, h2, h3, h4⟩ := h.cells i hi
    refine ⟨b, off, h1, h2, Nat.lt_of_lt_of_le h3 hb.size, ?_⟩
    rw [hb.cell (p := ⟨b, _, none⟩) (Nat.lt_of_lt_of_le h3 hK)]
    exact h4
/-- The same in a row of the call's own. -/
def IOwn (w : World) (base : Nat) (v : Value) (zs : List Int) : Prop := w.ownsRow base 3 1 v zs.length (zs.map (Value.int .i64))
theorem IOwn.len {w : World} {base : Nat} {a : Option Addr} {n cap : Nat} {zs : List Int} (h : IOwn w base (.slice a n cap) zs) : zs.length = n := by
  rcases h.2 with ⟨e, h0⟩ | ⟨g, c, cur, e, _⟩
  · simp only [Value.slice.injEq] at e; omega
  · simp only [Value.slice.injEq] at e; omega
theorem IOwn.row {w : World} {base : Nat} {a : Option Addr} {n cap : Nat} {zs : List Int} (h : IOwn w base (.slice a n cap) zs) : IRow w 0 a n zs where
  len := h.len
  cells := fun i hi => by
    have hn := h.len
    unfold IOwn at h
    rw [hn] at h
    rcases h.2 with ⟨e, h0⟩ | ⟨g, c, cur, e, hb, hg, _⟩
    · omega
    · simp only [Value.slice.injEq] at e
      obtain ⟨rfl, _, rfl⟩ := e
      have hgl : g < w.heap.size := by
        rcases Nat.lt_or_ge g w.heap.size with h' | h'
        · exact h'
        · rw [Array.getElem?_eq_none h'] at hg; cases hg
      refine ⟨g, 0, rfl, Nat.zero_le _, hgl, ?_⟩
      rw [Nat.zero_add, h.cellAt _ (by omega)]
      simp [hi]
theorem IOwn.later {w w' : World} {base K : Nat} {v : Value} {zs : List Int} (h : IOwn w base v zs) (hb : Below K w w') (hK : w.heap.size ≤ K) : IOwn w' base v zs := own_later h hb hK
theorem IOwn.mono {w : World} {base base' : Nat} {v : Value} {zs : List Int} (h : IOwn w base v zs) (hb : base' ≤ base) : IOwn w base' v zs := by
  refine ⟨h.1, ?_⟩
  rcases h.2 with h | ⟨g, c, cur, e, hbg, h1⟩
  · exact .inl h
  · exact .inr ⟨g, c, cur, e, Nat.le_trans hb hbg, h1⟩
theorem IOwn.blk {w : World} {base : Nat} {v : Value} {zs : List Int} (h : IOwn w base v zs) : ∀ g, v.ownBlock = some g → base ≤ g ∧ g < w.heap.size := World.ownsRow.lt h
/-- A number put into its place. -/
theorem IOwn.put {w : World} {base g n cap : Nat} {zs : List Int} (h : IOwn w base (.slice (some ⟨g, 0, none⟩) n cap) zs) (i : Nat) (z : Int) :
    IOwn (w.setCell ⟨g, i, none⟩ (.int .i64 z)) base (.slice (some ⟨g, 0, none⟩) n cap) (zs.set i z) ∧ w.grownBy (w.setCell ⟨g, i, none⟩ (.int .i64 z)) (some g) := by
  have hn := h.len
  unfold IOwn at h ⊢
  rw [hn] at h
  rw [List.length_set, hn, List.map_set]
  exact h.stored i (.int .i64 z)

theorem Try.info3 : (Try.prog.info? 3).map (fun i => (i.zero, i.size, i.bytes)) = some (some (.int .i64 0), 1, 8) := by kernel_rfl
/-- 'out = append(out, z)', out a row of ints of the call's own: a law for the walk. -/
theorem wpList_app_i64 {ops : Array Oper} {rest : List Oper} {o : Oper} {act : Act} {Q : Exit → Act → World → Prop} (hgd : o.guard = none) (s x : Operand)
    (ho : o.op = .call { callee := .builtin .append, args := #[s, x], argTypes := #[78, 78] }) {w : World} {base K : Nat} {v : Value} {xs : List Value} (z : Int) (hown : (w.alloc (.cells #[.int .i64 z] 3)).ownsRow base 3 1 v K xs) (hb : base ≤ w.heap.size)
    (hn : K ≤ 1000) (hs : act.eval s = v) (hx : act.eval x = .slice (some ⟨w.heap.size, 0, none⟩) 1 1)
    (h : ∀ v' w', w'.ownsRow base 3 1 v' (K + 1) (xs ++ [.int .i64 z]) → (w.alloc (.cells #[.int .i64 z] 3)).grownBy w' v.ownBlock → wpList Try.prog ops Q rest (act.put o.dst v') w') :
    wpList Try.prog ops Q (o :: rest) act (w.alloc (.cells #[.int .i64 z] 3)) := by
  obtain ⟨i0, hi, hz0, hz1, hz2⟩ := info_parts Try.info3
  refine wpList_append_own (P := Try.prog) (w.alloc (.cells #[.int .i64 z] 3)) hgd s x 78 ho base 3 i0 _ 1 8 Try.underlying78 hi hz0 hz1 hz2 rfl (by decide) v K _ hs hown ⟨w.heap.size, 0, none⟩ 1 1 [.int .i64 z] hx rfl (fun j u h => ?_) (fun u hu => by simp at hu; subst hu; rfl) (by unfold maxLen; omega) (by omega) (by simp; omega) ?_
  · rw [addr_add, Nat.zero_add, cell_of_row _ _ _ _ _ _ (heap_alloc_new w _)]
    simpa using h
  · intro v' w' ho' hg _
    exact h v' w' ho' hg
theorem takeI_set_succ (gs fs : List Int) (k : Nat) (hk : k < fs.length) (hg : k < gs.length) (h : gs.take k = fs.take k) : (gs.set k (fs[k])).take (k + 1) = fs.take (k + 1) := by
  rw [List.take_succ_eq_append_getElem (by rw [List.length_set]; exact hg), List.take_succ_eq_append_getElem hk, List.take_set_of_le (Nat.le_refl _), h]
  simp

end Go.Proofs.Ytnckdfidehbcaaa
