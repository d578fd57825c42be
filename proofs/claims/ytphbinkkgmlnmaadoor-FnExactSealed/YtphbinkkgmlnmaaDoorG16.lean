/-
  A slice of ints, and how it lies in the world; the laws' toIntS and eqIntS. append at a row of ints of the call's own, however long. Which batches are sealed, place by place.
-/
import Derived.Test.YtphbinkkgmlnmaaDoorG14
import Derived.Laws.CopyOwn
import Derived.Maps.AppendAt
import Derived.Test.YtphbinkkgmlnmaaDoorG11
namespace Go.Proofs.YtphbinkkgmlnmaaDoor
open Go.RowKit
open Plain

/-- The slice shows these numbers; what it leads to lies in blocks from base on. -/
structure IRow (w : World) (base : Nat) (a : Option Addr) (len : Nat) (zs : List Int) : Prop where
  len : zs.length = len
  cells : ∀ i, (h : i < zs.length) → ∃ b off, a = some ⟨b, off, none⟩ ∧ base ≤ b ∧ b < w.heap.size ∧ w.cell? ⟨b, off + i, none⟩ = some (.int .i64 (zs[i]))
theorem IRow.later {w w' : World} {base K : Nat} {a : Option Addr} {len : Nat} {zs : List Int} (h : IRow w base a len zs) (hb : Below K w w') (hK : w.heap.size ≤ K) : IRow w' base a len zs where
  len := h.len
  cells := fun i hi => by
    obtain ⟨b, off, h1, h2, h3, h4⟩ := h.cells i hi
    refine ⟨b, off, h1, h2, Nat.lt_of_lt_of_le h3 hb.size, ?_⟩
    rw [hb.cell (p := ⟨b, _, none⟩) (Nat.lt_of_lt_of_le h3 hK)]
    exact h4
/-- The same in a row of the call's own. -/
def IOwn (w : World) (base : Nat) (v : Value) (zs : List Int) : Prop := w.ownsRow base 3 1 v zs.length (zs.map (Value.int .i64))
theorem IOwn.len {w : World} {base : Nat} {a : Option Addr} {n cap : Nat} {zs : List Int} (h : IOwn w base (.slice a n cap) zs) : zs.length = n := by
  rcases h.2 with ⟨e, h0⟩ | ⟨g, c, cur, e, _⟩
  · simp only [Value.slice.injEq] at e; omega
  · simp only [Value.slice.injEq] at e; omega
theorem IOwn.row {w : World} {base : Nat} {a : Option Addr} {n cap : Nat} {zs : List Int} (h : IOwn w base (.slice a n cap) zs) : IRow w 0 a n zs where
  len := h.len
  cells := fun i hi => by
    have hn := h.len
    unfold IOwn at h
    rw [hn] at h
    rcases h.2 with ⟨e, h0⟩ | ⟨g, c, cur, e, hb, hg, _⟩
    · omega
    · simp only [Value.slice.injEq] at e
      obtain ⟨rfl, _, rfl⟩ := e
      have hgl : g < w.heap.size := by
        rcases Nat.lt_or_ge g w.heap.size with h' | h'
        · exact h'
        · rw [Array.getElem?_eq_none h'] at hg; cases hg
      refine ⟨g, 0, rfl, Nat.zero_le _, hgl, ?_⟩
      rw [Nat.zero_add, h.cellAt _ (by omega)]
      simp [hi]
theorem IOwn.later {w w' : World} {base K : Nat} {v : Value} {zs : List Int} (h : IOwn w base v zs) (hb : Below K w w') (hK : w.heap.size ≤ K) : IOwn w' base v zs := own_later h hb hK
theorem IOwn.mono {w : World} {base base' : Nat} {v : Value} {zs : List Int} (h : IOwn w base v zs) (hb : base' ≤ base) : IOwn w base' v zs := by
  refine ⟨h.1, ?_⟩
  rcases h.2 with h | ⟨g, c, cur, e, hbg, h1⟩
  · exact .inl h
  · exact .inr ⟨g, c, cur, e, Nat.le_trans hb hbg, h1⟩
theorem IOwn.blk {w : World} {base : Nat} {v : Value} {zs : List Int} (h : IOwn w base v zs) : ∀ g, v.ownBlock = some g → base ≤ g ∧ g < w.heap.size := World.ownsRow.lt h
/-- A number put into its place. -/
theorem IOwn.put {w : World} {base g n cap : Nat} {zs : List Int} (h : IOwn w base (.slice (some ⟨g, 0, none⟩) n cap) zs) (i : Nat) (z : Int) :
    IOwn (w.setCell ⟨g, i, none⟩ (.int .i64 z)) base (.slice (some ⟨g, 0, none⟩) n cap) (zs.set i z) ∧ w.grownBy (w.setCell ⟨g, i, none⟩ (.int .i64 z)) (some g) := by
  have hn := h.len
  unfold IOwn at h ⊢
  rw [hn] at h
  rw [List.length_set, hn, List.map_set]
  exact h.stored i (.int .i64 z)

theorem Tryd.info3 : (Tryd.prog.info? 3).map (fun i => (i.zero, i.size, i.bytes)) = some (some (.int .i64 0), 1, 8) := by kernel_rfl
/-- 'out = append(out, z)', out a row of ints of the call's own: a law for the walk. -/
theorem wpList_app_i64 {ops : Array Oper} {rest : List Oper} {o : Oper} {act : Act} {Q : Exit → Act → World → Prop} (hgd : o.guard = none) (s x : Operand)
    (ho : o.op = .call { callee := .builtin .append, args := #[s, x], argTypes := #[24, 24] }) {w : World} {base K : Nat} {v : Value} {xs : List Value} (z : Int) (hown : (w.alloc (.cells #[.int .i64 z] 3)).ownsRow base 3 1 v K xs) (hb : base ≤ w.heap.size)
    (hn : K ≤ 1000) (hs : act.eval s = v) (hx : act.eval x = .slice (some ⟨w.heap.size, 0, none⟩) 1 1)
    (h : ∀ v' w', w'.ownsRow base 3 1 v' (K + 1) (xs ++ [.int .i64 z]) → (w.alloc (.cells #[.int .i64 z] 3)).grownBy w' v.ownBlock → wpList Tryd.prog ops Q rest (act.put o.dst v') w') :
    wpList Tryd.prog ops Q (o :: rest) act (w.alloc (.cells #[.int .i64 z] 3)) := by
  obtain ⟨i0, hi, hz0, hz1, hz2⟩ := info_parts Tryd.info3
  refine wpList_append_own (P := Tryd.prog) (w.alloc (.cells #[.int .i64 z] 3)) hgd s x 24 ho base 3 i0 _ 1 8 Tryd.underlying24 hi hz0 hz1 hz2 rfl (by decide) v K _ hs hown ⟨w.heap.size, 0, none⟩ 1 1 [.int .i64 z] hx rfl (fun j u h => ?_) (fun u hu => by simp at hu; subst hu; rfl) (by unfold maxLen; omega) (by omega) (by simp; omega) ?_
  · rw [addr_add, Nat.zero_add, cell_of_row _ _ _ _ _ _ (heap_alloc_new w _)]
    simpa using h
  · intro v' w' ho' hg _
    exact h v' w' ho' hg
theorem takeI_set_succ (gs fs : List Int) (k : Nat) (hk : k < fs.length) (hg : k < gs.length) (h : gs.take k = fs.take k) : (gs.set k (fs[k])).take (k + 1) = fs.take (k + 1) := by
  rw [List.take_succ_eq_append_getElem (by rw [List.length_set]; exact hg), List.take_succ_eq_append_getElem hk, List.take_set_of_le (Nat.le_refl _), h]
  simp

set_option maxRecDepth 100000 in
set_option maxHeartbeats 1000000 in
theorem eqIntS_same (w : World) (a b : Option Addr) (n cap cap' : Nat) (zs : List Int) (ha : IRow w 0 a n zs) (hb : IRow w 0 b n zs) (hn : n ≤ 1099511627776) :
    Calls Tryd.prog 8 #[.slice a n cap, .slice b n cap'] w fun e w' => e = .returned (.bool true) ∧ Below w.heap.size w w' := by
  have hfn := ha.len
  have HA := hide ha
  have HG := hide hb
  clear ha hb
  go_enter Tryd.func8, Tryd.ntmps8
  go_wp2
  go_loopw [5] (fun i wr => ∃ k : Nat, k ≤ n ∧ i = .int .i64 k ∧ Hid (Below w.heap.size w wr)) (fun i _ => n - (intOf i).toNat)
  case atStart => exact ⟨0, by omega, rfl, hide (Below.refl _ _)⟩
  case round =>
    obtain ⟨k, hk, rfl, HB⟩ := hrel
    by_cases hlt : k < n
    · have h1 : k < zs.length := by omega
      obtain ⟨b1, o1, rfl, -, hb1, e1⟩ := (HA.out.later HB.out (Nat.le_refl _)).cells k h1
      obtain ⟨b2, o2, rfl, -, hb2, e2⟩ := (HG.out.later HB.out (Nat.le_refl _)).cells k h1
      go_wp2
      go_region
      go_wp2
      go_roundw
      case rel => exact ⟨k + 1, by omega, by go_num, hide HB.out.drew⟩
      case measure => first | (simp [intOf]; done) | (simp [intOf]; omega)
    · obtain rfl : k = n := by omega
      go_wp2
      go_ret
      exact ⟨rfl, HB.out⟩

end Go.Proofs.YtphbinkkgmlnmaaDoor
namespace Go.Proofs.YtphbinkkgmlnmaaDoor
open Go.RowKit
open Plain

/-- 'out = append(out, z)': the row behind it, and what has turned. -/
theorem wpList_app_int {ops : Array Oper} {rest : List Oper} {o : Oper} {act : Act} {Q : Exit → Act → World → Prop} (hgd : o.guard = none) (s x : Operand)
    (ho : o.op = .call { callee := .builtin .append, args := #[s, x], argTypes := #[24, 24] }) {w : World} {base : Nat} {v : Value} {xs : List Int} (z : Int) (hown : IOwn w base v xs) (hb : base ≤ w.heap.size) (hn : xs.length ≤ 1099511627775)
    {Wp : World} (hWp : Wp = w.alloc (.cells #[.int .i64 z] 3)) (hs : act.eval s = v) (hx : act.eval x = .slice (some ⟨w.heap.size, 0, none⟩) 1 1)
    (h : ∀ a' n' cap' w', n' = xs.length + 1 → IOwn w' base (.slice a' n' cap') (xs ++ [z]) → w.grownBy w' v.ownBlock → wpList Tryd.prog ops Q rest (act.put o.dst (.slice a' n' cap')) w') :
    wpList Tryd.prog ops Q (o :: rest) act Wp := by
  subst hWp
  obtain ⟨i0, hi, hz0, hz1, hz2⟩ := info_parts Tryd.info3
  have hA : Below w.heap.size w (w.alloc (.cells #[.int .i64 z] 3)) := (Below.refl _ _).alloc (Nat.le_refl _) _
  have hgA : w.grownBy (w.alloc (.cells #[.int .i64 z] 3)) v.ownBlock := ⟨hA.os, hA.tape, hA.output, hA.size, fun k hk _ => hA.block k hk⟩
  have ho1 : (w.alloc (.cells #[.int .i64 z] 3)).ownsRow base 3 1 v xs.length (xs.map (Value.int .i64)) := IOwn.later hown hA (Nat.le_refl _)
  refine wpList_append_own (P := Tryd.prog) (w.alloc (.cells #[.int .i64 z] 3)) hgd s x 24 ho base 3 i0 _ 1 8 Tryd.underlying24 hi hz0 hz1 hz2 rfl (by decide) v xs.length _ hs ho1 ⟨w.heap.size, 0, none⟩ 1 1 [.int .i64 z] hx rfl (fun j u h => ?_) (fun u hu => by simp at hu; subst hu; rfl) (by unfold maxLen; omega) (by omega) (Nat.le_trans hb hA.size) ?_
  · rw [addr_add, Nat.zero_add, cell_of_row _ _ _ _ _ _ (heap_alloc_new w _)]
    simpa using h
  · intro v' w' ho' hg _
    have hval : ∃ a' cap', v' = .slice a' (xs.length + 1) cap' := by
      rcases ho'.2 with ⟨e, h0⟩ | ⟨g, cap, cur, e, _⟩
      · exact ⟨none, 0, by rw [e, h0]⟩
      · exact ⟨_, _, e⟩
    obtain ⟨a', cap', rfl⟩ := hval
    refine h a' _ cap' w' rfl ?_ ⟨hg.os.trans hgA.os, hg.tape.trans hgA.tape, hg.output.trans hgA.output, Nat.le_trans hgA.size hg.size, fun i hi hr => (hg.block i (Nat.lt_of_lt_of_le hi hgA.size) hr).trans (hgA.block i hi hr)⟩
    unfold IOwn
    rw [List.length_append, List.map_append]
    exact ho'
theorem IOwn.nil (w : World) (base : Nat) : IOwn w base (.slice none 0 0) [] := ⟨rfl, .inl ⟨rfl, rfl⟩⟩
theorem IOwn.empty (w : World) : IOwn (w.alloc (.cells #[] 3)) w.heap.size (.slice (some ⟨w.heap.size, 0, none⟩) 0 0) [] :=
  ⟨rfl, .inr ⟨w.heap.size, 0, #[], rfl, Nat.le_refl _, heap_alloc_new w _, Nat.le_refl _, by unfold maxLen; omega, by simp, by simp⟩⟩

end Go.Proofs.YtphbinkkgmlnmaaDoor
namespace Go.Proofs.YtphbinkkgmlnmaaDoor
open Go.RowKit
open Plain

theorem sealF_no {l : List PlaceV} {k : Nat} (h : k < l.length) (hn : ¬ ((l[k]).r.kind = 3 ∧ fitsP (l[k]).r (ofB (l.take k) (l[k]).r.batch) = true)) : sealF (l.take (k + 1)) = sealF (l.take k) := by rw [sealF_succ l k h, if_neg hn]
theorem sealF_yes {l : List PlaceV} {k : Nat} (h : k < l.length) (h3 : (l[k]).r.kind = 3) (hf : fitsP (l[k]).r (ofB (l.take k) (l[k]).r.batch) = true) : sealF (l.take (k + 1)) = sealF (l.take k) ++ [(l[k]).r.batch] := by rw [sealF_succ l k h, if_pos ⟨h3, hf⟩]
theorem sealF_len (l : List PlaceV) : ∀ k, (sealF (l.take k)).length ≤ k := by
  intro k
  induction k with
  | zero => exact Nat.le_refl _
  | succ k ih =>
    by_cases h : k < l.length
    · rw [sealF_succ l k h]
      split
      · rw [List.length_append, List.length_singleton]; omega
      · omega
    · rw [List.take_of_length_le (by omega)]
      rw [List.take_of_length_le (by omega)] at ih
      omega

end Go.Proofs.YtphbinkkgmlnmaaDoor
