/-
  What spec.HintOf keeps while it goes through a segment's records.
-/
import Derived.Test.YtimpokbcfjgdaaaGreatDoorHMHofI
import Derived.Test.YtimpokbcfjgdaaaGreatDoorHMEntStep
import Derived.Test.YtimpokbcfjgdaaaGreatDoorHG19
namespace Go.Proofs.YtimpokbcfjgdaaaGreatDoor
open Go.RowKit
open Plain

/-- All blocks but those of one type stand. -/
def KeepTy (T2 : TypeId) (w w' : World) : Prop := ∀ (k : Nat) (cs : Array Value) (T : TypeId) (fr : Nat × Nat), T ≠ T2 → w.heap[k]? = some (.cells cs T fr) → w'.heap[k]? = some (.cells cs T fr)
theorem keep_of_grown {α : Type} {S : Shape α} {T2 : TypeId} {w w' : World} {base : Nat} {v : Value} {xs : List α} (ho : S.Own T2 w base v xs) (hg : w.grownBy w' v.ownBlock) : KeepTy T2 w w' := fun k cs T fr hT h => by
  refine (hg.block k (Array.getElem?_eq_some_iff.1 h).1 (fun e => ?_)).trans h
  rcases ho.2 with ⟨h1, _⟩ | ⟨g, c, cur, e1, hbg, hg1, h2⟩
  · rw [h1] at e; cases e
  · rw [e1] at e
    obtain rfl : k = g := Option.some.inj e
    rw [hg1] at h
    injection h with h
    injection h with h3 h4 h5
    exact hT h4.symm
theorem own_keepTy {α : Type} {S : Shape α} {T T2 : TypeId} {w w' : World} {base : Nat} {v : Value} {xs : List α} (h : S.Own T w base v xs) (hk : KeepTy T2 w w') (hT : T ≠ T2) : S.Own T w' base v xs := by
  refine ⟨h.1, ?_⟩
  rcases h.2 with h1 | ⟨g, c, cur, e1, hbg, hg1, h2⟩
  · exact .inl h1
  · exact .inr ⟨g, c, cur, e1, hbg, hk g _ _ _ hT hg1, h2⟩
/-- 'out = append(out, r)' at a row of records: the row behind it, and that no other block has turned. -/
theorem wpList_app_recG {ops : Array Oper} {rest : List Oper} {o : Oper} {act : Act} {Q : Exit → Act → World → Prop} (hgd : o.guard = none) (s x : Operand)
    (ho : o.op = .call { callee := .builtin .append, args := #[s, x], argTypes := #[97, 97] }) {w : World} {base : Nat} {v : Value} {xs : List RecV} (r : RecV) (hown : recSh.Own 41 w base v xs) (hb : base ≤ w.heap.size) (hn : xs.length ≤ 1099511627775)
    {N : Nat} (hs : act.eval s = v) (hx : act.eval x = .slice (some ⟨N, 0, none⟩) 1 1) (hN : w.heap.size = N)
    (h : ∀ a' n' cap' w', n' = xs.length + 1 → recSh.Own 41 w' base (.slice a' n' cap') (xs ++ [r]) → w.grownBy w' v.ownBlock → wpList Tryz.prog ops Q rest (act.put o.dst (.slice a' n' cap')) w') :
    wpList Tryz.prog ops Q (o :: rest) act (w.alloc (.cells #[.int .i64 r.kind, .int .i64 r.batch, .string r.key, .string r.val, .int .i64 r.cnt, .int .i64 r.sum] 41)) := by
  subst hN
  obtain ⟨i0, hi, hz0, hz1, hz2⟩ := info_parts Tryz.infoRec
  have hA : Below w.heap.size w (w.alloc (.cells (recSh.cells r).toArray 41)) := (Below.refl _ _).alloc (Nat.le_refl _) _
  have hgA : w.grownBy (w.alloc (.cells (recSh.cells r).toArray 41)) v.ownBlock := ⟨hA.os, hA.tape, hA.output, hA.size, fun k hk _ => hA.block k hk⟩
  refine recSh.wpList_app (P := Tryz.prog) hgd s x 97 41 ho Tryz.underlying97 hi hz0 hz1 hz2 rfl (by decide) (hown.later hA (Nat.le_refl _)) (Nat.le_trans hb hA.size) (Shape.Row.single recSh 41 w r) (by omega) hs hx ?_
  intro a' n' cap' w' hn' ho' hg
  exact h a' n' cap' w' hn' ho' (gchain hgA hg)

/-- The answer's block; a hint under way in block V; the spots; entries and records in rows behind. -/
structure SHAt (w : World) (V : Nat) (sa : Option Addr) (sc : Nat) (L : List SpotV) (x mk : Int) (a : Option Addr) (n cap : Nat) (es : List EntV) (rv : Value) (rs : List RecV) (W : World) : Prop where
  res : W.heap[w.heap.size]? = some (.cells #[.int .i64 0, .int .i64 0, .slice none 0 0] 26 (0, 0))
  row : W.heap[V]? = some (.cells #[.int .i64 x, .int .i64 mk, .slice a n cap] 26 (0, 0))
  spots : spotSh.Own 43 W (w.heap.size + 1) (.slice sa L.length sc) L
  own : entSh.Own 71 W (w.heap.size + 1) (.slice a n cap) es
  recs : recSh.Own 41 W (w.heap.size + 1) rv rs
  lt : w.heap.size < V
  bel : Below w.heap.size w W
theorem SHAt.later {w : World} {V : Nat} {sa : Option Addr} {sc : Nat} {L : List SpotV} {x mk : Int} {a : Option Addr} {n cap : Nat} {es : List EntV} {rv : Value} {rs : List RecV} {W W' : World} (h : SHAt w V sa sc L x mk a n cap es rv rs W) (hb : Below W.heap.size W W') : SHAt w V sa sc L x mk a n cap es rv rs W' :=
  ⟨(hb.block _ (lt_of_block h.res)).trans h.res, (hb.block _ (lt_of_block h.row)).trans h.row, h.spots.later hb (Nat.le_refl _), h.own.later hb (Nat.le_refl _), h.recs.later hb (Nat.le_refl _), h.lt, h.bel.trans (hb.mono h.bel.size)⟩
/-- A record is put behind. -/
theorem SHAt.addR {w : World} {V : Nat} {sa : Option Addr} {sc : Nat} {L : List SpotV} {x mk : Int} {a : Option Addr} {n cap : Nat} {es : List EntV} {rv rv' : Value} {rs rs' : List RecV} {W W' : World} (h : SHAt w V sa sc L x mk a n cap es rv rs W) (hg : W.grownBy W' rv.ownBlock) (ho : recSh.Own 41 W' (w.heap.size + 1) rv' rs') : SHAt w V sa sc L x mk a n cap es rv' rs' W' := by
  have hk := keep_of_grown h.recs hg
  exact ⟨hk _ _ _ _ (by decide) h.res, hk _ _ _ _ (by decide) h.row, own_keepTy h.spots hk (by decide), own_keepTy h.own hk (by decide), ho, h.lt, h.bel.grown hg h.bel.size (fun g e => by have := (h.recs.blk g e).1; omega)⟩
/-- An entry is put behind. -/
theorem SHAt.addE {w : World} {V : Nat} {sa : Option Addr} {sc : Nat} {L : List SpotV} {x mk : Int} {a a' : Option Addr} {n n' cap cap' : Nat} {es es' : List EntV} {rv : Value} {rs : List RecV} {W W' : World} (h : SHAt w V sa sc L x mk a n cap es rv rs W) (hg : W.grownBy W' (Value.slice a n cap).ownBlock) (ho : entSh.Own 71 W' (w.heap.size + 1) (.slice a' n' cap') es') :
    W'.heap[V]? = some (.cells #[.int .i64 x, .int .i64 mk, .slice a n cap] 26 (0, 0)) ∧ SHAt w V sa sc L x mk a' n' cap' es' rv rs (W'.setCell ⟨V, 2, none⟩ (.slice a' n' cap')) := by
  have hk := keep_of_grown h.own hg
  have hl := h.lt
  have r2 := hk _ _ _ _ (by decide) h.row
  have hne : ∀ {α : Type} {S : Shape α} {T : TypeId} {base : Nat} {v : Value} {xs : List α}, S.Own T W' base v xs → T ≠ 26 → v.ownBlock ≠ some V := by
    intro α S T base v xs h hT e
    rcases h.2 with ⟨h1, _⟩ | ⟨g, c, cur, e1, _, hg1, _⟩
    · rw [h1] at e; cases e
    · rw [e1] at e
      obtain rfl : g = V := Option.some.inj e
      rw [r2] at hg1
      injection hg1 with q
      injection q with q1 q2
      exact hT q2.symm
  have k1 := own_keepTy h.spots hk (by decide)
  have k2 := own_keepTy h.recs hk (by decide)
  refine ⟨r2, ?_, ?_, k1.setNe _ _ (hne k1 (by decide)), ho.setNe _ _ (hne ho (by decide)), k2.setNe _ _ (hne k2 (by decide)), hl, ?_⟩
  · rw [Below.heap_setCell W' _ _ _ (by dsimp only; omega)]
    exact hk _ _ _ _ (by decide) h.res
  · rw [setCell_eq_setRow W' V 2 _ _ _ _ r2]
    exact setRow_heap W' V _ _ _ _ r2
  · exact (h.bel.grown hg h.bel.size (fun g e => by have := (h.own.blk g e).1; omega)).setCell (by dsimp only; omega) _
theorem kle_no {a b : ByteArray} (h : klt b a = true) : (Op.bytesLess a.toList b.toList || a.toList == b.toList) = false := by
  have h1 : Op.bytesLess a.toList b.toList = false := klt_asymm h
  have h2 := str_ne a b (fun e => klt_ne h e.symm)
  rw [h1, h2]
  rfl
theorem kle_yes {a b : ByteArray} (h : klt b a = false) : (Op.bytesLess a.toList b.toList || a.toList == b.toList) = true := by
  by_cases e : a = b
  · rw [str_eq a b e, Bool.or_true]
  · have h1 : Op.bytesLess a.toList b.toList = true := klt_other h e
    rw [h1, Bool.true_or]
theorem map_take_succ {α β : Type} (f : α → β) (l : List α) (k : Nat) (h : k < l.length) : (l.take (k + 1)).map f = (l.take k).map f ++ [f (l[k])] := by
  rw [List.take_succ_eq_append_getElem h, List.map_append]
  rfl

end Go.Proofs.YtimpokbcfjgdaaaGreatDoor
