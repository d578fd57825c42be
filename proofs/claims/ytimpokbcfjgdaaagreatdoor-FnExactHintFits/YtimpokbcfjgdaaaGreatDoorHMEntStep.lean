/-
  append at a row of entries of the call's own, as one step of a statement whose order is open.
-/
import Derived.Test.YtimpokbcfjgdaaaGreatDoorHG04
import Derived.Maps.AppendAt
namespace Go.Proofs.YtimpokbcfjgdaaaGreatDoor
open Go.RowKit
open Plain

/-- 'out = append(out, p)', out a row of entries of the call's own, as one step of a statement whose order is open. -/
theorem step_app_ent {ops : Array Oper} {o : Oper} {act : Act} {K : Act → World → Prop} {Q : Exit → Act → World → Prop} {E : Prop} (hgd : o.guard = none) (s x : Operand)
    (ho : o.op = .call { callee := .builtin .append, args := #[s, x], argTypes := #[24, 24] }) {w : World} {base : Nat} {v : Value} {xs : List EntV} (p : EntV) (hown : entSh.Own 71 w base v xs) (hb : base ≤ w.heap.size) (hn : xs.length ≤ 1099511627775)
    {Wp : World} (hWp : Wp = w.alloc (.cells #[.string p.key, .int .i64 p.seg, .int .i64 p.pos, .int .i64 p.len, .int .i64 p.bat] 71)) (hs : act.eval s = v) (hx : act.eval x = .slice (some ⟨w.heap.size, 0, none⟩) 1 1)
    (h : ∀ a' n' cap' w', n' = xs.length + 1 → entSh.Own 71 w' base (.slice a' n' cap') (xs ++ [p]) → w.grownBy w' v.ownBlock → ((Value.slice a' n' cap').ownBlock = v.ownBlock ∨ ∃ g, (Value.slice a' n' cap').ownBlock = some g ∧ w.heap.size ≤ g) → K (act.put o.dst (.slice a' n' cap')) w') :
    if Region.wanted o (yielded ops act.tmps) = true then Oper.wp Tryz.prog o act Wp K Q else E := by
  subst hWp
  rw [if_pos (by simp [Region.wanted, hgd])]
  obtain ⟨i0, hi, hz0, hz1, hz2⟩ := info_parts Tryz.infoEnt
  have hA : Below w.heap.size w (w.alloc (.cells (entSh.cells p).toArray 71)) := (Below.refl _ _).alloc (Nat.le_refl _) _
  have hgA : w.grownBy (w.alloc (.cells (entSh.cells p).toArray 71)) v.ownBlock := ⟨hA.os, hA.tape, hA.output, hA.size, fun k hk _ => hA.block k hk⟩
  have ho1 : (w.alloc (.cells (entSh.cells p).toArray 71)).ownsRow base 71 5 v xs.length (entSh.flat xs) := hown.later hA (Nat.le_refl _)
  have hmul : (xs.length + 1) * 48 ≤ 140737488355328 := by omega
  obtain ⟨v', w', hrun, ho', hg, -, hat⟩ := run_append_own_at (P := Tryz.prog) (w.alloc (.cells (entSh.cells p).toArray 71)) base 24 o.type 71 i0 _ 5 48 Tryz.underlying24 hi hz0 hz1 hz2 rfl (by decide) v xs.length (entSh.flat xs) ho1 ⟨w.heap.size, 0, none⟩ 1 1 (entSh.flat [p]) rfl (Shape.Row.single entSh 71 w p).src (entSh.flat_one [p]) (by unfold maxLen; omega) hmul (Nat.le_trans hb hA.size)
  have hval : ∃ a' cap', v' = .slice a' (xs.length + 1) cap' := by
    rcases ho'.2 with ⟨e, h0⟩ | ⟨g, cap, cur, e, _⟩
    · exact ⟨none, 0, by rw [e, h0]⟩
    · exact ⟨_, _, e⟩
  obtain ⟨a', cap', rfl⟩ := hval
  have hrun' : (Builtin.append_ #[24, 24] o.type #[v, .slice (some ⟨w.heap.size, 0, none⟩) 1 1]).run Tryz.prog (w.alloc (.cells #[.string p.key, .int .i64 p.seg, .int .i64 p.pos, .int .i64 p.len, .int .i64 p.bat] 71)) = .ok (.slice a' (xs.length + 1) cap') w' := hrun
  unfold Oper.wp
  simp [execOp, ho, resolve, invoke, builtin, hs, hx, hrun', Result.andThen]
  refine h a' _ cap' w' rfl ?_ (gchain hgA hg) (hat.imp id (fun e => ⟨_, e, hA.size⟩))
  unfold Shape.Own
  rw [List.length_append, entSh.flat_append]
  exact ho'

end Go.Proofs.YtimpokbcfjgdaaaGreatDoor
