/-
  (*waiting).take: a record waits, or a seal or a mark is told what it has for its own.
-/
import Derived.Test.YtimpokbcfjgdaaaGreatDoorHG33
import Derived.Deep.RegionHeld3
namespace Go.Proofs.YtimpokbcfjgdaaaGreatDoor
open Go.RowKit Go.Maps
open Plain

/-- 'out = append(out, p)', out a row of places of the call's own, as one step of a statement whose order is open. -/
theorem step_app_pl {ops : Array Oper} {o : Oper} {act : Act} {K : Act → World → Prop} {Q : Exit → Act → World → Prop} {E : Prop} (hgd : o.guard = none) (s x : Operand)
    (ho : o.op = .call { callee := .builtin .append, args := #[s, x], argTypes := #[36, 36] }) {w : World} {base : Nat} {v : Value} {xs : List PlaceV} (p : PlaceV) (hown : plSh.Own 45 w base v xs) (hb : base ≤ w.heap.size) (hn : xs.length ≤ 1099511627775)
    {Wp : World} (hWp : Wp = w.alloc (.cells #[.int .i64 p.seg, .int .i64 p.pos, .int .i64 p.len, .int .i64 p.r.kind, .int .i64 p.r.batch, .string p.r.key, .string p.r.val, .int .i64 p.r.cnt, .int .i64 p.r.sum] 45)) (hs : act.eval s = v) (hx : act.eval x = .slice (some ⟨w.heap.size, 0, none⟩) 1 1)
    (h : ∀ a' n' cap' w', n' = xs.length + 1 → plSh.Own 45 w' base (.slice a' n' cap') (xs ++ [p]) → w.grownBy w' v.ownBlock → ((Value.slice a' n' cap').ownBlock = v.ownBlock ∨ ∃ g, (Value.slice a' n' cap').ownBlock = some g ∧ w.heap.size ≤ g) → K (act.put o.dst (.slice a' n' cap')) w') :
    if Region.wanted o (yielded ops act.tmps) = true then Oper.wp Tryz.prog o act Wp K Q else E := by
  subst hWp
  rw [if_pos (by simp [Region.wanted, hgd])]
  obtain ⟨i0, hi, hz0, hz1, hz2⟩ := info_parts Tryz.infoPlace
  have hA : Below w.heap.size w (w.alloc (.cells (plSh.cells p).toArray 45)) := (Below.refl _ _).alloc (Nat.le_refl _) _
  have hgA : w.grownBy (w.alloc (.cells (plSh.cells p).toArray 45)) v.ownBlock := ⟨hA.os, hA.tape, hA.output, hA.size, fun k hk _ => hA.block k hk⟩
  have ho1 : (w.alloc (.cells (plSh.cells p).toArray 45)).ownsRow base 45 9 v xs.length (plSh.flat xs) := hown.later hA (Nat.le_refl _)
  have hmul : (xs.length + 1) * 88 ≤ 140737488355328 := by omega
  obtain ⟨v', w', hrun, ho', hg, -, hat⟩ := run_append_own_at (P := Tryz.prog) (w.alloc (.cells (plSh.cells p).toArray 45)) base 36 o.type 45 i0 _ 9 88 Tryz.underlying36 hi hz0 hz1 hz2 rfl (by decide) v xs.length (plSh.flat xs) ho1 ⟨w.heap.size, 0, none⟩ 1 1 (plSh.flat [p]) rfl (Shape.Row.single plSh 45 w p).src (plSh.flat_one [p]) (by unfold maxLen; omega) hmul (Nat.le_trans hb hA.size)
  have hval : ∃ a' cap', v' = .slice a' (xs.length + 1) cap' := by
    rcases ho'.2 with ⟨e, h0⟩ | ⟨g, cap, cur, e, _⟩
    · exact ⟨none, 0, by rw [e, h0]⟩
    · exact ⟨_, _, e⟩
  obtain ⟨a', cap', rfl⟩ := hval
  have hrun' : (Builtin.append_ #[36, 36] o.type #[v, .slice (some ⟨w.heap.size, 0, none⟩) 1 1]).run Tryz.prog (w.alloc (.cells #[.int .i64 p.seg, .int .i64 p.pos, .int .i64 p.len, .int .i64 p.r.kind, .int .i64 p.r.batch, .string p.r.key, .string p.r.val, .int .i64 p.r.cnt, .int .i64 p.r.sum] 45)) = .ok (.slice a' (xs.length + 1) cap') w' := hrun
  unfold Oper.wp
  simp [execOp, ho, resolve, invoke, builtin, hs, hx, hrun', Result.andThen]
  refine h a' _ cap' w' rfl ?_ (gchain hgA hg) (hat.imp id (fun e => ⟨_, e, hA.size⟩))
  unfold Shape.Own
  rw [List.length_append, plSh.flat_append]
  exact ho'

/-- What take answers. -/
def takeP (pre : List PlaceV) (p : PlaceV) : List PlaceV := if p.r.kind = 3 then ofB pre p.r.batch else if p.r.kind = 5 then keptP pre else []
def takeB (pre : List PlaceV) (p : PlaceV) : Bool := if p.r.kind = 3 then fitsP p.r (ofB pre p.r.batch) else if p.r.kind = 5 then fitsP p.r (keptP pre) else false
def TakePost (w : World) (base B L : Nat) (pre : List PlaceV) (p : PlaceV) (e : Ending) (w' : World) : Prop := (∃ a cap, e = .returned (.tuple #[.slice a (takeP pre p).length cap, .bool (takeB pre p)]) ∧ plSh.Own 45 w' base (.slice a (takeP pre p).length cap) (takeP pre p)) ∧ WSx w' base B (pre ++ [p]) ∧ KeepT base L w w'
theorem takeP_no {pre : List PlaceV} {p : PlaceV} (h3 : ¬ p.r.kind = 3) (h5 : ¬ p.r.kind = 5) : takeP pre p = [] := by unfold takeP; rw [if_neg h3, if_neg h5]
theorem takeB_no {pre : List PlaceV} {p : PlaceV} (h3 : ¬ p.r.kind = 3) (h5 : ¬ p.r.kind = 5) : takeB pre p = false := by unfold takeB; rw [if_neg h3, if_neg h5]
/-- Nothing is told: the nil row. -/
theorem take_none {w w' : World} {base B L : Nat} {pre : List PlaceV} {p : PlaceV} (h3 : ¬ p.r.kind = 3) (h5 : ¬ p.r.kind = 5) (hs : WSx w' base B (pre ++ [p])) (hk : KeepT base L w w') : TakePost w base B L pre p (.returned (.tuple #[.slice none 0 0, .bool false])) w' :=
  ⟨⟨none, 0, by rw [takeP_no h3 h5, takeB_no h3 h5]; rfl, by rw [takeP_no h3 h5]; exact Shape.Own.nil plSh 45 w' base⟩, hs, hk⟩

/-- The blocks of take's own: the place, its record. -/
structure TB (w W' : World) (p : PlaceV) : Prop where
  pl : W'.heap[w.heap.size]? = some (.cells #[.int .i64 p.seg, .int .i64 p.pos, .int .i64 p.len, .int .i64 p.r.kind, .int .i64 p.r.batch, .string p.r.key, .string p.r.val, .int .i64 p.r.cnt, .int .i64 p.r.sum] 45 (0, 0))
  rc : W'.heap[w.heap.size + 1]? = some (.cells #[.int .i64 p.r.kind, .int .i64 p.r.batch, .string p.r.key, .string p.r.val, .int .i64 p.r.cnt, .int .i64 p.r.sum] 41 (0, 0))
theorem cells6 {w : World} {B : Nat} {x0 x1 x2 x3 x4 x5 : Value} {ty : TypeId} (h : w.heap[B]? = some (.cells #[x0, x1, x2, x3, x4, x5] ty (0, 0))) :
    w.cell? ⟨B, 0, none⟩ = some x0 ∧ w.cell? ⟨B, 1, none⟩ = some x1 ∧ w.cell? ⟨B, 2, none⟩ = some x2 ∧ w.cell? ⟨B, 3, none⟩ = some x3 ∧ w.cell? ⟨B, 4, none⟩ = some x4 ∧ w.cell? ⟨B, 5, none⟩ = some x5 := by
  refine ⟨?_, ?_, ?_, ?_, ?_, ?_⟩ <;> rw [cell_of_row w B _ _ _ _ h] <;> rfl
theorem cellsB {w : World} {B : Nat} {x y : Value} {ty : TypeId} (h : w.heap[B]? = some (.cells #[x, y] ty (0, 0))) :
    w.cell? ⟨B, 0, none⟩ = some x ∧ w.cell? ⟨B, 1, none⟩ = some y ∧ w.frozen? ⟨B, 0, none⟩ = false ∧ w.frozen? ⟨B, 1, none⟩ = false := by
  have hf : ∀ j, w.frozen? ⟨B, j, none⟩ = false := fun j => by simp [World.frozen?, h]
  refine ⟨?_, ?_, hf 0, hf 1⟩ <;> rw [cell_of_row w B _ _ _ _ h] <;> rfl
theorem TB.new (w : World) (p : PlaceV) : TB w ((w.alloc (.cells #[.int .i64 p.seg, .int .i64 p.pos, .int .i64 p.len, .int .i64 p.r.kind, .int .i64 p.r.batch, .string p.r.key, .string p.r.val, .int .i64 p.r.cnt, .int .i64 p.r.sum] 45)).alloc (.cells #[.int .i64 p.r.kind, .int .i64 p.r.batch, .string p.r.key, .string p.r.val, .int .i64 p.r.cnt, .int .i64 p.r.sum] 41)) p := by
  constructor
  · rw [Below.heap_alloc _ _ _ (by simp)]
    exact heap_alloc_new w _
  · have h := heap_alloc_new (w.alloc (.cells #[.int .i64 p.seg, .int .i64 p.pos, .int .i64 p.len, .int .i64 p.r.kind, .int .i64 p.r.batch, .string p.r.key, .string p.r.val, .int .i64 p.r.cnt, .int .i64 p.r.sum] 45)) (.cells #[.int .i64 p.r.kind, .int .i64 p.r.batch, .string p.r.key, .string p.r.val, .int .i64 p.r.cnt, .int .i64 p.r.sum] 41)
    rw [World.size_alloc] at h
    exact h
theorem TB.lt {w W' : World} {p : PlaceV} (h : TB w W' p) : w.heap.size + 1 < W'.heap.size := (Array.getElem?_eq_some_iff.1 h.rc).1
theorem TB.later {w W' W2 : World} {p : PlaceV} (h : TB w W' p) (hb : Below W'.heap.size W' W2) : TB w W2 p := by
  have := h.lt
  exact ⟨(hb.block _ (by omega)).trans h.pl, (hb.block _ this).trans h.rc⟩
theorem TB.grown {w W' W2 : World} {p : PlaceV} {row : Option Nat} (h : TB w W' p) (hg : W'.grownBy W2 row) (hr : ∀ r, row = some r → r < w.heap.size ∨ W'.heap.size ≤ r) : TB w W2 p := by
  have h1 := h.lt
  refine ⟨(hg.block _ (by omega) (fun e => ?_)).trans h.pl, (hg.block _ h1 (fun e => ?_)).trans h.rc⟩
  · rcases hr _ e.symm with q | q <;> omega
  · rcases hr _ e.symm with q | q <;> omega

/-- What a put or a drop finds in a world. -/
def TS (w : World) (B M : Nat) (p : PlaceV) (W' : World) : Prop := W'.cell? ⟨B, 0, none⟩ = some (.map (some M)) ∧ W'.cell? ⟨w.heap.size + 1, 1, none⟩ = some (.int .i64 p.r.batch) ∧ W'.cell? ⟨w.heap.size, 0, none⟩ = some (.int .i64 p.seg) ∧ W'.cell? ⟨w.heap.size, 1, none⟩ = some (.int .i64 p.pos) ∧ W'.cell? ⟨w.heap.size, 2, none⟩ = some (.int .i64 p.len) ∧ W'.cell? ⟨w.heap.size, 3, none⟩ = some (.int .i64 p.r.kind) ∧ W'.cell? ⟨w.heap.size, 4, none⟩ = some (.int .i64 p.r.batch) ∧ W'.cell? ⟨w.heap.size, 5, none⟩ = some (.string p.r.key) ∧ W'.cell? ⟨w.heap.size, 6, none⟩ = some (.string p.r.val) ∧ W'.cell? ⟨w.heap.size, 7, none⟩ = some (.int .i64 p.r.cnt) ∧ W'.cell? ⟨w.heap.size, 8, none⟩ = some (.int .i64 p.r.sum)
theorem TS.of {w W' : World} {B M : Nat} {kv : Value} {p : PlaceV} (h : TB w W' p) (hb : W'.heap[B]? = some (.cells #[.map (some M), kv] 132 (0, 0))) : TS w B M p W' := by
  obtain ⟨y0, y1, y2, y3, y4, y5, y6, y7, y8⟩ := cells9 h.pl
  exact ⟨(cellsB hb).1, (cells6 h.rc).2.1, y0, y1, y2, y3, y4, y5, y6, y7, y8⟩
/-- The append and the store of a put or a drop. -/
theorem put_steps {w W W1 : World} {base B M n L : Nat} {kv : Value} {f : Int → Value} {D : DataW Unit} {pre : List PlaceV} {p : PlaceV} {a' : Option Addr} {n' cap' : Nat} (hS : WS W base B M kv f n D pre) (hT : TB w W p) (hbs : base ≤ w.heap.size) (hL : L ≤ w.heap.size) (hML : M < L) (hfr : ∀ g, (f p.r.batch).ownBlock = some g → g < L) (hbw : KeepT base L w W) (hk : p.r.kind = 1 ∨ p.r.kind = 2) (hwf : (Lit.int .i64 p.r.batch).wf = true) (hn : pre.length ≤ 1048576)
    (ho : plSh.Own 45 W1 base (.slice a' n' cap') (ofB pre p.r.batch ++ [p])) (hg : W.grownBy W1 (f p.r.batch).ownBlock) (hl : (Value.slice a' n' cap').ownBlock = (f p.r.batch).ownBlock ∨ ∃ g, (Value.slice a' n' cap').ownBlock = some g ∧ W.heap.size ≤ g) :
    TS w B M p W1 ∧ ∃ W2, (Instr.mapUpdate 130 (.map (some M)) (.int .i64 p.r.batch) (.slice a' n' cap')).run Tryz.prog W1 = .ok () W2 ∧ TS w B M p W2 ∧ TakePost w base B L pre p (.returned (.tuple #[.slice none 0 0, .bool false])) W2 := by
  have hoff := row_off hS.box hS.mheap (hS.own p.r.batch)
  have hbx1 : W1.heap[B]? = _ := (hg.block B hS.blt (fun e => hoff.1 e.symm)).trans hS.box
  have hT1 : TB w W1 p := hT.grown hg (fun r e => .inl (Nat.lt_of_lt_of_le (hfr r e) hL))
  have hm1 : W1.ownsMap Tryz.prog 3 rowElem M n D := hS.map.kept hg (fun e => hoff.2 e.symm)
  have hv : IsRow (.slice a' n' cap') := own_isRow ho
  obtain ⟨W2, hrun, hm2, hg2⟩ := hm1.update keyLawW Tryz.underlying130 (by have := hS.num; unfold maxLen; omega) (keyOf_int_mk Tryz.underlying3 hwf : keyOf Tryz.prog 3 (.int .i64 p.r.batch) = some (.int .i64 p.r.batch)) hv.elem
  have hMlt := hS.mlt
  have hTl := hT.lt
  have hMw : M ≠ w.heap.size ∧ M ≠ w.heap.size + 1 := by
    obtain ⟨es, clock, hmm⟩ := hS.mheap
    constructor
    · intro e
      have := hT.pl
      rw [← e, hmm] at this
      cases this
    · intro e
      have := hT.rc
      rw [← e, hmm] at this
      cases this
  have hl1 := hT1.lt
  have hT2 : TB w W2 p := ⟨(hg2.block _ (by omega) (fun e => by injection e with e; exact hMw.1 e.symm)).trans hT1.pl, (hg2.block _ hl1 (fun e => by injection e with e; exact hMw.2 e.symm)).trans hT1.rc⟩
  have hbx2 : W2.heap[B]? = _ := (hg2.block B (Array.getElem?_eq_some_iff.1 hbx1).1 (fun e => by injection e with e; exact hS.bm e)).trans hbx1
  have hS2 := hS.put hk hg ho hl hm2 hg2
  refine ⟨TS.of hT1 hbx1, W2, hrun, TS.of hT2 hbx2, take_none (by rcases hk with e | e <;> rw [e] <;> decide) (by rcases hk with e | e <;> rw [e] <;> decide) ⟨_, _, _, _, _, hS2⟩ ?_⟩
  have hWs : base ≤ W.heap.size := by omega
  have k1 : KeepT base L W W1 := KeepT.of_grown hg hWs (fun r e => ((hS.own p.r.batch).blk r e).1) hfr (fun r cs t fr e hh => .inl (by
    obtain ⟨cur, hc⟩ := own_heap (hS.own p.r.batch) e
    rw [hc] at hh
    cases hh
    rfl))
  have k2 : KeepT base L W1 W2 := KeepT.of_grown hg2 (Nat.le_trans hWs hg.size) (fun r e => by cases e; exact hS.hM) (fun r e => by cases e; exact hML) (fun r cs t fr e hh => by
    cases e
    obtain ⟨es, clock, hmm, _⟩ := hm1
    rw [hmm] at hh
    cases hh)
  exact hbw.trans (k1.trans k2)

set_option maxRecDepth 100000 in
set_option maxHeartbeats 4000000 in
theorem take_put (w : World) (base B : Nat) (pre : List PlaceV) (p : PlaceV) (w0 : World) (hb0 : Below w0.heap.size w0 w) (hW : WSx w0 base B pre) (hbs : base ≤ w.heap.size) (hwf : (Lit.int .i64 p.r.batch).wf = true) (hn : pre.length ≤ 1048576) (hk : p.r.kind = 1 ∨ p.r.kind = 2) :
    Calls Tryz.prog 86 #[.pointer (some ⟨B, 0, none⟩), .agg #[.int .i64 p.seg, .int .i64 p.pos, .int .i64 p.len, .int .i64 p.r.kind, .int .i64 p.r.batch, .string p.r.key, .string p.r.val, .int .i64 p.r.cnt, .int .i64 p.r.sum]] w fun e w' => TakePost w base B w0.heap.size pre p e w' := by
  obtain ⟨W, hWd⟩ : ∃ W, W = (w.alloc (.cells #[.int .i64 p.seg, .int .i64 p.pos, .int .i64 p.len, .int .i64 p.r.kind, .int .i64 p.r.batch, .string p.r.key, .string p.r.val, .int .i64 p.r.cnt, .int .i64 p.r.sum] 45)).alloc (.cells #[.int .i64 p.r.kind, .int .i64 p.r.batch, .string p.r.key, .string p.r.val, .int .i64 p.r.cnt, .int .i64 p.r.sum] 41) := ⟨_, rfl⟩
  have HB0 : Hid (Below w.heap.size w W) := hide (by rw [hWd]; exact al2 w _ _)
  have HT0 : Hid (TB w W p) := hide (by rw [hWd]; exact TB.new w p)
  obtain ⟨M, kv, f, n, D, hS0⟩ := hW
  have HFR : Hid (∀ g, (f p.r.batch).ownBlock = some g → g < w0.heap.size) := hide (fun g e => ((hS0.own p.r.batch).blk g e).2)
  have hML := hS0.mlt
  have HSW := hide ((hS0.later hb0).later HB0.out)
  have HS := hide (HSW.out.later (Below.refl W.heap.size W).drew)
  have HT1 := hide (HT0.out.later (Below.refl W.heap.size W).drew)
  obtain ⟨c0, c1, -⟩ := cellsB HSW.out.box
  obtain ⟨r0, r1, r2, r3, r4, r5⟩ := cells6 HT0.out.rc
  have S1 : TS w B M p W.drew := TS.of HT1.out HS.out.box
  have HBA := hide (al1 W.drew (.cells #[.int .i64 p.seg, .int .i64 p.pos, .int .i64 p.len, .int .i64 p.r.kind, .int .i64 p.r.batch, .string p.r.key, .string p.r.val, .int .i64 p.r.cnt, .int .i64 p.r.sum] 45))
  have S2 : TS w B M p (W.alloc (.cells #[.int .i64 p.seg, .int .i64 p.pos, .int .i64 p.len, .int .i64 p.r.kind, .int .i64 p.r.batch, .string p.r.key, .string p.r.val, .int .i64 p.r.cnt, .int .i64 p.r.sum] 45)).drew := TS.of (HT1.out.later HBA.out) ((HS.out.later HBA.out).box)
  have hlk : ∀ W', WS W' base B M kv f n D pre → (Instr.lookup 130 (.map (some M)) (.int .i64 p.r.batch) false).run Tryz.prog W' = .ok (f p.r.batch) W' := fun W' h => lookup_row h _ hwf
  have hlk1 := hlk W.drew HS.out
  have hlk2 := hlk (W.alloc (.cells #[.int .i64 p.seg, .int .i64 p.pos, .int .i64 p.len, .int .i64 p.r.kind, .int .i64 p.r.batch, .string p.r.key, .string p.r.val, .int .i64 p.r.cnt, .int .i64 p.r.sum] 45)).drew (HS.out.later HBA.out)
  have HPS := hide (fun W1 a' n' cap' ho hg hl => put_steps (W1 := W1) (a' := a') (n' := n') (cap' := cap') (L := w0.heap.size) HS.out HT1.out hbs hb0.size hML HFR.out (KeepT.of_below HB0.out.drew hbs) hk hwf hn ho hg hl)
  have HOW := hide (HS.out.own p.r.batch)
  have hbW : base ≤ W.drew.heap.size := Nat.le_trans hbs HB0.out.size
  have hol : (ofB pre p.r.batch).length ≤ 1099511627775 := by have := ofB_len pre p.r.batch; omega
  clear hS0 hlk
  go_enter Tryz.func86, Tryz.ntmps86
  go_wp2
  all_goals
    rw [← hWd]
    clear hWd
    go_region_held3 (fun W' => W'.cell? ⟨B, 0, none⟩ = some (.map (some M)) ∧ W'.cell? ⟨w.heap.size + 1, 1, none⟩ = some (.int .i64 p.r.batch) ∧ W'.cell? ⟨w.heap.size, 0, none⟩ = some (.int .i64 p.seg) ∧ W'.cell? ⟨w.heap.size, 1, none⟩ = some (.int .i64 p.pos) ∧ W'.cell? ⟨w.heap.size, 2, none⟩ = some (.int .i64 p.len) ∧ W'.cell? ⟨w.heap.size, 3, none⟩ = some (.int .i64 p.r.kind) ∧ W'.cell? ⟨w.heap.size, 4, none⟩ = some (.int .i64 p.r.batch) ∧ W'.cell? ⟨w.heap.size, 5, none⟩ = some (.string p.r.key) ∧ W'.cell? ⟨w.heap.size, 6, none⟩ = some (.string p.r.val) ∧ W'.cell? ⟨w.heap.size, 7, none⟩ = some (.int .i64 p.r.cnt) ∧ W'.cell? ⟨w.heap.size, 8, none⟩ = some (.int .i64 p.r.sum)) (assumption) (first
          | (refine step_app_pl (w := W.drew) rfl (.tmp 27) (.tmp 29) rfl p HOW.out hbW hol rfl rfl rfl ?_; intro a' n' cap' W1 hn' ho hg hl; obtain ⟨S3, W2, hrun, S4, HQ⟩ := HPS.out W1 a' n' cap' ho hg hl; clear hn' ho hg hl))
    all_goals
      have HQ2 := hide HQ
      clear HQ S1 S2 S3 S4 hrun hlk1 hlk2 HPS HOW
      go_wp2
      refine bodyPost_ret (v := .tuple #[.slice none 0 0, .bool false]) (by simp [results, Tryz.results86, go_sem]) rfl ?_
      exact HQ2.out

set_option maxRecDepth 100000 in
set_option maxHeartbeats 4000000 in
theorem take_keep (w : World) (base B : Nat) (pre : List PlaceV) (p : PlaceV) (w0 : World) (hb0 : Below w0.heap.size w0 w) (hW : WSx w0 base B pre) (hbs : base ≤ w.heap.size) (hn : pre.length ≤ 1048576) (hk : p.r.kind = 4) :
    Calls Tryz.prog 86 #[.pointer (some ⟨B, 0, none⟩), .agg #[.int .i64 p.seg, .int .i64 p.pos, .int .i64 p.len, .int .i64 p.r.kind, .int .i64 p.r.batch, .string p.r.key, .string p.r.val, .int .i64 p.r.cnt, .int .i64 p.r.sum]] w fun e w' => TakePost w base B w0.heap.size pre p e w' := by
  obtain ⟨W, hWd⟩ : ∃ W, W = (w.alloc (.cells #[.int .i64 p.seg, .int .i64 p.pos, .int .i64 p.len, .int .i64 p.r.kind, .int .i64 p.r.batch, .string p.r.key, .string p.r.val, .int .i64 p.r.cnt, .int .i64 p.r.sum] 45)).alloc (.cells #[.int .i64 p.r.kind, .int .i64 p.r.batch, .string p.r.key, .string p.r.val, .int .i64 p.r.cnt, .int .i64 p.r.sum] 41) := ⟨_, rfl⟩
  have HB0 : Hid (Below w.heap.size w W) := hide (by rw [hWd]; exact al2 w _ _)
  have HT0 : Hid (TB w W p) := hide (by rw [hWd]; exact TB.new w p)
  obtain ⟨M, kv, f, n, D, hS0⟩ := hW
  have hBl := hS0.blt
  have HFR : Hid (∀ g, kv.ownBlock = some g → g < w0.heap.size) := hide (fun g e => (hS0.kown.blk g e).2)
  have hML := hS0.mlt
  have HSW := hide ((hS0.later hb0).later HB0.out)
  have HS := hide (HSW.out.later (Below.refl W.heap.size W).drew)
  have HT1 := hide (HT0.out.later (Below.refl W.heap.size W).drew)
  obtain ⟨c0, c1, f0, f1⟩ := cellsB HSW.out.box
  obtain ⟨y0, y1, y2, y3, y4, y5, y6, y7, y8⟩ := cells9 HT0.out.pl
  have t1 := ine p.r.kind 1 (by omega)
  have t2 := ine p.r.kind 2 (by omega)
  have t4 := ieq p.r.kind 4 hk
  have HK := hide hk
  have HBA := hide (al1 W.drew (.cells #[.int .i64 p.seg, .int .i64 p.pos, .int .i64 p.len, .int .i64 p.r.kind, .int .i64 p.r.batch, .string p.r.key, .string p.r.val, .int .i64 p.r.cnt, .int .i64 p.r.sum] 45))
  have c1' : (W.alloc (.cells #[.int .i64 p.seg, .int .i64 p.pos, .int .i64 p.len, .int .i64 p.r.kind, .int .i64 p.r.batch, .string p.r.key, .string p.r.val, .int .i64 p.r.cnt, .int .i64 p.r.sum] 45)).cell? ⟨B, 1, none⟩ = some kv := (cellsB (HS.out.later HBA.out).box).2.1
  have HPS : Hid (∀ W1 v', plSh.Own 45 W1 base v' (keptP pre ++ [p]) → W.drew.grownBy W1 kv.ownBlock → (v'.ownBlock = kv.ownBlock ∨ ∃ g, v'.ownBlock = some g ∧ W.drew.heap.size ≤ g) → W1.cell? ⟨B, 1, none⟩ = some kv ∧ W1.frozen? ⟨B, 1, none⟩ = false ∧ TakePost w base B w0.heap.size pre p (.returned (.tuple #[.slice none 0 0, .bool false])) (W1.setCell ⟨B, 1, none⟩ v')) := hide (fun W1 v' ho hg hl => by
    have hoff := row_off HS.out.box HS.out.mheap HS.out.kown
    have hbx1 := (hg.block B HS.out.blt (fun e => hoff.1 e.symm)).trans HS.out.box
    obtain ⟨z0, z1, z2, z3⟩ := cellsB hbx1
    have hWs : base ≤ W.drew.heap.size := Nat.le_trans hbs HB0.out.size
    have k1 : KeepT base w0.heap.size W.drew W1 := KeepT.of_grown hg hWs (fun r e => (HS.out.kown.blk r e).1) HFR.out (fun r cs t fr e hh => .inl (by
      obtain ⟨cur, hc⟩ := own_heap HS.out.kown e
      rw [hc] at hh
      cases hh
      rfl))
    have k2 : KeepT base w0.heap.size W1 (W1.setCell ⟨B, 1, none⟩ v') := KeepT.of_grown (grown_setW W1 B 1 v') (Nat.le_trans hWs hg.size) (fun r e => by cases e; exact HS.out.hB) (fun r e => by cases e; exact hBl) (fun r cs t fr e hh => .inr (by
      cases e
      rw [hbx1] at hh
      cases hh
      rfl))
    exact ⟨z1, z3, take_none (by rw [HK.out]; decide) (by rw [HK.out]; decide) ⟨_, _, _, _, _, HS.out.keep HK.out hg ho hl⟩ ((KeepT.of_below HB0.out.drew hbs).trans (k1.trans k2))⟩)
  have HOW := hide HS.out.kown
  have hbW : base ≤ W.drew.heap.size := Nat.le_trans hbs HB0.out.size
  have hol : (keptP pre).length ≤ 1099511627775 := by have := keptP_len pre; omega
  clear hk hS0 hBl HFR HT1 hML
  go_enter Tryz.func86, Tryz.ntmps86
  go_wp2
  rw [← hWd]
  clear hWd
  go_region_law (refine step_app_pl (w := W.drew) rfl (.tmp 37) (.tmp 39) rfl p HOW.out hbW hol rfl rfl rfl ?_; intro a' n' cap' W1 hn' ho hg hl; obtain ⟨z1, z3, HQ⟩ := HPS.out W1 (.slice a' n' cap') ho hg hl; clear hn' ho hg hl)
  all_goals
    have HQ2 := hide HQ
    clear HQ z1 z3 HPS HOW
    go_wp2
    refine bodyPost_ret (v := .tuple #[.slice none 0 0, .bool false]) (by simp [results, Tryz.results86, go_sem]) rfl ?_
    exact HQ2.out

set_option maxRecDepth 100000 in
set_option maxHeartbeats 4000000 in
theorem take_other (w : World) (base B : Nat) (pre : List PlaceV) (p : PlaceV) (w0 : World) (hb0 : Below w0.heap.size w0 w) (hW : WSx w0 base B pre) (hbs : base ≤ w.heap.size) (h1 : ¬ p.r.kind = 1) (h2 : ¬ p.r.kind = 2) (h3 : ¬ p.r.kind = 3) (h4 : ¬ p.r.kind = 4) (h5 : ¬ p.r.kind = 5) :
    Calls Tryz.prog 86 #[.pointer (some ⟨B, 0, none⟩), .agg #[.int .i64 p.seg, .int .i64 p.pos, .int .i64 p.len, .int .i64 p.r.kind, .int .i64 p.r.batch, .string p.r.key, .string p.r.val, .int .i64 p.r.cnt, .int .i64 p.r.sum]] w fun e w' => TakePost w base B w0.heap.size pre p e w' := by
  have HB0 := hide (al2 w (.cells #[.int .i64 p.seg, .int .i64 p.pos, .int .i64 p.len, .int .i64 p.r.kind, .int .i64 p.r.batch, .string p.r.key, .string p.r.val, .int .i64 p.r.cnt, .int .i64 p.r.sum] 45) (.cells #[.int .i64 p.r.kind, .int .i64 p.r.batch, .string p.r.key, .string p.r.val, .int .i64 p.r.cnt, .int .i64 p.r.sum] 41))
  have HQ := hide (take_none (w := w) (L := w0.heap.size) h3 h5 (by
    obtain ⟨M, kv, f, n, D, h⟩ := hW
    exact ⟨M, kv, f, n, D, ((h.later hb0).later HB0.out).other h1 h2 h3 h4 h5⟩) (KeepT.of_below HB0.out hbs))
  have t1 := ine _ _ h1
  have t2 := ine _ _ h2
  have t3 := ine _ _ h3
  have t4 := ine _ _ h4
  have t5 := ine _ _ h5
  clear h1 h2 h3 h4 h5 hW
  go_enter Tryz.func86, Tryz.ntmps86
  go_wp2
  refine bodyPost_ret (v := .tuple #[.slice none 0 0, .bool false]) (by simp [results, Tryz.results86, go_sem]) rfl ?_
  exact HQ.out

end Go.Proofs.YtimpokbcfjgdaaaGreatDoor
