/-
  errors.Is where the target is an error of errors.New's make, and the error is nil, or one of the log's own that wraps such an error. What the loop of impl.ScanRecs holds between two rounds, and what a round leaves.
-/
import Derived.Test.YtimpokbcfjgdaaaGreatDoorHG29
import Derived.WalkKit
import Derived.Below
import Derived.LaidEql
import Derived.Stop.Asserts
import Derived.RowKitTokens
import Derived.Test.YtimpokbcfjgdaaaGreatDoorHMFramesI
import Derived.Maps.AppendAt
import Derived.Maps.OwnIn
namespace Go.Proofs.YtimpokbcfjgdaaaGreatDoor
open Go.RowKit Go.Extern.Stop Go.Stop Go.Extern

theorem isTypeOf (v : Value) (w : World) : (Extern.ReflectliteType.typeOf #[.iface 231 v]).run Tryz.prog w = .ok (.iface 169 (.agg #[.pointer (some ⟨3, 231, none⟩)])) w := by kernel_rfl
theorem isComparable (w : World) : ((Extern.ReflectliteType.method fun t => do Extern.Rtype.noPackHeld "Comparable" t; pure (.bool (← typeInfo t).comparable)) #[.agg #[.pointer (some ⟨3, 231, none⟩)]]).run Tryz.prog w = .ok (.bool true) w := by kernel_rfl
theorem calledComparable (w : World) : (callFunc 190 #[.agg #[.pointer (some ⟨3, 231, none⟩)]]).run Tryz.prog w = .ok (.value (.bool true)) w := by
  rw [@run_callFunc_extern Tryz.prog 190 _ (Extern.ReflectliteType.method fun t => do Extern.Rtype.noPackHeld "Comparable" t; pure (.bool (← typeInfo t).comparable)) Tryz.func190 (by kernel_rfl) (by kernel_rfl) (by kernel_rfl) (by kernel_rfl), isComparable]
  rfl
theorem isMethodComparable (v : Value) (w : World) : (Go.method 364 169 v "Comparable").run Tryz.prog w = .ok (190, v) w := by kernel_rfl
theorem isComp : (Tryz.prog.info? 231).map (·.comparable) = some true := by kernel_rfl
theorem isSize : (Tryz.prog.info? 253).map (·.size) = some 1 := by kernel_rfl
theorem noIsE (v : Value) (xT : TypeId) (w : World) : (Instr.typeAssert (.iface 231 v) xT 171 true).run Tryz.prog w = .ok (.tuple #[.nilIface, .bool false]) w := run_typeAssert_lacksB Tryz.underlying171 (by kernel_rfl) (by kernel_rfl) v xT w
theorem noUnwrapE (v : Value) (xT : TypeId) (w : World) : (Instr.typeAssert (.iface 231 v) xT 174 true).run Tryz.prog w = .ok (.tuple #[.nilIface, .bool false]) w := run_typeAssert_lacksB Tryz.underlying174 (by kernel_rfl) (by kernel_rfl) v xT w
theorem noUnwrapsE (v : Value) (xT : TypeId) (w : World) : (Instr.typeAssert (.iface 231 v) xT 176 true).run Tryz.prog w = .ok (.tuple #[.nilIface, .bool false]) w := run_typeAssert_lacksB Tryz.underlying176 (by kernel_rfl) (by kernel_rfl) v xT w

theorem noIsB (v : Value) (xT : TypeId) (w : World) : (Instr.typeAssert (.iface 167 v) xT 171 true).run Tryz.prog w = .ok (.tuple #[.nilIface, .bool false]) w := run_typeAssert_lacksB Tryz.underlying171 (by kernel_rfl) (by kernel_rfl) v xT w
theorem hasUnwrapB (v : Value) (w : World) : (Instr.typeAssert (.iface 167 v) 66 174 true).run Tryz.prog w = .ok (.tuple #[.iface 167 v, .bool true]) w := by kernel_rfl
theorem methUnwrapB (v : Value) (w : World) : (Go.method 364 167 v "Unwrap").run Tryz.prog w = .ok (186, v) w := by kernel_rfl
theorem eqBadErr (u v : Value) (w : World) : (binOp .eql 66 (.iface 167 u) (.iface 231 v)).run Tryz.prog w = .ok (.bool false) w := by kernel_rfl
theorem eqNilErr (v : Value) (w : World) : (binOp .eql 66 .nilIface (.iface 231 v)).run Tryz.prog w = .ok (.bool false) w := by kernel_rfl

set_option maxRecDepth 100000 in
set_option maxHeartbeats 2000000 in
theorem unwrapB (p : Int) (v : Value) (w : World) : Calls Tryz.prog 186 #[.agg #[.int .i64 p, v]] w fun e w' => e = .returned v ∧ Below w.heap.size w w' := by
  go_enter Tryz.func186, Tryz.ntmps186
  go_wp2
  go_ret
  exact ⟨rfl, al1 _ _⟩

set_option maxRecDepth 100000 in
set_option maxHeartbeats 2000000 in
/-- No error. -/
theorem is_nil (b : Addr) (w : World) :
    Calls Tryz.prog 81 #[.nilIface, .iface 231 (.pointer (some b))] w fun e w' => e = .returned (.bool false) ∧ Below w.heap.size w w' := by
  have q := eqNilErr
  go_enter Tryz.func81, Tryz.ntmps81
  go_wp2
  go_ret
  exact ⟨rfl, Below.refl _ _⟩

set_option maxRecDepth 100000 in
set_option maxHeartbeats 2000000 in
/-- It wraps this one. -/
theorem bad_same (p : Int) (a : Addr) (w : World) :
    Calls Tryz.prog 81 #[.iface 167 (.agg #[.int .i64 p, .iface 231 (.pointer (some a))]), .iface 231 (.pointer (some a))] w fun e w' => e = .returned (.bool true) ∧ Below w.heap.size w w' := by
  obtain ⟨i, hi, hcmp⟩ := Option.map_eq_some_iff.1 isComp
  obtain ⟨j, hj, hjs⟩ := Option.map_eq_some_iff.1 isSize
  have h8 := @run_callFunc_extern Tryz.prog 111 _ Extern.ReflectliteType.typeOf Tryz.func111 (by kernel_rfl) (by kernel_rfl) (by kernel_rfl) (by kernel_rfl)
  have tT := isTypeOf
  have cT := calledComparable
  have mR := isMethodComparable
  have nB := noIsB
  have uB := hasUnwrapB
  have mB := methUnwrapB
  have qB := eqBadErr
  have heq := fun w => run_eql_iface_ptr_same (P := Tryz.prog) w a Tryz.underlying66 Tryz.underlying231 hi hcmp hj
  go_enter Tryz.func81, Tryz.ntmps81
  go_wp2
  refine wp_loop_rounds 2 ?_
  rw [rounds_succ]
  go_wp2_with (go_at_call 186; refine (unwrapB p _ _).mono ?_; rintro e w1 ⟨rfl, hb1⟩; have HB1 := hide hb1; clear hb1)
  rw [rounds_succ]
  go_wp2
  go_ret
  exact ⟨rfl, HB1.out⟩

set_option maxRecDepth 100000 in
set_option maxHeartbeats 2000000 in
/-- It wraps another one. -/
theorem bad_other (p : Int) (a b : Addr) (ca cb : Array Value) (ta tb : TypeId) (w : World) (hne : a ≠ b) (ha : w.heap[a.block]? = some (.cells ca ta (0, 0))) (hb : w.heap[b.block]? = some (.cells cb tb (0, 0))) :
    Calls Tryz.prog 81 #[.iface 167 (.agg #[.int .i64 p, .iface 231 (.pointer (some a))]), .iface 231 (.pointer (some b))] w fun e w' => e = .returned (.bool false) ∧ Below w.heap.size w w' := by
  obtain ⟨i, hi, hcmp⟩ := Option.map_eq_some_iff.1 isComp
  obtain ⟨j, hj, hjs⟩ := Option.map_eq_some_iff.1 isSize
  have h8 := @run_callFunc_extern Tryz.prog 111 _ Extern.ReflectliteType.typeOf Tryz.func111 (by kernel_rfl) (by kernel_rfl) (by kernel_rfl) (by kernel_rfl)
  have tT := isTypeOf
  have cT := calledComparable
  have mR := isMethodComparable
  have nB := noIsB
  have uB := hasUnwrapB
  have mB := methUnwrapB
  have qB := eqBadErr
  have HQ : Hid (∀ W, Below w.heap.size w W → _) := hide (fun W (hW : Below w.heap.size w W) => run_eql_iface_ptr_other (P := Tryz.prog) W Tryz.underlying66 Tryz.underlying231 hi hcmp hj (by rw [hjs]; decide) hne ((hW.block _ (blk_lt ha)).trans ha) ((hW.block _ (blk_lt hb)).trans hb))
  have nE := noIsE
  have uE := noUnwrapE
  have vE := noUnwrapsE
  clear ha hb hne
  go_enter Tryz.func81, Tryz.ntmps81
  go_wp2
  refine wp_loop_rounds 2 ?_
  rw [rounds_succ]
  go_wp2_with (go_at_call 186; refine (unwrapB p _ _).mono ?_; rintro e w1 ⟨rfl, hb1⟩; have HB1 := hide hb1; clear hb1; have heq := HQ.out w1 HB1.out)
  rw [rounds_succ]
  go_wp2
  go_ret
  exact ⟨rfl, HB1.out⟩

end Go.Proofs.YtimpokbcfjgdaaaGreatDoor
namespace Go.Proofs.YtimpokbcfjgdaaaGreatDoor
open Go.RowKit Go.Shelf
open Plain

def cell8 : Item → Array Value
  | .inl p => #[.int .i64 (p.pos : Nat), .int .i64 (p.len : Nat), .int .i64 p.r.kind, .int .i64 p.r.batch, .string p.r.key, .string p.r.val, .int .i64 p.r.cnt, .int .i64 p.r.sum]
  | .inr _ => #[.int .i64 0, .int .i64 0, .int .i64 0, .int .i64 0, .string ⟨#[]⟩, .string ⟨#[]⟩, .int .i64 0, .int .i64 0]
def errI (A B : Addr) : Item → Value
  | .inl _ => .nilIface
  | .inr (q, k) => badOf A B q k
theorem encI_eq (A B : Addr) : encI A B = fun x => #[.agg (cell8 x), errI A B x] := by
  funext x
  rcases x with p | ⟨q, k⟩ <;> rfl

/-- Between two rounds: the box at N shows these spots, in a row of the call's own; the box behind it where the last of them ends. -/
structure StI (w : World) (ps : List SpotV) (W : World) : Prop where
  row : ∃ v, Boxed W w.heap.size 37 v ∧ W.ownsRow w.heap.size 43 8 v ps.length (spotSh.flat ps)
  fin : Boxed W (w.heap.size + 1) 3 (.int .i64 (endW ps))
  bel : Below w.heap.size w W
theorem StI.grown {w W W' : World} {ps : List SpotV} {row : Option Nat} (h : StI w ps W) (hg : W.grownBy W' row) (hr : ∀ r, row = some r → w.heap.size ≤ r ∧ ∃ o : Obj, W.heap[r]? = some o ∧ o.isCells = false) : StI w ps W' := by
  have hne : ∀ {b : Nat} {cs t fr}, W.heap[b]? = some (.cells cs t fr) → some b ≠ row := fun {b cs t fr} hb e => by
    obtain ⟨_, o, ho, hc⟩ := hr b e.symm
    rw [hb] at ho; cases ho; cases hc
  obtain ⟨v, hv, ho⟩ := h.row
  refine ⟨⟨v, hv.kept hg (hne hv), ho.kept hg ?_⟩, h.fin.kept hg (hne h.fin), h.bel.grown hg h.bel.size (fun k e => (hr k e).1)⟩
  rcases ho.2 with ⟨rfl, _⟩ | ⟨g, cap, cur, rfl, _, hgb, _⟩
  · exact .inl rfl
  · exact .inr (hne hgb)
theorem StI.later {w W W' : World} {ps : List SpotV} (h : StI w ps W) (hb : Below W.heap.size W W') : StI w ps W' :=
  h.grown (row := none) ⟨hb.os, hb.tape, hb.output, hb.size, fun k hk _ => hb.block k hk⟩ (fun r e => by cases e)
theorem ownB_boxed {W : World} {b : Nat} {t : TypeId} {v : Value} (h : Boxed W b t v) : ownB b W = v.ownBlock := by
  unfold ownB
  rw [h.cell]
  rfl
theorem KB_below {n b c : Nat} {W W' : World} (hn : n ≤ W.heap.size) (hb : b < W.heap.size) (h : Below W.heap.size W W') : KB n b c W W' :=
  ⟨h.mono hn, fun d _ _ _ hd _ _ _ => h.block d (Array.getElem?_eq_some_iff.1 hd).1, .inl (ownB_below h hb)⟩
theorem ownB_grown {b : Nat} {W W' : World} {row : Option Nat} {t : TypeId} {v : Value} (h : Boxed W b t v) (hg : W.grownBy W' row) (hne : some b ≠ row) : ownB b W' = ownB b W := by
  rw [ownB_boxed h, ownB_boxed (h.kept hg hne)]

/-- 'spots = append(spots, spot); end = ..' : what a round that goes on leaves. -/
theorem round_app {w W W1 w4 : World} {ps : List SpotV} {p : SpotV} {v v' : Value} {tmp : Obj} (hN : w.heap.size + 1 < W.heap.size) (hb1 : Below W.heap.size W W1) (h : StI w ps W1) (hv : Boxed W1 w.heap.size 37 v) (ho : W1.ownsRow w.heap.size 43 8 v ps.length (spotSh.flat ps))
    (hown' : w4.ownsRow w.heap.size 43 8 v' (ps.length + 1) (spotSh.flat ps ++ spotSh.flat [p])) (hgrow : (W1.alloc tmp).grownBy w4 v.ownBlock) (hat : v'.ownBlock = v.ownBlock ∨ v'.ownBlock = some (W1.alloc tmp).heap.size) :
    let Wf := (w4.setCell ⟨w.heap.size, 0, none⟩ v').setCell ⟨w.heap.size + 1, 0, none⟩ (.int .i64 (wrap64 ((p.pos : Int) + (p.len : Int))))
    KeepsOthers W Wf ∧ KB w.heap.size w.heap.size (w.heap.size + 1) W Wf ∧ StI w (ps ++ [p]) Wf := by
  intro Wf
  have hB1 : w.heap.size ≤ W1.heap.size := h.bel.size
  obtain ⟨hv1, hv2, hr2, hk2, hb2⟩ := hv.appended (by decide) ho hB1 (Nat.le_refl _) hown' hgrow
  have hf1 : Boxed (w4.setCell ⟨w.heap.size, 0, none⟩ v') (w.heap.size + 1) 3 (.int .i64 (endW ps)) := ((h.fin.alloc tmp).kept hgrow (h.fin.not_row (by decide) ho)).other (by omega) _
  have hv3 : Boxed Wf w.heap.size 37 v' := hv2.other (by omega) _
  have hbf : Below w.heap.size W1 Wf := hb2.setCell (p := ⟨w.heap.size + 1, 0, none⟩) (by simp) _
  have hrw : v'.ownBlock = none ∨ v'.ownBlock ≠ some (w.heap.size + 1) := .inr (fun e => (hf1.not_row (by decide) hr2) e.symm)
  have hr3 : Wf.ownsRow w.heap.size 43 8 v' (ps.length + 1) (spotSh.flat ps ++ spotSh.flat [p]) := hr2.kept (grownBy_setCell' _ _ _) hrw
  refine ⟨?_, ⟨(hb1.mono (by omega)).trans hbf, ?_, ?_⟩, ⟨⟨v', hv3, ?_⟩, ?_, h.bel.trans hbf⟩⟩
  · refine KeepsOthers.trans ?_ (hk2.trans (KeepsOthers.setCell _ _ _))
    exact ⟨hb1.size, fun k o hk _ => (hb1.block k (Array.getElem?_eq_some_iff.1 hk).1).trans hk⟩
  · intro d cs t fr hd h1 h2 h3
    have hd0 : d < W.heap.size := (Array.getElem?_eq_some_iff.1 hd).1
    have hd1 : W1.heap[d]? = W.heap[d]? := hb1.block d hd0
    have hd2 : d < W1.heap.size := Nat.lt_of_lt_of_le hd0 hb1.size
    rw [ownB_below (b := w.heap.size) hb1 (by omega) |>.symm, ownB_boxed hv] at h3
    rw [show Wf.heap[d]? = _ from Below.heap_setCell _ _ _ d (by simpa using h2), Below.heap_setCell _ _ _ d (by simpa using h1)]
    rw [hgrow.block d (by simp; omega) (fun e => h3 e.symm), Below.heap_alloc W1 tmp d hd2, hd1]
  · rw [ownB_boxed hv3]
    have e0 : ownB w.heap.size W = v.ownBlock := by rw [← ownB_below (b := w.heap.size) hb1 (by omega), ownB_boxed hv]
    rcases hat with e | e
    · exact .inl (by rw [e, e0])
    · refine .inr ⟨_, e, ?_, (hr3.lt _ e).2⟩
      have := hb1.size
      simp
      omega
  · rw [List.length_append, spotSh.flat_append]
    exact hr3
  · rw [endW_snoc]
    exact hf1.set _

end Go.Proofs.YtimpokbcfjgdaaaGreatDoor
