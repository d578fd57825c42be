/-
  Small laws on rows of bytes that a call has made itself (made, appended to, told as a string), and on the digits of a hexadecimal text.
-/
import Derived.Test.YtdodlaindeclpabProg
import Derived.Test.YtdodlaindeclpabPlain
import Derived.WalkKit
import Derived.Laws.CopyOwn
import Derived.Deep.RegionLaw
namespace Go.Proofs.Ytdodlaindeclpab
open Go.RowKit
open Plain

theorem hide {p : Prop} (h : p) : Hid p := h
theorem ret_two {k : IntKind} {a b : Int} {c : Bool} (h : a = b) : Ending.returned (.tuple #[.int k a, .bool c]) = .returned (.tuple #[.int k b, .bool c]) := by rw [h]
theorem val_int {k : IntKind} {a b : Int} (h : a = b) : Value.int k a = .int k b := by rw [h]

theorem ret_ints {k : IntKind} {a b c d : Int} (h : a = b) (h2 : c = d) : Ending.returned (.tuple #[.int k a, .int k c]) = .returned (.tuple #[.int k b, .int k d]) := by rw [h, h2]
theorem getD_bl (s : ByteArray) (k : Nat) (h : k < s.size) : (bl s).getD k 0 = s[k].toNat := by rw [List.getD, bl_get s k h]; rfl

theorem run_enter {P : Program} {f : FuncId} {fn : Func} (hf : P.funcs[f]? = some fn) (hname : (fn.name == "runtime.NumGoroutine") = false) (hb : fn.body.isNone = false) (args : Array Value) (w : World) :
    (callFunc f args).run P w = .ok (.enter f args) w := by
  have h1 : fn.name ≠ "runtime.NumGoroutine" := by simpa using hname
  have h2 : fn.body ≠ none := by intro h; rw [h] at hb; simp at hb
  simp [callFunc, hf, h1, h2]

/-- A call of a named Go function of one argument, as one step of a statement whose order is open. -/
theorem step_call1 {P : Program} {ops : Array Oper} {o : Oper} {a : Act} {w : World} {K : Act → World → Prop} {Q : Exit → Act → World → Prop} {E : Prop} (hgd : o.guard = none) (f : FuncId) (x : Operand) (T : TypeId)
    (ho : o.op = .call { callee := .value (.func f), args := #[x], argTypes := #[T] }) {fn : Func}
    (hf : P.funcs[f]? = some fn) (hname : (fn.name == "runtime.NumGoroutine") = false) (hb : fn.body.isNone = false) (v : Value) (hx : a.eval x = v)
    (h : Calls P f #[v] w fun e w' => ∃ u, e = .returned u ∧ K (a.put o.dst u) w') : if Region.wanted o (yielded ops a.tmps) = true then Oper.wp P o a w K Q else E := by
  rw [if_pos (by simp [Region.wanted, hgd])]
  obtain ⟨dst, op, ty, pos, after, guard⟩ := o
  simp only at ho hgd
  subst ho
  subst hgd
  unfold Oper.wp
  rw [execOp_call_go, run_enter hf hname hb]
  rw [Oper.upon_enter]
  have e : #[] ++ Array.map a.eval #[x] ++ #[] = #[v] := by simp [hx]
  rw [e]
  refine h.mono ?_
  rintro e w' ⟨u, rfl, hk⟩
  exact hk

end Go.Proofs.Ytdodlaindeclpab
