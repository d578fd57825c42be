/-
  The hexadecimal digits, as numbers; the laws for a call and for an append of two bytes inside a statement whose order is open.
-/
import Derived.Test.YtelfhodaahpggajReadVarSpec
import Derived.Deep.RegionLaw
namespace Go.Proofs.Ytelfhodaahpggaj
open Go.RowKit
open Plain

/-- The byte of the digit k. -/
def dg (k : Nat) : Int := if k < 10 then 48 + (k : Int) else 87 + (k : Int)
def hexS : ByteArray := ⟨#[48, 49, 50, 51, 52, 53, 54, 55, 56, 57, 97, 98, 99, 100, 101, 102]⟩
theorem hexS_size : hexS.size = 16 := rfl
theorem hexS_get : ∀ (i : Nat) (h : i < hexS.size), ((hexS[i]'h).toNat : Int) = dg i := by
  intro i h
  have h' : i < 16 := h
  match i, h' with
  | 0, _ => rfl
  | 1, _ => rfl
  | 2, _ => rfl
  | 3, _ => rfl
  | 4, _ => rfl
  | 5, _ => rfl
  | 6, _ => rfl
  | 7, _ => rfl
  | 8, _ => rfl
  | 9, _ => rfl
  | 10, _ => rfl
  | 11, _ => rfl
  | 12, _ => rfl
  | 13, _ => rfl
  | 14, _ => rfl
  | 15, _ => rfl
  | n + 16, h' => exact absurd h' (by omega)
theorem idx_hex (k : IntKind) (i : Int) (h0 : 0 ≤ i) (h : i < 16) (w : World) : (Instr.index 9 (.string ⟨#[48, 49, 50, 51, 52, 53, 54, 55, 56, 57, 97, 98, 99, 100, 101, 102]⟩) (.int k i)).run Try.prog w = .ok (.int .u8 (dg i.toNat)) w := by
  have e := run_index_string (P := Try.prog) w 9 hexS k i Try.underlying9
  rw [dif_pos ⟨h0, by rw [hexS_size]; exact h⟩, hexS_get] at e
  exact e

theorem run_enter {P : Program} {f : FuncId} {fn : Func} (hf : P.funcs[f]? = some fn) (hname : (fn.name == "runtime.NumGoroutine") = false) (hb : fn.body.isNone = false) (args : Array Value) (w : World) :
    (callFunc f args).run P w = .ok (.enter f args) w := by
  have h1 : fn.name ≠ "runtime.NumGoroutine" := by simpa using hname
  have h2 : fn.body ≠ none := by intro h; rw [h] at hb; simp at hb
  simp [callFunc, hf, h1, h2]

/-- A call of a named Go function of one argument, as one step of a statement whose order is open. -/
theorem step_call1 {P : Program} {ops : Array Oper} {o : Oper} {a : Act} {w : World} {K : Act → World → Prop} {Q : Exit → Act → World → Prop} {E : Prop} (hgd : o.guard = none) (f : FuncId) (x : Operand) (T : TypeId)
    (ho : o.op = .call { callee := .value (.func f), args := #[x], argTypes := #[T] }) {fn : Func}
    (hf : P.funcs[f]? = some fn) (hname : (fn.name == "runtime.NumGoroutine") = false) (hb : fn.body.isNone = false) (v : Value) (hx : a.eval x = v)
    (h : Calls P f #[v] w fun e w' => ∃ u, e = .returned u ∧ K (a.put o.dst u) w') : if Region.wanted o (yielded ops a.tmps) = true then Oper.wp P o a w K Q else E := by
  rw [if_pos (by simp [Region.wanted, hgd])]
  obtain ⟨dst, op, ty, pos, after, guard⟩ := o
  simp only at ho hgd
  subst ho
  subst hgd
  unfold Oper.wp
  rw [execOp_call_go, run_enter hf hname hb]
  rw [Oper.upon_enter]
  have e : #[] ++ Array.map a.eval #[x] ++ #[] = #[v] := by simp [hx]
  rw [e]
  refine h.mono ?_
  rintro e w' ⟨u, rfl, hk⟩
  exact hk

/-- 'out = append(out, x, y)', out a row of bytes of the call's own, as one step of a statement whose order is open. -/
theorem step_app2 {ops : Array Oper} {o : Oper} {a : Act} {K : Act → World → Prop} {Q : Exit → Act → World → Prop} {E : Prop} (hgd : o.guard = none) (s x : Operand)
    (ho : o.op = .call { callee := .builtin .append, args := #[s, x], argTypes := #[34, 34] }) {wr : World} {base n : Nat} {v : Value} {xs : List Value} (hown : wr.ownsRow base 5 1 v n xs) (hb : base ≤ wr.heap.size) (b c : Int) (hn : n ≤ 4194304)
    (hs : a.eval s = v) (hx : a.eval x = .slice (some ⟨wr.heap.size, 0, none⟩) 2 2)
    (h : ∀ v' w', w'.ownsRow base 5 1 v' (n + 2) (xs ++ [.int .u8 b, .int .u8 c]) → Below base wr w' → K (a.put o.dst v') w') :
    if Region.wanted o (yielded ops a.tmps) = true then Oper.wp Try.prog o a (wr.alloc (.cells #[.int .u8 b, .int .u8 c] 5)) K Q else E := by
  rw [if_pos (by simp [Region.wanted, hgd])]
  obtain ⟨i0, hi, hz0, hz1, hz2⟩ := info_parts Try.info5
  refine wp_append_own (P := Try.prog) (wr.alloc (.cells #[.int .u8 b, .int .u8 c] 5)) s x 34 ho base 5 i0 (.int .u8 0) 1 1 Try.underlying34 hi hz0 hz1 hz2 rfl (by decide) v n xs hs (hown.alloc _)
    ⟨wr.heap.size, 0, none⟩ 2 2 [.int .u8 b, .int .u8 c] hx rfl (src_row wr [b, c]) (one_row [b, c]) (by unfold maxLen; omega) (by omega) (by simp; omega) ?_
  intro v' w' ho' hg _
  refine h v' w' ho' ?_
  refine ((Below.refl base wr).alloc hb _).grown hg (by simp; omega) ?_
  intro k hk
  exact (hown.lt k hk).1

set_option maxHeartbeats 400000 in
theorem digit_any (i : Int) (w : World) (h0 : 0 ≤ i) (h1 : i < 16) :
    Calls Try.prog 20 #[.int .i64 i] w fun e w' => e = .returned (.int .u8 (dg i.toNat)) ∧ w = w' := by
  have hi := idx_hex .i64 i h0 h1
  go_enter Try.func20, Try.ntmps20
  go_wp2
  go_ret
  exact ⟨rfl, rfl⟩

/-- The digits of bytes. -/
def hx : List Nat → List Int
  | [] => []
  | b :: r => dg (b / 16) :: dg (b % 16) :: hx r
theorem hx_snoc (l : List Nat) (b : Nat) : hx (l ++ [b]) = hx l ++ [dg (b / 16), dg (b % 16)] := by
  induction l with
  | nil => rfl
  | cons a r ih => simp [hx, ih]
theorem hx_length (l : List Nat) : (hx l).length = 2 * l.length := by
  induction l with
  | nil => rfl
  | cons a r ih => simp [hx, ih]; omega
theorem hx_step (s : ByteArray) (k : Nat) (h : k < s.size) : hx ((bl s).take (k + 1)) = hx ((bl s).take k) ++ [dg (s[k].toNat / 16), dg (s[k].toNat % 16)] := by rw [bl_take_succ s k h, hx_snoc]
theorem hx_take_length (s : ByteArray) (k : Nat) (h : k ≤ s.size) : (hx ((bl s).take k)).length = 2 * k := by rw [hx_length, List.length_take, bl_length]; omega
theorem bl_take_all (s : ByteArray) : (bl s).take s.size = bl s := List.take_of_length_le (by rw [bl_length]; exact Nat.le_refl _)

def qd (c : Nat) : Int := IntKind.i64.wrap ((IntKind.i64.wrap (c : Int)).tdiv 16)
def rd (c : Nat) : Int := (IntKind.i64.wrap (c : Int)).tmod 16
theorem qd_eq (c : Nat) (h : c < 256) : qd c = ((c / 16 : Nat) : Int) := by
  unfold qd
  have e : IntKind.i64.wrap (c : Int) = (c : Int) := by rw [IntKind.wrap_i64]; omega
  rw [e, IntKind.wrap_i64, Int.tdiv_eq_ediv_of_nonneg (by omega)]
  omega
theorem rd_eq (c : Nat) (h : c < 256) : rd c = ((c % 16 : Nat) : Int) := by
  unfold rd
  have e : IntKind.i64.wrap (c : Int) = (c : Int) := by rw [IntKind.wrap_i64]; omega
  rw [e, Int.tmod_eq_emod_of_nonneg (by omega)]
  omega
theorem digit_q (c : Nat) (w : World) (h : c < 256) : Calls Try.prog 20 #[.int .i64 (IntKind.i64.wrap ((IntKind.i64.wrap (c : Int)).tdiv 16))] w fun e w' => e = .returned (.int .u8 (dg (c / 16))) ∧ w = w' := by
  have e := qd_eq c h
  unfold qd at e
  rw [e]
  have := digit_any ((c / 16 : Nat) : Int) w (by omega) (by omega)
  rw [Int.toNat_natCast] at this
  exact this
theorem digit_r (c : Nat) (w : World) (h : c < 256) : Calls Try.prog 20 #[.int .i64 ((IntKind.i64.wrap (c : Int)).tmod 16)] w fun e w' => e = .returned (.int .u8 (dg (c % 16))) ∧ w = w' := by
  have e := rd_eq c h
  unfold rd at e
  rw [e]
  have := digit_any ((c % 16 : Nat) : Int) w (by omega) (by omega)
  rw [Int.toNat_natCast] at this
  exact this

theorem and15_u8 (b : Nat) (h : b < 256) : bits .and .u8 (b : Int) 15 = (b : Int) % 16 := by
  have := u8_and_nat b 15 h (by omega)
  rw [nat_mask4] at this
  exact this

end Go.Proofs.Ytelfhodaahpggaj
