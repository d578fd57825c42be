/-
  Small laws on rows of bytes that a call has made itself (made, appended to, told as a string), and on the digits of a hexadecimal text.
-/
import Derived.Test.YtnckdfidehbcaaaProg
import Derived.Test.YtnckdfidehbcaaaPlain
import Derived.WalkKit
import Derived.Laws.CopyOwn
import Derived.Deep.RegionLaw
namespace Go.Proofs.Ytnckdfidehbcaaa
open Go.RowKit
open Plain

theorem hide {p : Prop} (h : p) : Hid p := h
theorem ret_two {k : IntKind} {a b : Int} {c : Bool} (h : a = b) : Ending.returned (.tuple #[.int k a, .bool c]) = .returned (.tuple #[.int k b, .bool c]) := by rw [h]
theorem val_int {k : IntKind} {a b : Int} (h : a = b) : Value.int k a = .int k b := by rw [h]

theorem ret_ints {k : IntKind} {a b c d : Int} (h : a = b) (h2 : c = d) : Ending.returned (.tuple #[.int k a, .int k c]) = .returned (.tuple #[.int k b, .int k d]) := by rw [h, h2]
theorem getD_bl (s : ByteArray) (k : Nat) (h : k < s.size) : (bl s).getD k 0 = s[k].toNat := by rw [List.getD, bl_get s k h]; rfl

theorem Try.size5 : (Try.prog.info? 5).map (·.size) = some 1 := by kernel_rfl

theorem Try.info5 : (Try.prog.info? 5).map (fun i => (i.zero, i.size, i.bytes)) = some (some (.int .u8 0), 1, 1) := by kernel_rfl

/-- A row that 'make' has laid: its block, written out. -/
theorem made_row {w w1 : World} {n : Nat} {z : Value} (h : w1.ownsRow w.heap.size 5 1 (.slice (some ⟨w.heap.size, 0, none⟩) n n) n (madeCells #[z] (n * 1)).toList) :
    w1.heap[w.heap.size]? = some (.cells (List.replicate n z).toArray 5 (0, 0)) := by
  obtain ⟨_, h⟩ := h
  rcases h with ⟨h, _⟩ | ⟨g, cap, cur, hv, _, hh, _, _, hs, ht⟩
  · simp at h
  · simp only [Value.slice.injEq, Option.some.injEq, Addr.mk.injEq] at hv
    obtain ⟨⟨rfl, _⟩, _, rfl⟩ := hv
    rw [toList_madeCells_one] at ht
    rw [hh]
    have e : cur.toList = List.replicate n z := by
      rw [List.take_of_length_le (by simp [hs])] at ht
      simpa using ht
    rw [← e]

theorem cv_one (wr : World) (x : Int) : (convert 22 9 (.slice (some ⟨wr.heap.size, 0, none⟩) 1 1)).run Try.prog (wr.alloc (.cells #[.int .u8 x] 5)) = .ok (.string (strOfNums [x])) (wr.alloc (.cells #[.int .u8 x] 5)) := by
  refine run_convert_bytes_arg (P := Try.prog) (wr.alloc (.cells #[.int .u8 x] 5)) 22 5 Try.underlying22 Try.underlying5 wr.heap.size 0 1 1 [x] rfl ?_ 9 Try.underlying9
  intro i hi
  obtain rfl : i = 0 := by omega
  simp

theorem src_one (wr : World) (x : Int) (j : Nat) (v : Value) (h : [Value.int .u8 x][j]? = some v) : (wr.alloc (.cells #[.int .u8 x] 5)).cell? ((⟨wr.heap.size, 0, none⟩ : Addr).add j) = some v := by
  match j, h with
  | 0, h => simp at h; subst h; simp [Addr.add]
theorem one_one (x : Int) (v : Value) (h : v ∈ [Value.int .u8 x]) : v.oneCell' = true := by
  simp at h; subst h; rfl
theorem cv_own {w : World} {base n : Nat} {v : Value} {L : List Int} (h : w.ownsRow base 5 1 v n (L.map (Value.int .u8))) : (convert 22 9 v).run Try.prog w = .ok (.string (strOfNums L)) w := by
  have hl : L.length = n := by simpa using h.1
  rcases h.2 with ⟨rfl, h0⟩ | ⟨g, cap, cur, rfl, _, hg, hc, _, hs, ht⟩
  · have : L = [] := List.eq_nil_of_length_eq_zero (by omega)
    subst this
    exact run_convert_bytes_nil (P := Try.prog) w 22 5 Try.underlying22 Try.underlying5 0 0 9 Try.underlying9
  · refine run_convert_bytes_arg (P := Try.prog) w 22 5 Try.underlying22 Try.underlying5 g 0 n cap L hl ?_ 9 Try.underlying9
    intro i hi
    have hh : w.ownsRow base 5 1 (.slice (some ⟨g, 0, none⟩) n cap) n (L.map (Value.int .u8)) := h
    have := hh.cellAt i (by omega)
    rw [Nat.zero_add, this]
    have hi' : i < L.length := by omega
    simp [List.getD, hi']

/-- 'out = append(out, b)', out a row of bytes of the call's own (or nil): a law for the walk. -/
theorem wpList_app_byte {ops : Array Oper} {rest : List Oper} {o : Oper} {a : Act} {Q : Exit → Act → World → Prop} (hgd : o.guard = none) (s x : Operand)
    (ho : o.op = .call { callee := .builtin .append, args := #[s, x], argTypes := #[22, 22] }) {wr : World} {base n : Nat} {v : Value} {xs : List Value} (hown : wr.ownsRow base 5 1 v n xs) (hb : base ≤ wr.heap.size) (b : Int) (hn : n ≤ 4194304)
    (hs : a.eval s = v) (hx : a.eval x = .slice (some ⟨wr.heap.size, 0, none⟩) 1 1)
    (h : ∀ v' w', w'.ownsRow base 5 1 v' (n + 1) (xs ++ [.int .u8 b]) → Below base wr w' → wpList Try.prog ops Q rest (a.put o.dst v') w') : wpList Try.prog ops Q (o :: rest) a (wr.alloc (.cells #[.int .u8 b] 5)) := by
  obtain ⟨i0, hi, hz0, hz1, hz2⟩ := info_parts Try.info5
  refine wpList_append_own (P := Try.prog) (wr.alloc (.cells #[.int .u8 b] 5)) hgd s x 22 ho base 5 i0 (.int .u8 0) 1 1 Try.underlying22 hi hz0 hz1 hz2 rfl (by decide) v n xs hs (hown.alloc _)
    ⟨wr.heap.size, 0, none⟩ 1 1 [.int .u8 b] hx rfl (src_one wr b) (one_one b) (by unfold maxLen; omega) (by omega) (by simp; omega) ?_
  intro v' w' ho' hg _
  refine h v' w' ho' ?_
  refine ((Below.refl base wr).alloc hb _).grown hg (by simp; omega) ?_
  intro k hk
  exact (hown.lt k hk).1

/-- A row of N bytes whose first ones are p, the rest 0. -/
def rowOf (N : Nat) (p : List Int) : List Value := (p ++ List.replicate (N - p.length) 0).map (Value.int .u8)
theorem rowOf_len (N : Nat) (p : List Int) (h : p.length ≤ N) : (rowOf N p).length = N := by simp [rowOf]; omega
theorem rowOf_nil (N : Nat) : rowOf N [] = List.replicate N (.int .u8 0) := by simp [rowOf]
theorem rowOf_step (N : Nat) (p r : List Int) (h : p.length + r.length ≤ N) : splice (rowOf N p) p.length (r.map (Value.int .u8)) = rowOf N (p ++ r) := by
  unfold splice rowOf
  have e : List.replicate (N - p.length) (0 : Int) = List.replicate r.length 0 ++ List.replicate (N - (p ++ r).length) 0 := by
    rw [List.replicate_append_replicate]; congr 1; simp; omega
  rw [e]
  simp [List.drop_append]
/-- 'string(buf[:k])' of such a row. -/
theorem cv_pre {w : World} {g N k : Nat} {L : List Int} (h : w.heap[g]? = some (.cells (rowOf N L).toArray 5 (0, 0))) (hk : L.length = k) :
    (convert 22 9 (.slice (some ⟨g, 0, none⟩) k N)).run Try.prog w = .ok (.string (strOfNums L)) w := by
  refine run_convert_bytes_arg (P := Try.prog) w 22 5 Try.underlying22 Try.underlying5 g 0 k N L hk ?_ 9 Try.underlying9
  intro i hi
  have hi' : i < L.length := by omega
  simp only [World.cell?, h, rowOf]
  simp [List.getD, hi', List.getElem?_append]

theorem src_row (wr : World) (r : List Int) (j : Nat) (v : Value) (h : (r.map (Value.int .u8))[j]? = some v) : (wr.alloc (.cells (r.map (Value.int .u8)).toArray 5)).cell? ((⟨wr.heap.size, 0, none⟩ : Addr).add j) = some v := by
  have e : (⟨wr.heap.size, 0, none⟩ : Addr).add j = ⟨wr.heap.size, j, none⟩ := by unfold Addr.add; split <;> simp_all
  rw [e, cell_of_row _ _ _ _ _ _ (heap_alloc_new wr _)]
  rw [List.getElem?_toArray]
  exact h
theorem one_row (r : List Int) (v : Value) (h : v ∈ r.map (Value.int .u8)) : v.oneCell' = true := by
  simp at h
  obtain ⟨x, _, rfl⟩ := h
  rfl
/-- The byte of the digit k. -/
def dg (k : Nat) : Int := if k < 10 then 48 + (k : Int) else 87 + (k : Int)
def hexS : ByteArray := ⟨#[48, 49, 50, 51, 52, 53, 54, 55, 56, 57, 97, 98, 99, 100, 101, 102]⟩
theorem hexS_size : hexS.size = 16 := rfl
theorem hexS_get : ∀ (i : Nat) (h : i < hexS.size), ((hexS[i]'h).toNat : Int) = dg i := by
  intro i h
  have h' : i < 16 := h
  match i, h' with
  | 0, _ => rfl
  | 1, _ => rfl
  | 2, _ => rfl
  | 3, _ => rfl
  | 4, _ => rfl
  | 5, _ => rfl
  | 6, _ => rfl
  | 7, _ => rfl
  | 8, _ => rfl
  | 9, _ => rfl
  | 10, _ => rfl
  | 11, _ => rfl
  | 12, _ => rfl
  | 13, _ => rfl
  | 14, _ => rfl
  | 15, _ => rfl
  | n + 16, h' => exact absurd h' (by omega)
theorem idx_hex (k : IntKind) (i : Int) (h0 : 0 ≤ i) (h : i < 16) (w : World) : (Instr.index 9 (.string ⟨#[48, 49, 50, 51, 52, 53, 54, 55, 56, 57, 97, 98, 99, 100, 101, 102]⟩) (.int k i)).run Try.prog w = .ok (.int .u8 (dg i.toNat)) w := by
  have e := run_index_string (P := Try.prog) w 9 hexS k i Try.underlying9
  rw [dif_pos ⟨h0, by rw [hexS_size]; exact h⟩, hexS_get] at e
  exact e

theorem run_enter {P : Program} {f : FuncId} {fn : Func} (hf : P.funcs[f]? = some fn) (hname : (fn.name == "runtime.NumGoroutine") = false) (hb : fn.body.isNone = false) (args : Array Value) (w : World) :
    (callFunc f args).run P w = .ok (.enter f args) w := by
  have h1 : fn.name ≠ "runtime.NumGoroutine" := by simpa using hname
  have h2 : fn.body ≠ none := by intro h; rw [h] at hb; simp at hb
  simp [callFunc, hf, h1, h2]

/-- A call of a named Go function of one argument, as one step of a statement whose order is open. -/
theorem step_call1 {P : Program} {ops : Array Oper} {o : Oper} {a : Act} {w : World} {K : Act → World → Prop} {Q : Exit → Act → World → Prop} {E : Prop} (hgd : o.guard = none) (f : FuncId) (x : Operand) (T : TypeId)
    (ho : o.op = .call { callee := .value (.func f), args := #[x], argTypes := #[T] }) {fn : Func}
    (hf : P.funcs[f]? = some fn) (hname : (fn.name == "runtime.NumGoroutine") = false) (hb : fn.body.isNone = false) (v : Value) (hx : a.eval x = v)
    (h : Calls P f #[v] w fun e w' => ∃ u, e = .returned u ∧ K (a.put o.dst u) w') : if Region.wanted o (yielded ops a.tmps) = true then Oper.wp P o a w K Q else E := by
  rw [if_pos (by simp [Region.wanted, hgd])]
  obtain ⟨dst, op, ty, pos, after, guard⟩ := o
  simp only at ho hgd
  subst ho
  subst hgd
  unfold Oper.wp
  rw [execOp_call_go, run_enter hf hname hb]
  rw [Oper.upon_enter]
  have e : #[] ++ Array.map a.eval #[x] ++ #[] = #[v] := by simp [hx]
  rw [e]
  refine h.mono ?_
  rintro e w' ⟨u, rfl, hk⟩
  exact hk

/-- 'out = append(out, x, y)', out a row of bytes of the call's own, as one step of a statement whose order is open. -/
theorem step_app2 {ops : Array Oper} {o : Oper} {a : Act} {K : Act → World → Prop} {Q : Exit → Act → World → Prop} {E : Prop} (hgd : o.guard = none) (s x : Operand)
    (ho : o.op = .call { callee := .builtin .append, args := #[s, x], argTypes := #[22, 22] }) {wr : World} {base n : Nat} {v : Value} {xs : List Value} (hown : wr.ownsRow base 5 1 v n xs) (hb : base ≤ wr.heap.size) (b c : Int) (hn : n ≤ 4194304)
    (hs : a.eval s = v) (hx : a.eval x = .slice (some ⟨wr.heap.size, 0, none⟩) 2 2)
    (h : ∀ v' w', w'.ownsRow base 5 1 v' (n + 2) (xs ++ [.int .u8 b, .int .u8 c]) → Below base wr w' → K (a.put o.dst v') w') :
    if Region.wanted o (yielded ops a.tmps) = true then Oper.wp Try.prog o a (wr.alloc (.cells #[.int .u8 b, .int .u8 c] 5)) K Q else E := by
  rw [if_pos (by simp [Region.wanted, hgd])]
  obtain ⟨i0, hi, hz0, hz1, hz2⟩ := info_parts Try.info5
  refine wp_append_own (P := Try.prog) (wr.alloc (.cells #[.int .u8 b, .int .u8 c] 5)) s x 22 ho base 5 i0 (.int .u8 0) 1 1 Try.underlying22 hi hz0 hz1 hz2 rfl (by decide) v n xs hs (hown.alloc _)
    ⟨wr.heap.size, 0, none⟩ 2 2 [.int .u8 b, .int .u8 c] hx rfl (src_row wr [b, c]) (one_row [b, c]) (by unfold maxLen; omega) (by omega) (by simp; omega) ?_
  intro v' w' ho' hg _
  refine h v' w' ho' ?_
  refine ((Below.refl base wr).alloc hb _).grown hg (by simp; omega) ?_
  intro k hk
  exact (hown.lt k hk).1

/-- The digits of bytes. -/
def hx : List Nat → List Int
  | [] => []
  | b :: r => dg (b / 16) :: dg (b % 16) :: hx r
theorem hx_snoc (l : List Nat) (b : Nat) : hx (l ++ [b]) = hx l ++ [dg (b / 16), dg (b % 16)] := by
  induction l with
  | nil => rfl
  | cons a r ih => simp [hx, ih]
theorem hx_length (l : List Nat) : (hx l).length = 2 * l.length := by
  induction l with
  | nil => rfl
  | cons a r ih => simp [hx, ih]; omega
theorem hx_step (s : ByteArray) (k : Nat) (h : k < s.size) : hx ((bl s).take (k + 1)) = hx ((bl s).take k) ++ [dg (s[k].toNat / 16), dg (s[k].toNat % 16)] := by rw [bl_take_succ s k h, hx_snoc]
theorem hx_take_length (s : ByteArray) (k : Nat) (h : k ≤ s.size) : (hx ((bl s).take k)).length = 2 * k := by rw [hx_length, List.length_take, bl_length]; omega
theorem bl_take_all (s : ByteArray) : (bl s).take s.size = bl s := List.take_of_length_le (by rw [bl_length]; exact Nat.le_refl _)

theorem and15_u8 (b : Nat) (h : b < 256) : bits .and .u8 (b : Int) 15 = (b : Int) % 16 := by
  have := u8_and_nat b 15 h (by omega)
  rw [nat_mask4] at this
  exact this

end Go.Proofs.Ytnckdfidehbcaaa
