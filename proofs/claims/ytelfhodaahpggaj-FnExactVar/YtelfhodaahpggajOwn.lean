/-
  Small laws on rows of bytes that a call has made itself: a byte appended, the row as a string.
-/
import Derived.Test.YtelfhodaahpggajFixedImpl
namespace Go.Proofs.Ytelfhodaahpggaj
open Go.RowKit
open Plain

theorem cv_own {w : World} {base n : Nat} {v : Value} {L : List Int} (h : w.ownsRow base 5 1 v n (L.map (Value.int .u8))) : (convert 34 9 v).run Try.prog w = .ok (.string (strOfNums L)) w := by
  have hl : L.length = n := by simpa using h.1
  rcases h.2 with ⟨rfl, h0⟩ | ⟨g, cap, cur, rfl, _, hg, hc, _, hs, ht⟩
  · have : L = [] := List.eq_nil_of_length_eq_zero (by omega)
    subst this
    exact run_convert_bytes_nil (P := Try.prog) w 34 5 Try.underlying34 Try.underlying5 0 0 9 Try.underlying9
  · refine run_convert_bytes_arg (P := Try.prog) w 34 5 Try.underlying34 Try.underlying5 g 0 n cap L hl ?_ 9 Try.underlying9
    intro i hi
    have hh : w.ownsRow base 5 1 (.slice (some ⟨g, 0, none⟩) n cap) n (L.map (Value.int .u8)) := h
    have := hh.cellAt i (by omega)
    rw [Nat.zero_add, this]
    have hi' : i < L.length := by omega
    simp [List.getD, hi']

/-- 'out = append(out, b)', out a row of bytes of the call's own (or nil): a law for the walk. -/
theorem wpList_app_byte {ops : Array Oper} {rest : List Oper} {o : Oper} {a : Act} {Q : Exit → Act → World → Prop} (hgd : o.guard = none) (s x : Operand)
    (ho : o.op = .call { callee := .builtin .append, args := #[s, x], argTypes := #[34, 34] }) {wr : World} {base n : Nat} {v : Value} {xs : List Value} (hown : wr.ownsRow base 5 1 v n xs) (hb : base ≤ wr.heap.size) (b : Int) (hn : n ≤ 4194304)
    (hs : a.eval s = v) (hx : a.eval x = .slice (some ⟨wr.heap.size, 0, none⟩) 1 1)
    (h : ∀ v' w', w'.ownsRow base 5 1 v' (n + 1) (xs ++ [.int .u8 b]) → Below base wr w' → wpList Try.prog ops Q rest (a.put o.dst v') w') : wpList Try.prog ops Q (o :: rest) a (wr.alloc (.cells #[.int .u8 b] 5)) := by
  obtain ⟨i0, hi, hz0, hz1, hz2⟩ := info_parts Try.info5
  refine wpList_append_own (P := Try.prog) (wr.alloc (.cells #[.int .u8 b] 5)) hgd s x 34 ho base 5 i0 (.int .u8 0) 1 1 Try.underlying34 hi hz0 hz1 hz2 rfl (by decide) v n xs hs (hown.alloc _)
    ⟨wr.heap.size, 0, none⟩ 1 1 [.int .u8 b] hx rfl (src_one wr b) (one_one b) (by unfold maxLen; omega) (by omega) (by simp; omega) ?_
  intro v' w' ho' hg _
  refine h v' w' ho' ?_
  refine ((Below.refl base wr).alloc hb _).grown hg (by simp; omega) ?_
  intro k hk
  exact (hown.lt k hk).1

/-- A row of N bytes whose first ones are p, the rest 0. -/
def rowOf (N : Nat) (p : List Int) : List Value := (p ++ List.replicate (N - p.length) 0).map (Value.int .u8)
theorem rowOf_len (N : Nat) (p : List Int) (h : p.length ≤ N) : (rowOf N p).length = N := by simp [rowOf]; omega
theorem rowOf_nil (N : Nat) : rowOf N [] = List.replicate N (.int .u8 0) := by simp [rowOf]
theorem rowOf_step (N : Nat) (p r : List Int) (h : p.length + r.length ≤ N) : splice (rowOf N p) p.length (r.map (Value.int .u8)) = rowOf N (p ++ r) := by
  unfold splice rowOf
  have e : List.replicate (N - p.length) (0 : Int) = List.replicate r.length 0 ++ List.replicate (N - (p ++ r).length) 0 := by
    rw [List.replicate_append_replicate]; congr 1; simp; omega
  rw [e]
  simp [List.drop_append]
/-- 'string(buf[:k])' of such a row. -/
theorem cv_pre {w : World} {g N k : Nat} {L : List Int} (h : w.heap[g]? = some (.cells (rowOf N L).toArray 5 (0, 0))) (hk : L.length = k) :
    (convert 34 9 (.slice (some ⟨g, 0, none⟩) k N)).run Try.prog w = .ok (.string (strOfNums L)) w := by
  refine run_convert_bytes_arg (P := Try.prog) w 34 5 Try.underlying34 Try.underlying5 g 0 k N L hk ?_ 9 Try.underlying9
  intro i hi
  have hi' : i < L.length := by omega
  simp only [World.cell?, h, rowOf]
  simp [List.getD, hi', List.getElem?_append]

theorem src_row (wr : World) (r : List Int) (j : Nat) (v : Value) (h : (r.map (Value.int .u8))[j]? = some v) : (wr.alloc (.cells (r.map (Value.int .u8)).toArray 5)).cell? ((⟨wr.heap.size, 0, none⟩ : Addr).add j) = some v := by
  have e : (⟨wr.heap.size, 0, none⟩ : Addr).add j = ⟨wr.heap.size, j, none⟩ := by unfold Addr.add; split <;> simp_all
  rw [e, cell_of_row _ _ _ _ _ _ (heap_alloc_new wr _)]
  rw [List.getElem?_toArray]
  exact h
theorem one_row (r : List Int) (v : Value) (h : v ∈ r.map (Value.int .u8)) : v.oneCell' = true := by
  simp at h
  obtain ⟨x, _, rfl⟩ := h
  rfl
/-- impl.putBehind on a row of the call's own, at the end of what is filled. -/
theorem put_row (g N B m : Nat) (p r : List Int) (w wr : World) (hm : r.length = m) (hm0 : 0 < m) (hfit : p.length + m ≤ N) (hN : N ≤ 4194304) (HR : Hid (wr.heap[g]? = some (.cells (rowOf N p).toArray 5 (0, 0)))) (hB : Below B w wr) (hBw : B ≤ wr.heap.size) (hBg : B ≤ g) :
    Calls Try.prog 19 #[.slice (some ⟨g, 0, none⟩) N N, .int .i64 p.length, .slice (some ⟨wr.heap.size, 0, none⟩) m m] (wr.alloc (.cells (r.map (Value.int .u8)).toArray 5))
      fun e w' => e = .returned (.int .i64 ((p.length : Int) + (m : Int))) ∧ Hid (w'.heap[g]? = some (.cells (rowOf N (p ++ r)).toArray 5 (0, 0))) ∧ Below B w w' := by
  have hg2 : (wr.alloc (.cells (r.map (Value.int .u8)).toArray 5)).heap[g]? = some (.cells (rowOf N p).toArray 5 (0, 0)) := by rw [Below.heap_alloc _ _ _ (lt_of_block HR.out)]; exact HR.out
  refine (put_any g N p.length (rowOf N p) ⟨wr.heap.size, 0, none⟩ m (r.map (Value.int .u8)) _ hg2 (rowOf_len _ _ (by omega)) hN (by simpa using hm) hm0 hfit (src_row wr r) (one_row r)).mono ?_
  rintro e w2 ⟨rfl, rfl⟩
  refine ⟨rfl, hide ?_, below_setRow (hB.alloc hBw _) hBg _⟩
  rw [← rowOf_step N p r (by omega)]
  exact setRow_heap _ _ _ _ _ _ hg2
theorem put1 (g N B : Nat) (p : List Int) (x : Int) (w wr : World) (hfit : p.length + 1 ≤ N) (hN : N ≤ 4194304) (HR : Hid (wr.heap[g]? = some (.cells (rowOf N p).toArray 5 (0, 0)))) (hB : Below B w wr) (hBw : B ≤ wr.heap.size) (hBg : B ≤ g) :
    Calls Try.prog 19 #[.slice (some ⟨g, 0, none⟩) N N, .int .i64 p.length, .slice (some ⟨wr.heap.size, 0, none⟩) 1 1] (wr.alloc (.cells #[.int .u8 x] 5))
      fun e w' => e = .returned (.int .i64 ((p.length : Int) + 1)) ∧ Hid (w'.heap[g]? = some (.cells (rowOf N (p ++ [x])).toArray 5 (0, 0))) ∧ Below B w w' :=
  put_row g N B 1 p [x] w wr rfl (by omega) hfit hN HR hB hBw hBg
theorem put2 (g N B : Nat) (p : List Int) (x y : Int) (w wr : World) (hfit : p.length + 2 ≤ N) (hN : N ≤ 4194304) (HR : Hid (wr.heap[g]? = some (.cells (rowOf N p).toArray 5 (0, 0)))) (hB : Below B w wr) (hBw : B ≤ wr.heap.size) (hBg : B ≤ g) :
    Calls Try.prog 19 #[.slice (some ⟨g, 0, none⟩) N N, .int .i64 p.length, .slice (some ⟨wr.heap.size, 0, none⟩) 2 2] (wr.alloc (.cells #[.int .u8 x, .int .u8 y] 5))
      fun e w' => e = .returned (.int .i64 ((p.length : Int) + 2)) ∧ Hid (w'.heap[g]? = some (.cells (rowOf N (p ++ [x, y])).toArray 5 (0, 0))) ∧ Below B w w' :=
  put_row g N B 2 p [x, y] w wr rfl (by omega) hfit hN HR hB hBw hBg

end Go.Proofs.Ytelfhodaahpggaj
