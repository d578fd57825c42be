/-
  Rows of structs: a slice whose elements are k cells each, read and owned; for every kind of element. Rows of records. spec.SumOf: the sum of records' texts, one behind the other. Rows of structs: one element put into its place; a slice of structs that comes in. Places in plain words, and rows of them. Batches in plain words: what a seal and a mark have for their own, whether they fit, which batches are sealed. spec.l9Recs, spec.l9Fits and spec.l9Of. Draws under some cursor; spec.l9Seal.
-/
import Derived.Test.YtphbinkkgmlnmaaGreatDoorG00
import Derived.Below
import Derived.Test.YtphbinkkgmlnmaaGreatDoorG02
import Derived.Test.YtphbinkkgmlnmaaGreatDoorG06
import Derived.Test.YtphbinkkgmlnmaaGreatDoorMShowSpec
import Derived.Maps.AppendAt
namespace Go.Proofs.YtphbinkkgmlnmaaGreatDoor
open Go.RowKit
open Plain

/-- How an element lies in memory: k cells. -/
structure Shape (α : Type) where
  cells : α → List Value
  k : Nat
  len : ∀ x, (cells x).length = k
  one : ∀ x, ∀ u ∈ cells x, u.oneCell' = true
  pos : 0 < k

def Shape.flat {α : Type} (S : Shape α) : List α → List Value
  | [] => []
  | x :: r => S.cells x ++ S.flat r
theorem Shape.flat_length {α : Type} (S : Shape α) (xs : List α) : (S.flat xs).length = xs.length * S.k := by
  induction xs with
  | nil => simp [Shape.flat]
  | cons x r ih => rw [Shape.flat, List.length_append, S.len, ih, List.length_cons, Nat.succ_mul]; omega
theorem Shape.flat_append {α : Type} (S : Shape α) (xs ys : List α) : S.flat (xs ++ ys) = S.flat xs ++ S.flat ys := by
  induction xs with
  | nil => rfl
  | cons x r ih => rw [List.cons_append, Shape.flat, ih, Shape.flat, List.append_assoc]
theorem Shape.flat_one {α : Type} (S : Shape α) (xs : List α) : ∀ u ∈ S.flat xs, u.oneCell' = true := by
  induction xs with
  | nil => intro u h; simp [Shape.flat] at h
  | cons x r ih =>
    intro u h
    rw [Shape.flat, List.mem_append] at h
    rcases h with h | h
    · exact S.one x u h
    · exact ih u h
theorem Shape.flat_get {α : Type} (S : Shape α) (xs : List α) : ∀ i (hi : i < xs.length) j, j < S.k → (S.flat xs)[i * S.k + j]? = (S.cells (xs[i]))[j]? := by
  induction xs with
  | nil => intro i hi; simp at hi
  | cons x r ih =>
    intro i hi j hj
    have hl := S.len x
    cases i with
    | zero =>
      rw [Shape.flat, Nat.zero_mul, Nat.zero_add, List.getElem?_append_left (by omega)]
      rfl
    | succ i =>
      rw [Shape.flat, List.getElem?_append_right (by rw [hl, Nat.succ_mul]; omega), hl]
      rw [show (i + 1) * S.k + j - S.k = i * S.k + j from by rw [Nat.succ_mul]; omega]
      exact ih i (by simpa using hi) j hj

/-- The slice (a, n, ..) shows these elements. -/
structure Shape.Row {α : Type} (S : Shape α) (w : World) (a : Option Addr) (n : Nat) (xs : List α) : Prop where
  len : xs.length = n
  cells : ∀ i, (hi : i < xs.length) → ∃ b off, a = some ⟨b, off, none⟩ ∧ b < w.heap.size ∧ ∀ j, j < S.k → w.cell? ⟨b, off + i * S.k + j, none⟩ = (S.cells (xs[i]))[j]?
theorem Shape.Row.later {α : Type} {S : Shape α} {w w' : World} {a : Option Addr} {n : Nat} {xs : List α} (h : S.Row w a n xs) (hb : Below w.heap.size w w') : S.Row w' a n xs where
  len := h.len
  cells := fun i hi => by
    obtain ⟨b, off, h1, h2, h3⟩ := h.cells i hi
    exact ⟨b, off, h1, Nat.lt_of_lt_of_le h2 hb.size, fun j hj => by rw [hb.cell (p := ⟨b, off + i * S.k + j, none⟩) h2]; exact h3 j hj⟩
theorem addr_add' (b off j : Nat) : (⟨b, off, none⟩ : Addr).add j = ⟨b, off + j, none⟩ := by unfold Addr.add; split <;> simp_all
theorem Shape.Row.src {α : Type} {S : Shape α} {w : World} {ad : Addr} {n : Nat} {xs : List α} (h : S.Row w (some ad) n xs) : ∀ j u, (S.flat xs)[j]? = some u → w.cell? (ad.add j) = some u := by
  intro j u hj
  have hk := S.pos
  have hjl : j < xs.length * S.k := by
    have := (List.getElem?_eq_some_iff.1 hj).1
    rw [S.flat_length] at this
    exact this
  have hi : j / S.k < xs.length := (Nat.div_lt_iff_lt_mul hk).2 hjl
  have hm : j % S.k < S.k := Nat.mod_lt _ hk
  have hd : j / S.k * S.k + j % S.k = j := by rw [Nat.mul_comm]; exact Nat.div_add_mod j S.k
  obtain ⟨b, off, e, _, c⟩ := h.cells (j / S.k) hi
  injection e with e
  subst e
  have h1 := S.flat_get xs (j / S.k) hi (j % S.k) hm
  rw [hd, hj] at h1
  have h2 := c (j % S.k) hm
  rw [addr_add', show off + j = off + j / S.k * S.k + j % S.k from by omega, h2, ← h1]

/-- The slice v shows these elements; they lie in a row of the call's own, from block base on. -/
def Shape.Own {α : Type} (S : Shape α) (T : TypeId) (w : World) (base : Nat) (v : Value) (xs : List α) : Prop := w.ownsRow base T S.k v xs.length (S.flat xs)
theorem Shape.Own.len {α : Type} {S : Shape α} {T : TypeId} {w : World} {base : Nat} {a : Option Addr} {n cap : Nat} {xs : List α} (h : S.Own T w base (.slice a n cap) xs) : xs.length = n := by
  rcases h.2 with ⟨e, h0⟩ | ⟨g, c, cur, e, _⟩
  · simp only [Value.slice.injEq] at e; omega
  · simp only [Value.slice.injEq] at e; omega
theorem Shape.Own.blk {α : Type} {S : Shape α} {T : TypeId} {w : World} {base : Nat} {v : Value} {xs : List α} (h : S.Own T w base v xs) : ∀ g, v.ownBlock = some g → base ≤ g ∧ g < w.heap.size := World.ownsRow.lt h
theorem Shape.Own.row {α : Type} {S : Shape α} {T : TypeId} {w : World} {base : Nat} {a : Option Addr} {n cap : Nat} {xs : List α} (h : S.Own T w base (.slice a n cap) xs) : S.Row w a n xs where
  len := h.len
  cells := fun i hi => by
    have hn := h.len
    have hfl := S.flat_length xs
    unfold Shape.Own at h
    rw [hn] at h
    rcases h.2 with ⟨e, h0⟩ | ⟨g, c, cur, e, hb, hg, _⟩
    · omega
    · simp only [Value.slice.injEq] at e
      obtain ⟨rfl, _, rfl⟩ := e
      have hgl : g < w.heap.size := by
        rcases Nat.lt_or_ge g w.heap.size with h' | h'
        · exact h'
        · rw [Array.getElem?_eq_none h'] at hg; cases hg
      refine ⟨g, 0, rfl, hgl, fun j hj => ?_⟩
      have hlt : i * S.k + j < n * S.k := by
        have : (i + 1) * S.k ≤ n * S.k := Nat.mul_le_mul_right _ (by omega)
        rw [Nat.succ_mul] at this
        omega
      have hget := S.flat_get xs i hi j hj
      have hj2 : j < (S.cells (xs[i])).length := by rw [S.len]; exact hj
      rw [Nat.zero_add, h.cellAt _ (by omega), hget, List.getElem?_eq_getElem hj2]
theorem Shape.Own.later {α : Type} {S : Shape α} {T : TypeId} {w w' : World} {base K : Nat} {v : Value} {xs : List α} (h : S.Own T w base v xs) (hb : Below K w w') (hK : w.heap.size ≤ K) : S.Own T w' base v xs := by
  refine ⟨h.1, ?_⟩
  rcases h.2 with h | ⟨g, c, cur, e, hbg, hg, h1⟩
  · exact .inl h
  · have hgl : g < w.heap.size := by
      rcases Nat.lt_or_ge g w.heap.size with h' | h'
      · exact h'
      · rw [Array.getElem?_eq_none h'] at hg; cases hg
    exact .inr ⟨g, c, cur, e, hbg, by rw [hb.block g (by omega)]; exact hg, h1⟩
theorem Shape.Own.mono {α : Type} {S : Shape α} {T : TypeId} {w : World} {base base' : Nat} {v : Value} {xs : List α} (h : S.Own T w base v xs) (hb : base' ≤ base) : S.Own T w base' v xs := by
  refine ⟨h.1, ?_⟩
  rcases h.2 with h | ⟨g, c, cur, e, hbg, h1⟩
  · exact .inl h
  · exact .inr ⟨g, c, cur, e, Nat.le_trans hb hbg, h1⟩
/-- Another block is written. -/
theorem Shape.Own.setNe {α : Type} {S : Shape α} {T : TypeId} {w : World} {base : Nat} {v : Value} {xs : List α} (h : S.Own T w base v xs) (p : Addr) (u : Value) (hp : v.ownBlock ≠ some p.block) : S.Own T (w.setCell p u) base v xs := by
  refine ⟨h.1, ?_⟩
  rcases h.2 with h | ⟨g, c, cur, e, hbg, hg, h1⟩
  · exact .inl h
  · refine .inr ⟨g, c, cur, e, hbg, ?_, h1⟩
    rw [Below.heap_setCell w p u g (by intro q; apply hp; rw [e, ← q]; rfl)]
    exact hg
theorem Shape.Own.setCell {α : Type} {S : Shape α} {T : TypeId} {w : World} {base : Nat} {v : Value} {xs : List α} (h : S.Own T w base v xs) (p : Addr) (u : Value) (hp : p.block < base) : S.Own T (w.setCell p u) base v xs :=
  h.setNe p u (fun e => by have := (h.blk _ e).1; omega)
/-- What is drawn from the cursor leaves rows behind it alone. -/
theorem Shape.Own.grownB {α : Type} {S : Shape α} {T : TypeId} {w w' : World} {base B : Nat} {v : Value} {xs : List α} (h : S.Own T w base v xs) (hg : w.grownBy w' (some B)) (hB : B < base) : S.Own T w' base v xs := by
  refine World.ownsRow.kept h hg ?_
  cases e : v.ownBlock with
  | none => exact .inl rfl
  | some g => exact .inr (fun q => by injection q with q; have := (h.blk g e).1; omega)
/-- An empty row that the call has laid. -/
theorem Shape.Own.empty {α : Type} (S : Shape α) (T : TypeId) (w : World) : S.Own T (w.alloc (.cells #[] T)) w.heap.size (.slice (some ⟨w.heap.size, 0, none⟩) 0 0) [] :=
  ⟨by simp [Shape.flat], .inr ⟨w.heap.size, 0, #[], rfl, Nat.le_refl _, heap_alloc_new w _, Nat.le_refl _, by unfold maxLen; omega, by simp, by simp [Shape.flat]⟩⟩
theorem Shape.Own.nil {α : Type} (S : Shape α) (T : TypeId) (w : World) (base : Nat) : S.Own T w base (.slice none 0 0) [] := ⟨by simp [Shape.flat], .inl ⟨rfl, rfl⟩⟩
/-- One element in a new block, as a row. -/
theorem Shape.Row.single {α : Type} (S : Shape α) (T : TypeId) (w : World) (x : α) : S.Row (w.alloc (.cells (S.cells x).toArray T)) (some ⟨w.heap.size, 0, none⟩) 1 [x] where
  len := rfl
  cells := fun i hi => by
    obtain rfl : i = 0 := by simp at hi; omega
    refine ⟨w.heap.size, 0, rfl, by simp, fun j hj => ?_⟩
    rw [cell_of_row _ _ _ _ _ _ (heap_alloc_new w _)]
    simp

/-- 'out = append(out, ys...)', out a row of the call's own: a law for the walk. -/
theorem Shape.wpList_app {P : Program} {α : Type} (S : Shape α) {ops : Array Oper} {rest : List Oper} {o : Oper} {act : Act} {Q : Exit → Act → World → Prop} (hgd : o.guard = none) (s x : Operand) (ST T : TypeId)
    (ho : o.op = .call { callee := .builtin .append, args := #[s, x], argTypes := #[ST, ST] }) {i0 : TypeInfo} {z : Value} {bytes : Nat} (hu : P.underlying ST = some (.slice T)) (hi : P.info? T = some i0) (hz0 : i0.zero = some z) (hz1 : i0.size = S.k) (hz2 : i0.bytes = bytes) (hzs : z.cells.size = S.k) (hby : bytes ≤ 128)
    {w : World} {base : Nat} {v : Value} {xs ys : List α} (hown : S.Own T w base v xs) (hb : base ≤ w.heap.size) {ad : Addr} {m c : Nat} (hr : S.Row w (some ad) m ys) (hn : xs.length + m ≤ 1099511627776)
    (hs : act.eval s = v) (hx : act.eval x = .slice (some ad) m c)
    (h : ∀ a' n' cap' w', n' = xs.length + m → S.Own T w' base (.slice a' n' cap') (xs ++ ys) → w.grownBy w' v.ownBlock → wpList P ops Q rest (act.put o.dst (.slice a' n' cap')) w') : wpList P ops Q (o :: rest) act w := by
  have hm := hr.len
  have hmul : (xs.length + m) * bytes ≤ 140737488355328 := Nat.le_trans (Nat.mul_le_mul hn hby) (by decide)
  refine wpList_append_own (P := P) w hgd s x ST ho base T i0 z S.k bytes hu hi hz0 hz1 hz2 hzs S.pos v xs.length (S.flat xs) hs hown
    ad m c (S.flat ys) hx (by rw [S.flat_length, hm]) hr.src (S.flat_one ys) (by unfold maxLen; omega) hmul hb ?_
  intro v' w' ho' hg _
  have hval : ∃ a' cap', v' = .slice a' (xs.length + m) cap' := by
    rcases ho'.2 with ⟨e, h0⟩ | ⟨g, cap, cur, e, _⟩
    · exact ⟨none, 0, by rw [e, h0]⟩
    · exact ⟨_, _, e⟩
  obtain ⟨a', cap', rfl⟩ := hval
  refine h a' _ cap' w' rfl ?_ hg
  unfold Shape.Own
  rw [List.length_append, hm, S.flat_append]
  exact ho'

end Go.Proofs.YtphbinkkgmlnmaaGreatDoor
namespace Go.Proofs.YtphbinkkgmlnmaaGreatDoor
open Go.RowKit
open Plain

def recSh : Shape RecV where
  cells := fun r => [.int .i64 r.kind, .int .i64 r.batch, .string r.key, .string r.val, .int .i64 r.cnt, .int .i64 r.sum]
  k := 6
  len := fun _ => rfl
  one := fun r u h => by
    simp only [List.mem_cons, List.not_mem_nil, or_false] at h
    rcases h with rfl | rfl | rfl | rfl | rfl | rfl <;> rfl
  pos := by decide
theorem Tryz.infoRec : (Tryz.prog.info? 35).map (fun i => (i.zero, i.size, i.bytes)) = some (some (.agg #[.int .i64 0, .int .i64 0, .string ⟨#[]⟩, .string ⟨#[]⟩, .int .i64 0, .int .i64 0]), 6, 64) := by kernel_rfl

/-- 'l = append(l, r)', l a row of records of the call's own, r in a new block. -/
theorem wpList_app_rec {ops : Array Oper} {rest : List Oper} {o : Oper} {act : Act} {Q : Exit → Act → World → Prop} (hgd : o.guard = none) (s x : Operand)
    (ho : o.op = .call { callee := .builtin .append, args := #[s, x], argTypes := #[83, 83] }) {w : World} {base : Nat} {v : Value} {xs : List RecV} (r : RecV) (hown : recSh.Own 35 w base v xs) (hb : base ≤ w.heap.size) (hn : xs.length ≤ 1099511627775)
    {N : Nat} (hs : act.eval s = v) (hx : act.eval x = .slice (some ⟨N, 0, none⟩) 1 1) (hN : w.heap.size = N)
    (h : ∀ a' n' cap' w', n' = xs.length + 1 → recSh.Own 35 w' base (.slice a' n' cap') (xs ++ [r]) → Below base w w' → wpList Tryz.prog ops Q rest (act.put o.dst (.slice a' n' cap')) w') :
    wpList Tryz.prog ops Q (o :: rest) act (w.alloc (.cells #[.int .i64 r.kind, .int .i64 r.batch, .string r.key, .string r.val, .int .i64 r.cnt, .int .i64 r.sum] 35)) := by
  subst hN
  obtain ⟨i0, hi, hz0, hz1, hz2⟩ := info_parts Tryz.infoRec
  have hA : Below w.heap.size w (w.alloc (.cells (recSh.cells r).toArray 35)) := (Below.refl _ _).alloc (Nat.le_refl _) _
  refine recSh.wpList_app (P := Tryz.prog) hgd s x 83 35 ho Tryz.underlying83 hi hz0 hz1 hz2 rfl (by decide) (hown.later hA (Nat.le_refl _)) (Nat.le_trans hb hA.size) (Shape.Row.single recSh 35 w r) (by omega) hs hx ?_
  intro a' n' cap' w' hn' ho' hg
  refine h a' n' cap' w' hn' ho' ?_
  refine (hA.mono hb).trans ?_
  exact (Below.refl _ _).grown hg (Nat.le_trans hb hA.size) (fun g hg => (hown.blk g hg).1)

end Go.Proofs.YtphbinkkgmlnmaaGreatDoor
namespace Go.Proofs.YtphbinkkgmlnmaaGreatDoor
open Go.RowKit
open Plain

/-- The texts of records, one behind the other. -/
def cat (xs : List RecV) : ByteArray := xs.foldl (fun s r => s ++ showS r) ⟨#[]⟩
theorem cat_succ (xs : List RecV) (k : Nat) (h : k < xs.length) : cat (xs.take (k + 1)) = cat (xs.take k) ++ showS (xs[k]) := by
  unfold cat
  rw [List.take_succ_eq_append_getElem h, List.foldl_append]
  rfl
theorem show_size' (r : RecV) : (showS r).size ≤ 60 := by
  cases h : recOkB r with
  | false => rw [show_none r h]; exact Nat.zero_le _
  | true =>
    obtain ⟨k, b, key, val, c, s⟩ := r
    have hok : RecOkP k b key.size val.size c s := okN_iff.1 h
    have e : showS ⟨k, b, key, val, c, s⟩ = varS k ++ varS b ++ bodyS k key val c s := if_pos h
    have z1 := varS_size k
    have z2 := varS_size b
    have z3 := textS_size key
    have z4 := textS_size val
    have z5 := totS_size c s
    rw [e, ByteArray.size_append, ByteArray.size_append]
    unfold RecOkP at hok
    unfold bodyS
    split
    · rw [ByteArray.size_append]; omega
    · split
      · omega
      · omega
theorem cat_size (xs : List RecV) (k : Nat) (h : k ≤ xs.length) : (cat (xs.take k)).size ≤ 60 * k := by
  induction k with
  | zero => exact Nat.zero_le _
  | succ k ih =>
    rw [cat_succ xs k (by omega), ByteArray.size_append]
    have := show_size' (xs[k])
    have := ih (by omega)
    omega
theorem rec_cells {w : World} {a : Option Addr} {n : Nat} {xs : List RecV} (h : recSh.Row w a n xs) (i : Nat) (hi : i < xs.length) : ∃ b off, a = some ⟨b, off, none⟩ ∧ b < w.heap.size ∧
    w.cell? ⟨b, off + i * 6, none⟩ = some (.int .i64 (xs[i]).kind) ∧ w.cell? ⟨b, off + i * 6 + 1, none⟩ = some (.int .i64 (xs[i]).batch) ∧ w.cell? ⟨b, off + i * 6 + 2, none⟩ = some (.string (xs[i]).key) ∧ w.cell? ⟨b, off + i * 6 + 3, none⟩ = some (.string (xs[i]).val) ∧ w.cell? ⟨b, off + i * 6 + 4, none⟩ = some (.int .i64 (xs[i]).cnt) ∧ w.cell? ⟨b, off + i * 6 + 5, none⟩ = some (.int .i64 (xs[i]).sum) := by
  obtain ⟨b, off, h1, h2, h3⟩ := h.cells i hi
  exact ⟨b, off, h1, h2, h3 0 (by decide), h3 1 (by decide), h3 2 (by decide), h3 3 (by decide), h3 4 (by decide), h3 5 (by decide)⟩

set_option maxRecDepth 100000 in
set_option maxHeartbeats 2000000 in
theorem specSumOf_any (w : World) (a : Option Addr) (n cap : Nat) (xs : List RecV) (hr : recSh.Row w a n xs) (hn : n ≤ 1048576) (hv : ∀ i, (h : i < xs.length) → (xs[i]).val.size ≤ maxLen) :
    Calls Tryz.prog 49 #[.slice a n cap] w fun e w' => e = .returned (.int .i64 (crcN (cat xs) : Nat)) ∧ Below w.heap.size w w' := by
  have HR := hide hr
  have hlen := hr.len
  have HV := hide hv
  clear hr hv
  go_enter Tryz.func49, Tryz.ntmps49
  go_wp2
  go_loopw [3, 4] (fun v x wr => ∃ k : Nat, k ≤ n ∧ v = .string (cat (xs.take k)) ∧ x = .int .i64 k ∧ Hid (Below w.heap.size w wr)) (fun _ x _ => n - (intOf x).toNat)
  case atStart => exact ⟨0, by omega, rfl, rfl, hide (Below.refl _ _)⟩
  case round =>
    obtain ⟨k, hk, rfl, rfl, HB⟩ := hrel
    have hcs := cat_size xs k (by omega)
    by_cases hlt : k < n
    · have hkx : k < xs.length := by omega
      obtain ⟨b, off, rfl, hbw, c0, c1, c2, c3, c4, c5⟩ := rec_cells (HR.out.later HB.out) k hkx
      have HSH := hide (specShow_any (xs[k]) (HV.out k hkx))
      have h60 := show_size' (xs[k])
      have HC : Hid (cat (xs.take (k + 1)) = cat (xs.take k) ++ showS (xs[k])) := hide (cat_succ xs k hkx)
      have z1 : ¬ 9223372036854775807 < (cat (xs.take k)).size + (showS (xs[k])).size := by omega
      generalize showS (xs[k]) = S at *
      generalize cat (xs.take k) = A at *
      have hk2 : (k : Int) < (n : Int) := by omega
      go_wp2_with fail
      refine (HSH.out _).mono ?_
      rintro e w1 ⟨rfl, hb1⟩
      have HB1 := hide (HB.out.trans (hb1.mono HB.out.size))
      clear hb1 HB HSH c0 c1 c2 c3 c4 c5
      go_wp2
      go_roundw
      case rel => exact ⟨k + 1, by omega, by rw [HC.out], by go_num, HB1⟩
      case measure => first | (simp [intOf]; done) | (simp [intOf]; omega)
    · obtain rfl : k = n := by omega
      have HE : Hid (cat (xs.take k) = cat xs) := hide (by rw [List.take_of_length_le (by omega)])
      have HC := hide (specCrc_ans (cat (xs.take k)) (by omega))
      rw [HE.out] at HC
      go_wp2_with fail
      rw [HE.out]
      refine (HC.out _).mono ?_
      rintro e w1 ⟨rfl, hb1⟩
      have HB1 := hide (HB.out.trans (hb1.mono HB.out.size))
      clear hb1 HB HC
      go_wp2
      go_ret
      exact ⟨rfl, HB1.out⟩

end Go.Proofs.YtphbinkkgmlnmaaGreatDoor
namespace Go.Proofs.YtphbinkkgmlnmaaGreatDoor
open Go.RowKit
open Plain

def setL (l : List Value) (p : Nat) : List Value → List Value
  | [] => l
  | v :: r => setL (l.set p v) (p + 1) r
def putL (w : World) (g p : Nat) : List Value → World
  | [] => w
  | v :: r => putL (w.setCell ⟨g, p, none⟩ v) g (p + 1) r
theorem setL_behind (vs : List Value) : ∀ (pre l : List Value) (p : Nat), setL (pre ++ l) (pre.length + p) vs = pre ++ setL l p vs := by
  induction vs with
  | nil => intro pre l p; rfl
  | cons v r ih =>
    intro pre l p
    rw [setL, setL, List.set_append_right _ _ (by omega), show pre.length + p - pre.length = p from by omega]
    exact ih pre (l.set p v) (p + 1)
theorem setL_head (vs : List Value) : ∀ (ys zs : List Value), ys.length = vs.length → setL (ys ++ zs) 0 vs = vs ++ zs := by
  induction vs with
  | nil => intro ys zs h; simp at h; subst h; rfl
  | cons v r ih =>
    intro ys zs h
    cases ys with
    | nil => simp at h
    | cons a ys =>
      rw [setL, List.cons_append, List.set_cons_zero]
      have e := setL_behind r [v] (ys ++ zs) 0
      rw [List.length_singleton, List.singleton_append, Nat.add_zero] at e
      rw [Nat.zero_add, e, ih ys zs (by simpa using h)]
      rfl
theorem Shape.flat_set {α : Type} (S : Shape α) (xs : List α) (x : α) : ∀ i, i < xs.length → setL (S.flat xs) (i * S.k) (S.cells x) = S.flat (xs.set i x) := by
  induction xs with
  | nil => intro i h; simp at h
  | cons a r ih =>
    intro i h
    cases i with
    | zero =>
      rw [Shape.flat, Nat.zero_mul, setL_head _ _ _ (by rw [S.len, S.len]), List.set_cons_zero, Shape.flat]
    | succ i =>
      have e := setL_behind (S.cells x) (S.cells a) (S.flat r) (i * S.k)
      rw [S.len] at e
      rw [Shape.flat, Nat.succ_mul, Nat.add_comm (i * S.k), e, ih i (by simpa using h), List.set_cons_succ, Shape.flat]
theorem gchain {a b c : World} {r : Option Nat} (h : a.grownBy b r) (k : b.grownBy c r) : a.grownBy c r :=
  ⟨k.os.trans h.os, k.tape.trans h.tape, k.output.trans h.output, Nat.le_trans h.size k.size, fun i hi hr => (k.block i (Nat.lt_of_lt_of_le hi h.size) hr).trans (h.block i hi hr)⟩
theorem putL_own {base T sz g n cap : Nat} (vs : List Value) : ∀ (w : World) (l : List Value) (p : Nat), w.ownsRow base T sz (.slice (some ⟨g, 0, none⟩) n cap) n l → (putL w g p vs).ownsRow base T sz (.slice (some ⟨g, 0, none⟩) n cap) n (setL l p vs) ∧ w.grownBy (putL w g p vs) (some g) := by
  induction vs with
  | nil => intro w l p h; exact ⟨h, ⟨rfl, rfl, rfl, Nat.le_refl _, fun _ _ _ => rfl⟩⟩
  | cons v r ih =>
    intro w l p h
    have h1 := h.stored p v
    have h2 := ih _ _ (p + 1) h1.1
    exact ⟨h2.1, gchain h1.2 h2.2⟩
theorem Shape.Own.put {α : Type} {S : Shape α} {T : TypeId} {w : World} {base g n cap : Nat} {xs : List α} (h : S.Own T w base (.slice (some ⟨g, 0, none⟩) n cap) xs) (i : Nat) (x : α) (hi : i < n) :
    S.Own T (putL w g (i * S.k) (S.cells x)) base (.slice (some ⟨g, 0, none⟩) n cap) (xs.set i x) ∧ w.grownBy (putL w g (i * S.k) (S.cells x)) (some g) := by
  have hn := h.len
  unfold Shape.Own at h ⊢
  rw [hn] at h
  have h1 := putL_own (S.cells x) w (S.flat xs) (i * S.k) h
  rw [List.length_set, hn, ← S.flat_set xs x i (by omega)]
  exact h1
theorem Shape.Own.frz {α : Type} {S : Shape α} {T : TypeId} {w : World} {base g n cap : Nat} {xs : List α} (h : S.Own T w base (.slice (some ⟨g, 0, none⟩) n cap) xs) (j : Nat) : w.frozen? ⟨g, j, none⟩ = false := by
  have hn := h.len
  unfold Shape.Own at h
  rw [hn] at h
  exact h.frozenAt j
/-- A row of n zeros, flat. -/
theorem Shape.flat_made {α : Type} (S : Shape α) (x : α) (n : Nat) : S.flat (List.replicate n x) = (madeCells (S.cells x).toArray (n * S.k)).toList := by
  have hk := S.pos
  apply List.ext_getElem?
  intro j
  by_cases hj : j < n * S.k
  · have hi : j / S.k < (List.replicate n x).length := by rw [List.length_replicate]; exact (Nat.div_lt_iff_lt_mul hk).2 hj
    have hm : j % S.k < S.k := Nat.mod_lt _ hk
    have hg := S.flat_get (List.replicate n x) (j / S.k) hi (j % S.k) hm
    have hd : j / S.k * S.k + j % S.k = j := by rw [Nat.mul_comm]; exact Nat.div_add_mod j S.k
    rw [hd, List.getElem_replicate] at hg
    rw [hg]
    have hl : j % S.k < (S.cells x).length := by rw [S.len]; exact hm
    simp [madeCells, hj, S.len, List.getElem?_eq_getElem hl]
  · rw [List.getElem?_eq_none (by rw [S.flat_length, List.length_replicate]; omega), List.getElem?_eq_none (by simp [madeCells]; omega)]
theorem take_set_succ' {α : Type} (gs fs : List α) (k : Nat) (hk : k < fs.length) (hg : k < gs.length) (h : gs.take k = fs.take k) : (gs.set k (fs[k])).take (k + 1) = fs.take (k + 1) := by
  rw [List.take_succ_eq_append_getElem (by rw [List.length_set]; exact hg), List.take_succ_eq_append_getElem hk, List.take_set_of_le (Nat.le_refl _), h]
  simp

end Go.Proofs.YtphbinkkgmlnmaaGreatDoor
namespace Go.Proofs.YtphbinkkgmlnmaaGreatDoor
open Go.RowKit
open Plain

/-- A record, and where it stands. -/
structure PlaceV where
  seg : Int
  pos : Int
  len : Int
  r : RecV
theorem PlaceV.ext' {p q : PlaceV} (h1 : p.seg = q.seg) (h2 : p.pos = q.pos) (h3 : p.len = q.len) (h4 : p.r = q.r) : p = q := by
  cases p; cases q; simp_all
def plSh : Shape PlaceV where
  cells := fun p => [.int .i64 p.seg, .int .i64 p.pos, .int .i64 p.len, .int .i64 p.r.kind, .int .i64 p.r.batch, .string p.r.key, .string p.r.val, .int .i64 p.r.cnt, .int .i64 p.r.sum]
  k := 9
  len := fun _ => rfl
  one := fun r u h => by
    simp only [List.mem_cons, List.not_mem_nil, or_false] at h
    rcases h with rfl | rfl | rfl | rfl | rfl | rfl | rfl | rfl | rfl <;> rfl
  pos := by decide
def zeroP : PlaceV := ⟨0, 0, 0, ⟨0, 0, ⟨#[]⟩, ⟨#[]⟩, 0, 0⟩⟩
def PlaceV.val (p : PlaceV) : Value := .agg #[.int .i64 p.seg, .int .i64 p.pos, .int .i64 p.len, .int .i64 p.r.kind, .int .i64 p.r.batch, .string p.r.key, .string p.r.val, .int .i64 p.r.cnt, .int .i64 p.r.sum]
theorem Tryz.infoPlace : (Tryz.prog.info? 37).map (fun i => (i.zero, i.size, i.bytes)) = some (some (.agg #[.int .i64 0, .int .i64 0, .int .i64 0, .int .i64 0, .int .i64 0, .string ⟨#[]⟩, .string ⟨#[]⟩, .int .i64 0, .int .i64 0]), 9, 88) := by kernel_rfl

theorem pl_cells {w : World} {a : Option Addr} {n : Nat} {xs : List PlaceV} (h : plSh.Row w a n xs) (i : Nat) (hi : i < xs.length) : ∃ b off, a = some ⟨b, off, none⟩ ∧ b < w.heap.size ∧
    w.cell? ⟨b, off + i * 9, none⟩ = some (.int .i64 (xs[i]).seg) ∧ w.cell? ⟨b, off + i * 9 + 1, none⟩ = some (.int .i64 (xs[i]).pos) ∧ w.cell? ⟨b, off + i * 9 + 2, none⟩ = some (.int .i64 (xs[i]).len) ∧ w.cell? ⟨b, off + i * 9 + 3, none⟩ = some (.int .i64 (xs[i]).r.kind) ∧ w.cell? ⟨b, off + i * 9 + 4, none⟩ = some (.int .i64 (xs[i]).r.batch) ∧ w.cell? ⟨b, off + i * 9 + 5, none⟩ = some (.string (xs[i]).r.key) ∧ w.cell? ⟨b, off + i * 9 + 6, none⟩ = some (.string (xs[i]).r.val) ∧ w.cell? ⟨b, off + i * 9 + 7, none⟩ = some (.int .i64 (xs[i]).r.cnt) ∧ w.cell? ⟨b, off + i * 9 + 8, none⟩ = some (.int .i64 (xs[i]).r.sum) := by
  obtain ⟨b, off, h1, h2, h3⟩ := h.cells i hi
  exact ⟨b, off, h1, h2, h3 0 (by decide), h3 1 (by decide), h3 2 (by decide), h3 3 (by decide), h3 4 (by decide), h3 5 (by decide), h3 6 (by decide), h3 7 (by decide), h3 8 (by decide)⟩

/-- 'out = append(out, p)', out a row of places of the call's own, p in a new block; and where the row now lies. -/
theorem wpList_app_pl_at {ops : Array Oper} {rest : List Oper} {o : Oper} {act : Act} {Q : Exit → Act → World → Prop} (hgd : o.guard = none) (s x : Operand)
    (ho : o.op = .call { callee := .builtin .append, args := #[s, x], argTypes := #[27, 27] }) {w : World} {base : Nat} {v : Value} {xs : List PlaceV} (p : PlaceV) (hown : plSh.Own 37 w base v xs) (hb : base ≤ w.heap.size) (hn : xs.length ≤ 1099511627775)
    {N : Nat} (hs : act.eval s = v) (hx : act.eval x = .slice (some ⟨N, 0, none⟩) 1 1) (hN : w.heap.size = N)
    (h : ∀ a' n' cap' w', n' = xs.length + 1 → plSh.Own 37 w' base (.slice a' n' cap') (xs ++ [p]) → w.grownBy w' v.ownBlock → ((Value.slice a' n' cap').ownBlock = v.ownBlock ∨ ∃ g, (Value.slice a' n' cap').ownBlock = some g ∧ w.heap.size ≤ g) → wpList Tryz.prog ops Q rest (act.put o.dst (.slice a' n' cap')) w') :
    wpList Tryz.prog ops Q (o :: rest) act (w.alloc (.cells #[.int .i64 p.seg, .int .i64 p.pos, .int .i64 p.len, .int .i64 p.r.kind, .int .i64 p.r.batch, .string p.r.key, .string p.r.val, .int .i64 p.r.cnt, .int .i64 p.r.sum] 37)) := by
  subst hN
  obtain ⟨i0, hi, hz0, hz1, hz2⟩ := info_parts Tryz.infoPlace
  have hA : Below w.heap.size w (w.alloc (.cells (plSh.cells p).toArray 37)) := (Below.refl _ _).alloc (Nat.le_refl _) _
  have hgA : w.grownBy (w.alloc (.cells (plSh.cells p).toArray 37)) v.ownBlock := ⟨hA.os, hA.tape, hA.output, hA.size, fun k hk _ => hA.block k hk⟩
  have ho1 : (w.alloc (.cells (plSh.cells p).toArray 37)).ownsRow base 37 9 v xs.length (plSh.flat xs) := hown.later hA (Nat.le_refl _)
  have hmul : (xs.length + 1) * 88 ≤ 140737488355328 := by omega
  refine wpList_append_own_at (P := Tryz.prog) (w.alloc (.cells (plSh.cells p).toArray 37)) hgd s x 27 ho base 37 i0 _ 9 88 Tryz.underlying27 hi hz0 hz1 hz2 rfl (by decide) v xs.length (plSh.flat xs) hs ho1 ⟨w.heap.size, 0, none⟩ 1 1 (plSh.flat [p]) hx rfl (Shape.Row.single plSh 37 w p).src (plSh.flat_one [p]) (by unfold maxLen; omega) hmul (Nat.le_trans hb hA.size) ?_
  intro v' w' ho' hg _ hat
  have hval : ∃ a' cap', v' = .slice a' (xs.length + 1) cap' := by
    rcases ho'.2 with ⟨e, h0⟩ | ⟨g, cap, cur, e, _⟩
    · exact ⟨none, 0, by rw [e, h0]⟩
    · exact ⟨_, _, e⟩
  obtain ⟨a', cap', rfl⟩ := hval
  refine h a' _ cap' w' rfl ?_ (gchain hgA hg) (hat.imp id (fun e => ⟨_, e, hA.size⟩))
  unfold Shape.Own
  rw [List.length_append, plSh.flat_append]
  exact ho'
/-- The same, and no more than that what was there stands. -/
theorem wpList_app_pl {ops : Array Oper} {rest : List Oper} {o : Oper} {act : Act} {Q : Exit → Act → World → Prop} (hgd : o.guard = none) (s x : Operand)
    (ho : o.op = .call { callee := .builtin .append, args := #[s, x], argTypes := #[27, 27] }) {w : World} {base : Nat} {v : Value} {xs : List PlaceV} (p : PlaceV) (hown : plSh.Own 37 w base v xs) (hb : base ≤ w.heap.size) (hn : xs.length ≤ 1099511627775)
    {N : Nat} (hs : act.eval s = v) (hx : act.eval x = .slice (some ⟨N, 0, none⟩) 1 1) (hN : w.heap.size = N)
    (h : ∀ a' n' cap' w', n' = xs.length + 1 → plSh.Own 37 w' base (.slice a' n' cap') (xs ++ [p]) → Below base w w' → wpList Tryz.prog ops Q rest (act.put o.dst (.slice a' n' cap')) w') :
    wpList Tryz.prog ops Q (o :: rest) act (w.alloc (.cells #[.int .i64 p.seg, .int .i64 p.pos, .int .i64 p.len, .int .i64 p.r.kind, .int .i64 p.r.batch, .string p.r.key, .string p.r.val, .int .i64 p.r.cnt, .int .i64 p.r.sum] 37)) :=
  wpList_app_pl_at hgd s x ho p hown hb hn hs hx hN (fun a' n' cap' w' hn' ho' hg _ => h a' n' cap' w' hn' ho' ((Below.refl _ _).grown hg hb (fun g hg => (hown.blk g hg).1)))

theorem cells9 {w : World} {B : Nat} {x0 x1 x2 x3 x4 x5 x6 x7 x8 : Value} {ty : TypeId} (h : w.heap[B]? = some (.cells #[x0, x1, x2, x3, x4, x5, x6, x7, x8] ty (0, 0))) :
    w.cell? ⟨B, 0, none⟩ = some x0 ∧ w.cell? ⟨B, 1, none⟩ = some x1 ∧ w.cell? ⟨B, 2, none⟩ = some x2 ∧ w.cell? ⟨B, 3, none⟩ = some x3 ∧ w.cell? ⟨B, 4, none⟩ = some x4 ∧ w.cell? ⟨B, 5, none⟩ = some x5 ∧ w.cell? ⟨B, 6, none⟩ = some x6 ∧ w.cell? ⟨B, 7, none⟩ = some x7 ∧ w.cell? ⟨B, 8, none⟩ = some x8 := by
  refine ⟨?_, ?_, ?_, ?_, ?_, ?_, ?_, ?_, ?_⟩ <;> rw [cell_of_row w B _ _ _ _ h] <;> rfl
/-- Block B is a place of the call's own. -/
def Blk9 (T : TypeId) (w : World) (B : Nat) (p : PlaceV) : Prop := w.heap[B]? = some (.cells #[.int .i64 p.seg, .int .i64 p.pos, .int .i64 p.len, .int .i64 p.r.kind, .int .i64 p.r.batch, .string p.r.key, .string p.r.val, .int .i64 p.r.cnt, .int .i64 p.r.sum] T (0, 0))
theorem Blk9.new (T : TypeId) (w : World) (p : PlaceV) : Blk9 T (w.alloc (.cells #[.int .i64 p.seg, .int .i64 p.pos, .int .i64 p.len, .int .i64 p.r.kind, .int .i64 p.r.batch, .string p.r.key, .string p.r.val, .int .i64 p.r.cnt, .int .i64 p.r.sum] T)) w.heap.size p := heap_alloc_new w _
theorem Blk9.lt {T : TypeId} {w : World} {B : Nat} {p : PlaceV} (h : Blk9 T w B p) : B < w.heap.size := (Array.getElem?_eq_some_iff.1 h).1
theorem Blk9.later {T : TypeId} {w w' : World} {B K : Nat} {p : PlaceV} (h : Blk9 T w B p) (hb : Below K w w') (hK : B < K) : Blk9 T w' B p := (hb.block _ hK).trans h
theorem Blk9.after {T : TypeId} {w w' : World} {B : Nat} {p : PlaceV} (h : Blk9 T w B p) (hb : Below w.heap.size w w') : Blk9 T w' B p := h.later hb h.lt

end Go.Proofs.YtphbinkkgmlnmaaGreatDoor
namespace Go.Proofs.YtphbinkkgmlnmaaGreatDoor
open Go.RowKit
open Plain

def ofStep (b : Int) (out : List PlaceV) (p : PlaceV) : List PlaceV :=
  if p.r.batch = b then (if p.r.kind = 3 then [] else if p.r.kind = 1 ∨ p.r.kind = 2 then out ++ [p] else out) else out
/-- The records of a batch behind the last seal of it. -/
def ofB (l : List PlaceV) (b : Int) : List PlaceV := l.foldl (ofStep b) []
def kpStep (out : List PlaceV) (p : PlaceV) : List PlaceV := if p.r.kind = 5 then [] else if p.r.kind = 4 then out ++ [p] else out
/-- What is kept behind the last mark. -/
def keptP (l : List PlaceV) : List PlaceV := l.foldl kpStep []
def fitsP (r : RecV) (own : List PlaceV) : Bool := decide (r.cnt = (own.length : Int) ∧ r.sum = ((crcN (cat (own.map PlaceV.r)) : Nat) : Int))
def seS (s : List PlaceV × List Int) (p : PlaceV) : List PlaceV × List Int := (s.1 ++ [p], if p.r.kind = 3 ∧ fitsP p.r (ofB s.1 p.r.batch) = true then s.2 ++ [p.r.batch] else s.2)
/-- The batches of the seals that fit. -/
def sealF (l : List PlaceV) : List Int := (l.foldl seS ([], [])).2

theorem seS_fst (l : List PlaceV) : ∀ s, (l.foldl seS s).1 = s.1 ++ l := by
  induction l with
  | nil => intro s; simp
  | cons p r ih => intro s; rw [List.foldl_cons, ih]; simp [seS]
theorem sealF_snoc (pre : List PlaceV) (p : PlaceV) : sealF (pre ++ [p]) = if p.r.kind = 3 ∧ fitsP p.r (ofB pre p.r.batch) = true then sealF pre ++ [p.r.batch] else sealF pre := by
  unfold sealF
  rw [List.foldl_append, List.foldl_cons, List.foldl_nil]
  show (if _ then _ else _) = _
  rw [seS_fst, List.nil_append]
theorem ofB_snoc (pre : List PlaceV) (p : PlaceV) (b : Int) : ofB (pre ++ [p]) b = ofStep b (ofB pre b) p := by unfold ofB; rw [List.foldl_append]; rfl
theorem keptP_snoc (pre : List PlaceV) (p : PlaceV) : keptP (pre ++ [p]) = kpStep (keptP pre) p := by unfold keptP; rw [List.foldl_append]; rfl
theorem take_snoc (l : List PlaceV) (k : Nat) (h : k < l.length) : l.take (k + 1) = l.take k ++ [l[k]] := List.take_succ_eq_append_getElem h
theorem sealF_succ (l : List PlaceV) (k : Nat) (h : k < l.length) : sealF (l.take (k + 1)) = if (l[k]).r.kind = 3 ∧ fitsP (l[k]).r (ofB (l.take k) (l[k]).r.batch) = true then sealF (l.take k) ++ [(l[k]).r.batch] else sealF (l.take k) := by rw [take_snoc l k h, sealF_snoc]
theorem ofStep_len (b : Int) (out : List PlaceV) (p : PlaceV) : (ofStep b out p).length ≤ out.length + 1 := by
  unfold ofStep
  split
  · split
    · simp
    · split
      · simp
      · omega
  · omega
theorem foldl_len {f : List PlaceV → PlaceV → List PlaceV} (h : ∀ o p, (f o p).length ≤ o.length + 1) (l : List PlaceV) : ∀ o, (l.foldl f o).length ≤ o.length + l.length := by
  induction l with
  | nil => intro o; simp
  | cons p r ih =>
    intro o
    rw [List.foldl_cons, List.length_cons]
    have := ih (f o p)
    have := h o p
    omega
theorem ofB_len (l : List PlaceV) (b : Int) : (ofB l b).length ≤ l.length := by
  have := foldl_len (ofStep_len b) l []
  rw [List.length_nil, Nat.zero_add] at this
  exact this
theorem kpStep_len (out : List PlaceV) (p : PlaceV) : (kpStep out p).length ≤ out.length + 1 := by
  unfold kpStep
  split
  · simp
  · split
    · simp
    · omega
theorem keptP_len (l : List PlaceV) : (keptP l).length ≤ l.length := by
  have := foldl_len kpStep_len l []
  rw [List.length_nil, Nat.zero_add] at this
  exact this
/-- Every record of the one is one of the other. -/
theorem ofB_mem (l : List PlaceV) (b : Int) : ∀ p, p ∈ ofB l b → p ∈ l := by
  have h : ∀ (r o : List PlaceV) (p : PlaceV), p ∈ r.foldl (ofStep b) o → p ∈ o ∨ p ∈ r := by
    intro r
    induction r with
    | nil => intro o p hp; exact .inl hp
    | cons q r ih =>
      intro o p hp
      rcases ih _ _ hp with h1 | h1
      · unfold ofStep at h1
        split at h1
        · split at h1
          · simp at h1
          · split at h1
            · rcases List.mem_append.1 h1 with h2 | h2
              · exact .inl h2
              · obtain rfl : p = q := by simpa using h2
                exact .inr List.mem_cons_self
            · exact .inl h1
        · exact .inl h1
      · exact .inr (List.mem_cons_of_mem _ h1)
  intro p hp
  rcases h l [] p hp with h1 | h1
  · simp at h1
  · exact h1
theorem keptP_mem (l : List PlaceV) : ∀ p, p ∈ keptP l → p ∈ l := by
  have h : ∀ (r o : List PlaceV) (p : PlaceV), p ∈ r.foldl kpStep o → p ∈ o ∨ p ∈ r := by
    intro r
    induction r with
    | nil => intro o p hp; exact .inl hp
    | cons q r ih =>
      intro o p hp
      rcases ih _ _ hp with h1 | h1
      · unfold kpStep at h1
        split at h1
        · simp at h1
        · split at h1
          · rcases List.mem_append.1 h1 with h2 | h2
            · exact .inl h2
            · obtain rfl : p = q := by simpa using h2
              exact .inr List.mem_cons_self
          · exact .inl h1
      · exact .inr (List.mem_cons_of_mem _ h1)
  intro p hp
  rcases h l [] p hp with h1 | h1
  · simp at h1
  · exact h1

end Go.Proofs.YtphbinkkgmlnmaaGreatDoor
namespace Go.Proofs.YtphbinkkgmlnmaaGreatDoor
open Go.RowKit
open Plain

theorem Shape.Row.mem {α : Type} {S : Shape α} {w : World} {a : Option Addr} {n : Nat} {xs : List α} (h : S.Row w a n xs) : xs.length = n := h.len
theorem ieq (a b : Int) (h : a = b) : (a == b) = true := by simpa using h
theorem ine (a b : Int) (h : ¬ a = b) : (a == b) = false := by simpa using h
/-- Every text of the places can be, every batch is a number. -/
def PFits (l : List PlaceV) : Prop := ∀ p, p ∈ l → p.r.key.size ≤ maxLen ∧ p.r.val.size ≤ maxLen ∧ (Lit.int .i64 p.r.batch).wf = true
theorem PFits.sub {l m : List PlaceV} (h : PFits l) (hm : ∀ p, p ∈ m → p ∈ l) : PFits m := fun p hp => h p (hm p hp)

set_option maxRecDepth 100000 in
set_option maxHeartbeats 1000000 in
theorem specRecs_any (w : World) (a : Option Addr) (n cap : Nat) (xs : List PlaceV) (hr : plSh.Row w a n xs) (hn : n ≤ 1048576) :
    Calls Tryz.prog 50 #[.slice a n cap] w fun e w' => (∃ a' n' cap', e = .returned (.slice a' n' cap') ∧ recSh.Own 35 w' w.heap.size (.slice a' n' cap') (xs.map PlaceV.r)) ∧ Below w.heap.size w w' := by
  have hlen := hr.len
  have HR := hide hr
  have HO0 := hide (Shape.Own.empty recSh 35 w)
  have HB0 := hide (al1 w (.cells #[] 35))
  clear hr
  go_enter Tryz.func50, Tryz.ntmps50
  go_wp2
  go_loopw [3, 4] (fun v i wr => ∃ (k : Nat) (a' : Option Addr) (n' c' : Nat), k ≤ n ∧ v = .slice a' n' c' ∧ i = .int .i64 k ∧ Hid (recSh.Own 35 wr w.heap.size (.slice a' n' c') ((xs.take k).map PlaceV.r)) ∧ Hid (Below w.heap.size w wr)) (fun _ i _ => n - (intOf i).toNat)
  case atStart => exact ⟨0, _, 0, 0, by omega, rfl, rfl, HO0, HB0⟩
  case round =>
    clear HO0 HB0
    obtain ⟨k, a', n', c', hk, rfl, rfl, HO, HB⟩ := hrel
    by_cases hlt : k < n
    · have hkf : k < xs.length := by omega
      obtain ⟨b, off, rfl, hbw, e0, e1, e2, e3, e4, e5, e6, e7, e8⟩ := pl_cells (HR.out.later HB.out) k hkf
      have HSZ := hide HB.out.size
      have HE : Hid ((xs.take (k + 1)).map PlaceV.r = (xs.take k).map PlaceV.r ++ [(xs[k]).r]) := hide (by rw [take_snoc xs k hkf, List.map_append]; rfl)
      have hl : ((xs.take k).map PlaceV.r).length ≤ 1048576 := by rw [List.length_map, List.length_take]; omega
      obtain ⟨z, hz⟩ : ∃ z, xs[k] = z := ⟨_, rfl⟩
      rw [hz] at e0 e1 e2 e3 e4 e5 e6 e7 e8 HE
      clear hz
      go_wp2_with (at_builtin; refine wpList_app_rec rfl _ _ rfl z.r HO.out HSZ.out (by omega) rfl rfl rfl ?_; intro a3 n3 cap3 w3 hn3 ho3 hb3; clear hn3)
      have HO3 := hide ho3
      have HB3 := hide (HB.out.trans hb3)
      clear ho3 hb3 HO HB
      go_roundw
      case rel => exact ⟨k + 1, a3, n3, cap3, by omega, rfl, by go_num, by rw [HE.out]; exact HO3, HB3⟩
      case measure => first | (simp [intOf]; done) | (simp [intOf]; omega)
    · obtain rfl : k = n := by omega
      have HT : Hid (xs.take k = xs) := hide (List.take_of_length_le (by omega))
      go_wp2
      go_ret
      exact ⟨⟨a', n', c', rfl, by have h := HO.out; rw [HT.out] at h; exact h⟩, HB.out⟩

theorem recs_fit {l : List PlaceV} (h : PFits l) : ∀ i, (hi : i < (l.map PlaceV.r).length) → ((l.map PlaceV.r)[i]).val.size ≤ maxLen := fun i hi => by
  rw [List.getElem_map]
  exact (h _ (List.getElem_mem _)).2.1

set_option maxRecDepth 100000 in
set_option maxHeartbeats 2000000 in
theorem specFits_any (w : World) (a : Option Addr) (n cap : Nat) (xs : List PlaceV) (hr : plSh.Row w a n xs) (hf : PFits xs) (hn : n ≤ 1048576) (r : RecV) :
    Calls Tryz.prog 29 #[.agg #[.int .i64 r.kind, .int .i64 r.batch, .string r.key, .string r.val, .int .i64 r.cnt, .int .i64 r.sum], .slice a n cap] w fun e w' => e = .returned (.bool (fitsP r xs)) ∧ Below w.heap.size w w' := by
  have hlen := hr.len
  have HB0 := hide (al1 w (.cells #[.int .i64 r.kind, .int .i64 r.batch, .string r.key, .string r.val, .int .i64 r.cnt, .int .i64 r.sum] 35))
  by_cases h1 : r.cnt = (n : Int)
  · have t1 := ieq _ _ h1
    have HK : Hid (∀ W, Below (w.alloc (.cells #[.int .i64 r.kind, .int .i64 r.batch, .string r.key, .string r.val, .int .i64 r.cnt, .int .i64 r.sum] 35)).heap.size (w.alloc (.cells #[.int .i64 r.kind, .int .i64 r.batch, .string r.key, .string r.val, .int .i64 r.cnt, .int .i64 r.sum] 35)) W → W.cell? ⟨w.heap.size, 4, none⟩ = some (.int .i64 r.cnt) ∧ W.cell? ⟨w.heap.size, 5, none⟩ = some (.int .i64 r.sum) ∧ Hid (Below (w.alloc (.cells #[.int .i64 r.kind, .int .i64 r.batch, .string r.key, .string r.val, .int .i64 r.cnt, .int .i64 r.sum] 35)).heap.size (w.alloc (.cells #[.int .i64 r.kind, .int .i64 r.batch, .string r.key, .string r.val, .int .i64 r.cnt, .int .i64 r.sum] 35)) W)) := hide (fun W h => by
      have h0 := (h.block w.heap.size (by simp)).trans (heap_alloc_new w _)
      refine ⟨?_, ?_, hide h⟩ <;> rw [cell_of_row _ _ _ _ _ _ h0] <;> rfl)
    have HRS : Hid (∀ W, Below (w.alloc (.cells #[.int .i64 r.kind, .int .i64 r.batch, .string r.key, .string r.val, .int .i64 r.cnt, .int .i64 r.sum] 35)).heap.size (w.alloc (.cells #[.int .i64 r.kind, .int .i64 r.batch, .string r.key, .string r.val, .int .i64 r.cnt, .int .i64 r.sum] 35)) W → _) := hide (fun W (hW : Below (w.alloc (.cells #[.int .i64 r.kind, .int .i64 r.batch, .string r.key, .string r.val, .int .i64 r.cnt, .int .i64 r.sum] 35)).heap.size (w.alloc (.cells #[.int .i64 r.kind, .int .i64 r.batch, .string r.key, .string r.val, .int .i64 r.cnt, .int .i64 r.sum] 35)) W) => specRecs_any W a n cap xs ((hr.later HB0.out).later hW) hn)
    have hml : (xs.map PlaceV.r).length = n := by rw [List.length_map]; exact hlen
    have HSM := hide (fun W a' c' (h : recSh.Row W a' n (xs.map PlaceV.r)) => specSumOf_any W a' n c' (xs.map PlaceV.r) h hn (recs_fit hf))
    have HV : Hid (fitsP r xs = (r.sum == ((crcN (cat (xs.map PlaceV.r)) : Nat) : Int))) := hide (by
      unfold fitsP
      rw [hlen]
      by_cases h2 : r.sum = ((crcN (cat (xs.map PlaceV.r)) : Nat) : Int)
      · rw [ieq _ _ h2]; exact decide_eq_true ⟨h1, h2⟩
      · rw [ine _ _ h2]; exact decide_eq_false (fun q => h2 q.2))
    obtain ⟨W, hW⟩ : ∃ W, W = w.alloc (.cells #[.int .i64 r.kind, .int .i64 r.batch, .string r.key, .string r.val, .int .i64 r.cnt, .int .i64 r.sum] 35) := ⟨_, rfl⟩
    rw [← hW] at HK HRS HB0
    clear h1 hr hf
    generalize crcN (cat (xs.map PlaceV.r)) = c at *
    rw [HV.out]
    go_enter Tryz.func29, Tryz.ntmps29
    go_wp2_with fail
    rw [← hW]
    clear hW
    have S1 := HK.out W.drew (Below.refl _ _).drew
    first
      | (go_region_held3 (fun W' => W'.cell? ⟨w.heap.size, 4, none⟩ = some (.int .i64 r.cnt) ∧ W'.cell? ⟨w.heap.size, 5, none⟩ = some (.int .i64 r.sum) ∧ Hid (Below W.heap.size W W')) (assumption) (first
          | (go_at_call 50; refine (HRS.out W.drew S1.2.2.out).mono ?_; rintro e w2 ⟨⟨a1, n1, c1, rfl, ho1⟩, hb2⟩; have hn1 := ho1.len; rw [hml] at hn1; subst hn1; have hk2 := hide (S1.2.2.out.trans (hb2.mono S1.2.2.out.size)); have hS2 := HK.out w2 hk2.out; have HR2 := hide ho1.row; clear ho1 hb2)
          | (go_at_call 49; refine (HSM.out w2 _ _ HR2.out).mono ?_; rintro e w3 ⟨rfl, hb3⟩; have hk3 := hide (hk2.out.trans (hb3.mono hk2.out.size)); have hS3 := HK.out w3 hk3.out; clear hb3)))
      | fail
    have HB3 := hide (HB0.out.trans (hk3.out.mono HB0.out.size))
    clear hS3 hk3 hS2 hk2 HR2 S1
    go_wp2
    go_ret
    exact ⟨rfl, HB3.out⟩
  · have t1 := ine _ _ h1
    have HV : Hid (fitsP r xs = false) := hide (decide_eq_false (fun h => h1 (by rw [h.1, hlen])))
    clear h1 hr hf
    go_enter Tryz.func29, Tryz.ntmps29
    go_wp2
    go_region
    go_wp2
    go_ret
    exact ⟨by rw [HV.out]; rfl, HB0.out.drew⟩

end Go.Proofs.YtphbinkkgmlnmaaGreatDoor
namespace Go.Proofs.YtphbinkkgmlnmaaGreatDoor
open Go.RowKit
open Plain

theorem belowX_any (n : Nat) (h0 : 0 < n) (w : World) (B : Nat) (a : Option Addr) (len cap : Nat) (zs : List Int) (hc : CurX w B a len cap zs) :
    Calls Tryz.prog 41 #[.pointer (some ⟨B, 0, none⟩), .int .i64 (n : Int)] w fun e w' => (∃ x : Nat, x < n ∧ e = .returned (.int .i64 (x : Int))) ∧ CurX w' B a len cap zs ∧ w.grownBy w' (some B) := by
  obtain ⟨st, hc⟩ := hc
  refine (below_any (n : Int) w B a len cap zs st hc).mono ?_
  rintro e w' ⟨rfl, h1, h2⟩
  have hb := lV_bd zs (n : Int) st (by omega)
  refine ⟨⟨(lV zs (n : Int) st).toNat, by omega, ?_⟩, ⟨_, h1⟩, h2⟩
  rw [show (((lV zs (n : Int) st).toNat : Nat) : Int) = lV zs (n : Int) st from by omega]

theorem onceX_any (n : Nat) (h0 : 0 < n) (w : World) (B : Nat) (a : Option Addr) (len cap : Nat) (zs : List Int) (hc : CurX w B a len cap zs) :
    Calls Tryz.prog 22 #[.pointer (some ⟨B, 0, none⟩), .int .i64 (n : Int)] w fun e w' => (∃ b : Bool, e = .returned (.bool b)) ∧ CurX w' B a len cap zs ∧ w.grownBy w' (some B) := by
  have HB := hide (belowX_any n h0 w B a len cap zs hc)
  clear hc
  go_enter Tryz.func22, Tryz.ntmps22
  go_wp2_with fail
  refine HB.out.mono ?_
  rintro e w1 ⟨⟨x, hx, rfl⟩, hc1, hg1⟩
  have HC1 := hide hc1
  have HG1 := hide hg1
  clear hc1 hg1 HB
  go_wp2
  go_ret
  exact ⟨⟨_, rfl⟩, HC1.out, HG1.out⟩

theorem textX_any (n : Nat) (h1 : n ≤ 100) (w : World) (B : Nat) (a : Option Addr) (len cap : Nat) (zs : List Int) (hc : CurX w B a len cap zs) :
    Calls Tryz.prog 43 #[.pointer (some ⟨B, 0, none⟩), .int .i64 (n : Int)] w fun e w' => (∃ s : ByteArray, s.size ≤ n ∧ e = .returned (.string s)) ∧ CurX w' B a len cap zs ∧ w.grownBy w' (some B) := by
  obtain ⟨st, hc⟩ := hc
  refine (text_any (n : Int) (by omega) (by omega) w B a len cap zs st hc).mono ?_
  rintro e w' ⟨rfl, h2, h3⟩
  have hl := tV_length zs (n : Int) st (by omega)
  exact ⟨⟨_, by rw [strOfNums_size]; omega, rfl⟩, ⟨_, h2⟩, h3⟩

theorem cells6d {w : World} {B : Nat} {x0 x1 x2 x3 x4 x5 : Value} {ty : TypeId} (h : w.heap[B]? = some (.cells #[x0, x1, x2, x3, x4, x5] ty (0, 0))) :
    w.cell? ⟨B, 0, none⟩ = some x0 ∧ w.cell? ⟨B, 1, none⟩ = some x1 ∧ w.cell? ⟨B, 2, none⟩ = some x2 ∧ w.cell? ⟨B, 3, none⟩ = some x3 ∧ w.cell? ⟨B, 4, none⟩ = some x4 ∧ w.cell? ⟨B, 5, none⟩ = some x5 ∧ w.frozen? ⟨B, 0, none⟩ = false ∧ w.frozen? ⟨B, 1, none⟩ = false ∧ w.frozen? ⟨B, 2, none⟩ = false ∧ w.frozen? ⟨B, 3, none⟩ = false ∧ w.frozen? ⟨B, 4, none⟩ = false ∧ w.frozen? ⟨B, 5, none⟩ = false := by
  have hf : ∀ j, w.frozen? ⟨B, j, none⟩ = false := fun j => by simp [World.frozen?, h]
  refine ⟨?_, ?_, ?_, ?_, ?_, ?_, hf 0, hf 1, hf 2, hf 3, hf 4, hf 5⟩ <;> rw [cell_of_row w B _ _ _ _ h] <;> rfl

/-- What a drawn record, and a drawn place, keep to. -/
def Small (xs : List RecV) : Prop := ∀ r ∈ xs, r.key.size ≤ 8 ∧ r.val.size ≤ 4 ∧ 0 ≤ r.batch ∧ r.batch ≤ 100
theorem Small.snoc {xs : List RecV} {r : RecV} (h : Small xs) (h1 : r.key.size ≤ 8) (h2 : r.val.size ≤ 4) (h3 : 0 ≤ r.batch) (h4 : r.batch ≤ 100) : Small (xs ++ [r]) := by
  intro q hq
  rw [List.mem_append, List.mem_singleton] at hq
  rcases hq with hq | rfl
  · exact h q hq
  · exact ⟨h1, h2, h3, h4⟩
theorem Small.fit {xs : List PlaceV} (h : Small (xs.map PlaceV.r)) : PFits xs := fun p hp => by
  obtain ⟨h1, h2, h3, h4⟩ := h p.r (List.mem_map_of_mem hp)
  refine ⟨by unfold maxLen; omega, by unfold maxLen; omega, ?_⟩
  have e1 : IntKind.i64.min = -9223372036854775808 := by decide
  have e2 : IntKind.i64.max = 9223372036854775807 := by decide
  simp only [Lit.wf, Bool.and_eq_true, decide_eq_true_eq, e1, e2]
  exact ⟨by omega, by omega⟩

set_option maxRecDepth 100000 in
set_option maxHeartbeats 1000000 in
theorem seal9_any (w : World) (a : Option Addr) (n cap : Nat) (xs : List RecV) (hr : recSh.Row w a n xs) (hn : n ≤ 1048576) (hs : Small xs) (batch kind : Int) :
    Calls Tryz.prog 44 #[.slice a n cap, .int .i64 batch, .int .i64 kind] w fun e w' => (∃ s : Int, e = .returned (.agg #[.int .i64 kind, .int .i64 batch, .string ⟨#[]⟩, .string ⟨#[]⟩, .int .i64 (n : Int), .int .i64 s])) ∧ Below w.heap.size w w' := by
  have HS : Hid (∀ W, Below w.heap.size w W → _) := hide (fun W (hb : Below w.heap.size w W) => specSumOf_any W a n cap xs (hr.later hb) hn (fun i h => by have := (hs _ (List.getElem_mem h)).2.1; unfold maxLen; omega))
  have HB0 := hide (al1 w (.cells #[.int .i64 0, .int .i64 0, .string ⟨#[]⟩, .string ⟨#[]⟩, .int .i64 0, .int .i64 0] 35))
  have HK0 : Hid ((w.alloc (.cells #[.int .i64 0, .int .i64 0, .string ⟨#[]⟩, .string ⟨#[]⟩, .int .i64 0, .int .i64 0] 35)).heap[w.heap.size]? = some (.cells #[.int .i64 0, .int .i64 0, .string ⟨#[]⟩, .string ⟨#[]⟩, .int .i64 0, .int .i64 0] 35 (0, 0))) := hide (heap_alloc_new w _)
  clear hr hs
  go_enter Tryz.func44, Tryz.ntmps44
  go_wp2_with fail
  refine (HS.out _ HB0.out).mono ?_
  rintro e w1 ⟨rfl, hb1⟩
  have HB1 := hide (HB0.out.trans (hb1.mono HB0.out.size))
  have HK1 := hide ((hb1.block _ (Array.getElem?_eq_some_iff.1 HK0.out).1).trans HK0.out)
  clear hb1 HB0 HK0 HS
  obtain ⟨y0, y1, y2, y3, y4, y5, f0, f1, f2, f3, f4, f5⟩ := cells6d HK1.out
  generalize ((crcN (cat xs) : Nat) : Int) = s at *
  go_wp2
  refine bodyPost_ret (v := .agg #[.int .i64 kind, .int .i64 batch, .string ⟨#[]⟩, .string ⟨#[]⟩, .int .i64 (n : Int), .int .i64 s]) (by simp [results, Tryz.results44, go_sem, *]) rfl ⟨⟨s, rfl⟩, ?_⟩
  iterate 6 (refine Below.setCell ?_ (by dsimp only; omega) _)
  exact HB1.out

end Go.Proofs.YtphbinkkgmlnmaaGreatDoor
