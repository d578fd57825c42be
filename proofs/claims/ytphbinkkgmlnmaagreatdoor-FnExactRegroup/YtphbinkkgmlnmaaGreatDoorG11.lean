/-
  Rows of structs: a slice whose elements are k cells each, read and owned; for every kind of element. Rows of records. spec.SumOf: the sum of records' texts, one behind the other. Rows of structs: one element put into its place; a slice of structs that comes in. Places in plain words, and rows of them. Batches in plain words: what a seal and a mark have for their own, whether they fit, which batches are sealed. Entries of a directory in plain words, and rows of them. A directory in plain words: an entry of a key, a directory without a key, an entry put into its place. Regroup in plain words; what holds of it where records of batches that are not sealed are left out. spec.l9Recs, spec.l9Fits and spec.l9Of.
-/
import Derived.Test.YtphbinkkgmlnmaaGreatDoorG00
import Derived.Below
import Derived.Test.YtphbinkkgmlnmaaGreatDoorG04
import Derived.Test.YtphbinkkgmlnmaaGreatDoorMShowSpec
import Derived.Maps.AppendAt
import Derived.Test.YtphbinkkgmlnmaaGreatDoorMRecOkI
import Derived.Laws.Cover1
namespace Go.Proofs.YtphbinkkgmlnmaaGreatDoor
open Go.RowKit
open Plain

/-- How an element lies in memory: k cells. -/
structure Shape (α : Type) where
  cells : α → List Value
  k : Nat
  len : ∀ x, (cells x).length = k
  one : ∀ x, ∀ u ∈ cells x, u.oneCell' = true
  pos : 0 < k

def Shape.flat {α : Type} (S : Shape α) : List α → List Value
  | [] => []
  | x :: r => S.cells x ++ S.flat r
theorem Shape.flat_length {α : Type} (S : Shape α) (xs : List α) : (S.flat xs).length = xs.length * S.k := by
  induction xs with
  | nil => simp [Shape.flat]
  | cons x r ih => rw [Shape.flat, List.length_append, S.len, ih, List.length_cons, Nat.succ_mul]; omega
theorem Shape.flat_append {α : Type} (S : Shape α) (xs ys : List α) : S.flat (xs ++ ys) = S.flat xs ++ S.flat ys := by
  induction xs with
  | nil => rfl
  | cons x r ih => rw [List.cons_append, Shape.flat, ih, Shape.flat, List.append_assoc]
theorem Shape.flat_one {α : Type} (S : Shape α) (xs : List α) : ∀ u ∈ S.flat xs, u.oneCell' = true := by
  induction xs with
  | nil => intro u h; simp [Shape.flat] at h
  | cons x r ih =>
    intro u h
    rw [Shape.flat, List.mem_append] at h
    rcases h with h | h
    · exact S.one x u h
    · exact ih u h
theorem Shape.flat_get {α : Type} (S : Shape α) (xs : List α) : ∀ i (hi : i < xs.length) j, j < S.k → (S.flat xs)[i * S.k + j]? = (S.cells (xs[i]))[j]? := by
  induction xs with
  | nil => intro i hi; simp at hi
  | cons x r ih =>
    intro i hi j hj
    have hl := S.len x
    cases i with
    | zero =>
      rw [Shape.flat, Nat.zero_mul, Nat.zero_add, List.getElem?_append_left (by omega)]
      rfl
    | succ i =>
      rw [Shape.flat, List.getElem?_append_right (by rw [hl, Nat.succ_mul]; omega), hl]
      rw [show (i + 1) * S.k + j - S.k = i * S.k + j from by rw [Nat.succ_mul]; omega]
      exact ih i (by simpa using hi) j hj

/-- The slice (a, n, ..) shows these elements. -/
structure Shape.Row {α : Type} (S : Shape α) (w : World) (a : Option Addr) (n : Nat) (xs : List α) : Prop where
  len : xs.length = n
  cells : ∀ i, (hi : i < xs.length) → ∃ b off, a = some ⟨b, off, none⟩ ∧ b < w.heap.size ∧ ∀ j, j < S.k → w.cell? ⟨b, off + i * S.k + j, none⟩ = (S.cells (xs[i]))[j]?
theorem Shape.Row.later {α : Type} {S : Shape α} {w w' : World} {a : Option Addr} {n : Nat} {xs : List α} (h : S.Row w a n xs) (hb : Below w.heap.size w w') : S.Row w' a n xs where
  len := h.len
  cells := fun i hi => by
    obtain ⟨b, off, h1, h2, h3⟩ := h.cells i hi
    exact ⟨b, off, h1, Nat.lt_of_lt_of_le h2 hb.size, fun j hj => by rw [hb.cell (p := ⟨b, off + i * S.k + j, none⟩) h2]; exact h3 j hj⟩
theorem addr_add' (b off j : Nat) : (⟨b, off, none⟩ : Addr).add j = ⟨b, off + j, none⟩ := by unfold Addr.add; split <;> simp_all
theorem Shape.Row.src {α : Type} {S : Shape α} {w : World} {ad : Addr} {n : Nat} {xs : List α} (h : S.Row w (some ad) n xs) : ∀ j u, (S.flat xs)[j]? = some u → w.cell? (ad.add j) = some u := by
  intro j u hj
  have hk := S.pos
  have hjl : j < xs.length * S.k := by
    have := (List.getElem?_eq_some_iff.1 hj).1
    rw [S.flat_length] at this
    exact this
  have hi : j / S.k < xs.length := (Nat.div_lt_iff_lt_mul hk).2 hjl
  have hm : j % S.k < S.k := Nat.mod_lt _ hk
  have hd : j / S.k * S.k + j % S.k = j := by rw [Nat.mul_comm]; exact Nat.div_add_mod j S.k
  obtain ⟨b, off, e, _, c⟩ := h.cells (j / S.k) hi
  injection e with e
  subst e
  have h1 := S.flat_get xs (j / S.k) hi (j % S.k) hm
  rw [hd, hj] at h1
  have h2 := c (j % S.k) hm
  rw [addr_add', show off + j = off + j / S.k * S.k + j % S.k from by omega, h2, ← h1]

/-- The slice v shows these elements; they lie in a row of the call's own, from block base on. -/
def Shape.Own {α : Type} (S : Shape α) (T : TypeId) (w : World) (base : Nat) (v : Value) (xs : List α) : Prop := w.ownsRow base T S.k v xs.length (S.flat xs)
theorem Shape.Own.len {α : Type} {S : Shape α} {T : TypeId} {w : World} {base : Nat} {a : Option Addr} {n cap : Nat} {xs : List α} (h : S.Own T w base (.slice a n cap) xs) : xs.length = n := by
  rcases h.2 with ⟨e, h0⟩ | ⟨g, c, cur, e, _⟩
  · simp only [Value.slice.injEq] at e; omega
  · simp only [Value.slice.injEq] at e; omega
theorem Shape.Own.blk {α : Type} {S : Shape α} {T : TypeId} {w : World} {base : Nat} {v : Value} {xs : List α} (h : S.Own T w base v xs) : ∀ g, v.ownBlock = some g → base ≤ g ∧ g < w.heap.size := World.ownsRow.lt h
theorem Shape.Own.row {α : Type} {S : Shape α} {T : TypeId} {w : World} {base : Nat} {a : Option Addr} {n cap : Nat} {xs : List α} (h : S.Own T w base (.slice a n cap) xs) : S.Row w a n xs where
  len := h.len
  cells := fun i hi => by
    have hn := h.len
    have hfl := S.flat_length xs
    unfold Shape.Own at h
    rw [hn] at h
    rcases h.2 with ⟨e, h0⟩ | ⟨g, c, cur, e, hb, hg, _⟩
    · omega
    · simp only [Value.slice.injEq] at e
      obtain ⟨rfl, _, rfl⟩ := e
      have hgl : g < w.heap.size := by
        rcases Nat.lt_or_ge g w.heap.size with h' | h'
        · exact h'
        · rw [Array.getElem?_eq_none h'] at hg; cases hg
      refine ⟨g, 0, rfl, hgl, fun j hj => ?_⟩
      have hlt : i * S.k + j < n * S.k := by
        have : (i + 1) * S.k ≤ n * S.k := Nat.mul_le_mul_right _ (by omega)
        rw [Nat.succ_mul] at this
        omega
      have hget := S.flat_get xs i hi j hj
      have hj2 : j < (S.cells (xs[i])).length := by rw [S.len]; exact hj
      rw [Nat.zero_add, h.cellAt _ (by omega), hget, List.getElem?_eq_getElem hj2]
theorem Shape.Own.later {α : Type} {S : Shape α} {T : TypeId} {w w' : World} {base K : Nat} {v : Value} {xs : List α} (h : S.Own T w base v xs) (hb : Below K w w') (hK : w.heap.size ≤ K) : S.Own T w' base v xs := by
  refine ⟨h.1, ?_⟩
  rcases h.2 with h | ⟨g, c, cur, e, hbg, hg, h1⟩
  · exact .inl h
  · have hgl : g < w.heap.size := by
      rcases Nat.lt_or_ge g w.heap.size with h' | h'
      · exact h'
      · rw [Array.getElem?_eq_none h'] at hg; cases hg
    exact .inr ⟨g, c, cur, e, hbg, by rw [hb.block g (by omega)]; exact hg, h1⟩
theorem Shape.Own.mono {α : Type} {S : Shape α} {T : TypeId} {w : World} {base base' : Nat} {v : Value} {xs : List α} (h : S.Own T w base v xs) (hb : base' ≤ base) : S.Own T w base' v xs := by
  refine ⟨h.1, ?_⟩
  rcases h.2 with h | ⟨g, c, cur, e, hbg, h1⟩
  · exact .inl h
  · exact .inr ⟨g, c, cur, e, Nat.le_trans hb hbg, h1⟩
/-- Another block is written. -/
theorem Shape.Own.setNe {α : Type} {S : Shape α} {T : TypeId} {w : World} {base : Nat} {v : Value} {xs : List α} (h : S.Own T w base v xs) (p : Addr) (u : Value) (hp : v.ownBlock ≠ some p.block) : S.Own T (w.setCell p u) base v xs := by
  refine ⟨h.1, ?_⟩
  rcases h.2 with h | ⟨g, c, cur, e, hbg, hg, h1⟩
  · exact .inl h
  · refine .inr ⟨g, c, cur, e, hbg, ?_, h1⟩
    rw [Below.heap_setCell w p u g (by intro q; apply hp; rw [e, ← q]; rfl)]
    exact hg
theorem Shape.Own.setCell {α : Type} {S : Shape α} {T : TypeId} {w : World} {base : Nat} {v : Value} {xs : List α} (h : S.Own T w base v xs) (p : Addr) (u : Value) (hp : p.block < base) : S.Own T (w.setCell p u) base v xs :=
  h.setNe p u (fun e => by have := (h.blk _ e).1; omega)
/-- What is drawn from the cursor leaves rows behind it alone. -/
theorem Shape.Own.grownB {α : Type} {S : Shape α} {T : TypeId} {w w' : World} {base B : Nat} {v : Value} {xs : List α} (h : S.Own T w base v xs) (hg : w.grownBy w' (some B)) (hB : B < base) : S.Own T w' base v xs := by
  refine World.ownsRow.kept h hg ?_
  cases e : v.ownBlock with
  | none => exact .inl rfl
  | some g => exact .inr (fun q => by injection q with q; have := (h.blk g e).1; omega)
/-- An empty row that the call has laid. -/
theorem Shape.Own.empty {α : Type} (S : Shape α) (T : TypeId) (w : World) : S.Own T (w.alloc (.cells #[] T)) w.heap.size (.slice (some ⟨w.heap.size, 0, none⟩) 0 0) [] :=
  ⟨by simp [Shape.flat], .inr ⟨w.heap.size, 0, #[], rfl, Nat.le_refl _, heap_alloc_new w _, Nat.le_refl _, by unfold maxLen; omega, by simp, by simp [Shape.flat]⟩⟩
theorem Shape.Own.nil {α : Type} (S : Shape α) (T : TypeId) (w : World) (base : Nat) : S.Own T w base (.slice none 0 0) [] := ⟨by simp [Shape.flat], .inl ⟨rfl, rfl⟩⟩
/-- One element in a new block, as a row. -/
theorem Shape.Row.single {α : Type} (S : Shape α) (T : TypeId) (w : World) (x : α) : S.Row (w.alloc (.cells (S.cells x).toArray T)) (some ⟨w.heap.size, 0, none⟩) 1 [x] where
  len := rfl
  cells := fun i hi => by
    obtain rfl : i = 0 := by simp at hi; omega
    refine ⟨w.heap.size, 0, rfl, by simp, fun j hj => ?_⟩
    rw [cell_of_row _ _ _ _ _ _ (heap_alloc_new w _)]
    simp

/-- 'out = append(out, ys...)', out a row of the call's own: a law for the walk. -/
theorem Shape.wpList_app {P : Program} {α : Type} (S : Shape α) {ops : Array Oper} {rest : List Oper} {o : Oper} {act : Act} {Q : Exit → Act → World → Prop} (hgd : o.guard = none) (s x : Operand) (ST T : TypeId)
    (ho : o.op = .call { callee := .builtin .append, args := #[s, x], argTypes := #[ST, ST] }) {i0 : TypeInfo} {z : Value} {bytes : Nat} (hu : P.underlying ST = some (.slice T)) (hi : P.info? T = some i0) (hz0 : i0.zero = some z) (hz1 : i0.size = S.k) (hz2 : i0.bytes = bytes) (hzs : z.cells.size = S.k) (hby : bytes ≤ 128)
    {w : World} {base : Nat} {v : Value} {xs ys : List α} (hown : S.Own T w base v xs) (hb : base ≤ w.heap.size) {ad : Addr} {m c : Nat} (hr : S.Row w (some ad) m ys) (hn : xs.length + m ≤ 1099511627776)
    (hs : act.eval s = v) (hx : act.eval x = .slice (some ad) m c)
    (h : ∀ a' n' cap' w', n' = xs.length + m → S.Own T w' base (.slice a' n' cap') (xs ++ ys) → w.grownBy w' v.ownBlock → wpList P ops Q rest (act.put o.dst (.slice a' n' cap')) w') : wpList P ops Q (o :: rest) act w := by
  have hm := hr.len
  have hmul : (xs.length + m) * bytes ≤ 140737488355328 := Nat.le_trans (Nat.mul_le_mul hn hby) (by decide)
  refine wpList_append_own (P := P) w hgd s x ST ho base T i0 z S.k bytes hu hi hz0 hz1 hz2 hzs S.pos v xs.length (S.flat xs) hs hown
    ad m c (S.flat ys) hx (by rw [S.flat_length, hm]) hr.src (S.flat_one ys) (by unfold maxLen; omega) hmul hb ?_
  intro v' w' ho' hg _
  have hval : ∃ a' cap', v' = .slice a' (xs.length + m) cap' := by
    rcases ho'.2 with ⟨e, h0⟩ | ⟨g, cap, cur, e, _⟩
    · exact ⟨none, 0, by rw [e, h0]⟩
    · exact ⟨_, _, e⟩
  obtain ⟨a', cap', rfl⟩ := hval
  refine h a' _ cap' w' rfl ?_ hg
  unfold Shape.Own
  rw [List.length_append, hm, S.flat_append]
  exact ho'

end Go.Proofs.YtphbinkkgmlnmaaGreatDoor
namespace Go.Proofs.YtphbinkkgmlnmaaGreatDoor
open Go.RowKit
open Plain

def recSh : Shape RecV where
  cells := fun r => [.int .i64 r.kind, .int .i64 r.batch, .string r.key, .string r.val, .int .i64 r.cnt, .int .i64 r.sum]
  k := 6
  len := fun _ => rfl
  one := fun r u h => by
    simp only [List.mem_cons, List.not_mem_nil, or_false] at h
    rcases h with rfl | rfl | rfl | rfl | rfl | rfl <;> rfl
  pos := by decide
theorem Tryz.infoRec : (Tryz.prog.info? 35).map (fun i => (i.zero, i.size, i.bytes)) = some (some (.agg #[.int .i64 0, .int .i64 0, .string ⟨#[]⟩, .string ⟨#[]⟩, .int .i64 0, .int .i64 0]), 6, 64) := by kernel_rfl

/-- 'l = append(l, r)', l a row of records of the call's own, r in a new block. -/
theorem wpList_app_rec {ops : Array Oper} {rest : List Oper} {o : Oper} {act : Act} {Q : Exit → Act → World → Prop} (hgd : o.guard = none) (s x : Operand)
    (ho : o.op = .call { callee := .builtin .append, args := #[s, x], argTypes := #[83, 83] }) {w : World} {base : Nat} {v : Value} {xs : List RecV} (r : RecV) (hown : recSh.Own 35 w base v xs) (hb : base ≤ w.heap.size) (hn : xs.length ≤ 1099511627775)
    {N : Nat} (hs : act.eval s = v) (hx : act.eval x = .slice (some ⟨N, 0, none⟩) 1 1) (hN : w.heap.size = N)
    (h : ∀ a' n' cap' w', n' = xs.length + 1 → recSh.Own 35 w' base (.slice a' n' cap') (xs ++ [r]) → Below base w w' → wpList Tryz.prog ops Q rest (act.put o.dst (.slice a' n' cap')) w') :
    wpList Tryz.prog ops Q (o :: rest) act (w.alloc (.cells #[.int .i64 r.kind, .int .i64 r.batch, .string r.key, .string r.val, .int .i64 r.cnt, .int .i64 r.sum] 35)) := by
  subst hN
  obtain ⟨i0, hi, hz0, hz1, hz2⟩ := info_parts Tryz.infoRec
  have hA : Below w.heap.size w (w.alloc (.cells (recSh.cells r).toArray 35)) := (Below.refl _ _).alloc (Nat.le_refl _) _
  refine recSh.wpList_app (P := Tryz.prog) hgd s x 83 35 ho Tryz.underlying83 hi hz0 hz1 hz2 rfl (by decide) (hown.later hA (Nat.le_refl _)) (Nat.le_trans hb hA.size) (Shape.Row.single recSh 35 w r) (by omega) hs hx ?_
  intro a' n' cap' w' hn' ho' hg
  refine h a' n' cap' w' hn' ho' ?_
  refine (hA.mono hb).trans ?_
  exact (Below.refl _ _).grown hg (Nat.le_trans hb hA.size) (fun g hg => (hown.blk g hg).1)

end Go.Proofs.YtphbinkkgmlnmaaGreatDoor
namespace Go.Proofs.YtphbinkkgmlnmaaGreatDoor
open Go.RowKit
open Plain

/-- The texts of records, one behind the other. -/
def cat (xs : List RecV) : ByteArray := xs.foldl (fun s r => s ++ showS r) ⟨#[]⟩
theorem cat_succ (xs : List RecV) (k : Nat) (h : k < xs.length) : cat (xs.take (k + 1)) = cat (xs.take k) ++ showS (xs[k]) := by
  unfold cat
  rw [List.take_succ_eq_append_getElem h, List.foldl_append]
  rfl
theorem show_size' (r : RecV) : (showS r).size ≤ 60 := by
  cases h : recOkB r with
  | false => rw [show_none r h]; exact Nat.zero_le _
  | true =>
    obtain ⟨k, b, key, val, c, s⟩ := r
    have hok : RecOkP k b key.size val.size c s := okN_iff.1 h
    have e : showS ⟨k, b, key, val, c, s⟩ = varS k ++ varS b ++ bodyS k key val c s := if_pos h
    have z1 := varS_size k
    have z2 := varS_size b
    have z3 := textS_size key
    have z4 := textS_size val
    have z5 := totS_size c s
    rw [e, ByteArray.size_append, ByteArray.size_append]
    unfold RecOkP at hok
    unfold bodyS
    split
    · rw [ByteArray.size_append]; omega
    · split
      · omega
      · omega
theorem cat_size (xs : List RecV) (k : Nat) (h : k ≤ xs.length) : (cat (xs.take k)).size ≤ 60 * k := by
  induction k with
  | zero => exact Nat.zero_le _
  | succ k ih =>
    rw [cat_succ xs k (by omega), ByteArray.size_append]
    have := show_size' (xs[k])
    have := ih (by omega)
    omega
theorem rec_cells {w : World} {a : Option Addr} {n : Nat} {xs : List RecV} (h : recSh.Row w a n xs) (i : Nat) (hi : i < xs.length) : ∃ b off, a = some ⟨b, off, none⟩ ∧ b < w.heap.size ∧
    w.cell? ⟨b, off + i * 6, none⟩ = some (.int .i64 (xs[i]).kind) ∧ w.cell? ⟨b, off + i * 6 + 1, none⟩ = some (.int .i64 (xs[i]).batch) ∧ w.cell? ⟨b, off + i * 6 + 2, none⟩ = some (.string (xs[i]).key) ∧ w.cell? ⟨b, off + i * 6 + 3, none⟩ = some (.string (xs[i]).val) ∧ w.cell? ⟨b, off + i * 6 + 4, none⟩ = some (.int .i64 (xs[i]).cnt) ∧ w.cell? ⟨b, off + i * 6 + 5, none⟩ = some (.int .i64 (xs[i]).sum) := by
  obtain ⟨b, off, h1, h2, h3⟩ := h.cells i hi
  exact ⟨b, off, h1, h2, h3 0 (by decide), h3 1 (by decide), h3 2 (by decide), h3 3 (by decide), h3 4 (by decide), h3 5 (by decide)⟩

set_option maxRecDepth 100000 in
set_option maxHeartbeats 2000000 in
theorem specSumOf_any (w : World) (a : Option Addr) (n cap : Nat) (xs : List RecV) (hr : recSh.Row w a n xs) (hn : n ≤ 1048576) (hv : ∀ i, (h : i < xs.length) → (xs[i]).val.size ≤ maxLen) :
    Calls Tryz.prog 49 #[.slice a n cap] w fun e w' => e = .returned (.int .i64 (crcN (cat xs) : Nat)) ∧ Below w.heap.size w w' := by
  have HR := hide hr
  have hlen := hr.len
  have HV := hide hv
  clear hr hv
  go_enter Tryz.func49, Tryz.ntmps49
  go_wp2
  go_loopw [3, 4] (fun v x wr => ∃ k : Nat, k ≤ n ∧ v = .string (cat (xs.take k)) ∧ x = .int .i64 k ∧ Hid (Below w.heap.size w wr)) (fun _ x _ => n - (intOf x).toNat)
  case atStart => exact ⟨0, by omega, rfl, rfl, hide (Below.refl _ _)⟩
  case round =>
    obtain ⟨k, hk, rfl, rfl, HB⟩ := hrel
    have hcs := cat_size xs k (by omega)
    by_cases hlt : k < n
    · have hkx : k < xs.length := by omega
      obtain ⟨b, off, rfl, hbw, c0, c1, c2, c3, c4, c5⟩ := rec_cells (HR.out.later HB.out) k hkx
      have HSH := hide (specShow_any (xs[k]) (HV.out k hkx))
      have h60 := show_size' (xs[k])
      have HC : Hid (cat (xs.take (k + 1)) = cat (xs.take k) ++ showS (xs[k])) := hide (cat_succ xs k hkx)
      have z1 : ¬ 9223372036854775807 < (cat (xs.take k)).size + (showS (xs[k])).size := by omega
      generalize showS (xs[k]) = S at *
      generalize cat (xs.take k) = A at *
      have hk2 : (k : Int) < (n : Int) := by omega
      go_wp2_with fail
      refine (HSH.out _).mono ?_
      rintro e w1 ⟨rfl, hb1⟩
      have HB1 := hide (HB.out.trans (hb1.mono HB.out.size))
      clear hb1 HB HSH c0 c1 c2 c3 c4 c5
      go_wp2
      go_roundw
      case rel => exact ⟨k + 1, by omega, by rw [HC.out], by go_num, HB1⟩
      case measure => first | (simp [intOf]; done) | (simp [intOf]; omega)
    · obtain rfl : k = n := by omega
      have HE : Hid (cat (xs.take k) = cat xs) := hide (by rw [List.take_of_length_le (by omega)])
      have HC := hide (specCrc_ans (cat (xs.take k)) (by omega))
      rw [HE.out] at HC
      go_wp2_with fail
      rw [HE.out]
      refine (HC.out _).mono ?_
      rintro e w1 ⟨rfl, hb1⟩
      have HB1 := hide (HB.out.trans (hb1.mono HB.out.size))
      clear hb1 HB HC
      go_wp2
      go_ret
      exact ⟨rfl, HB1.out⟩

end Go.Proofs.YtphbinkkgmlnmaaGreatDoor
namespace Go.Proofs.YtphbinkkgmlnmaaGreatDoor
open Go.RowKit
open Plain

def setL (l : List Value) (p : Nat) : List Value → List Value
  | [] => l
  | v :: r => setL (l.set p v) (p + 1) r
def putL (w : World) (g p : Nat) : List Value → World
  | [] => w
  | v :: r => putL (w.setCell ⟨g, p, none⟩ v) g (p + 1) r
theorem setL_behind (vs : List Value) : ∀ (pre l : List Value) (p : Nat), setL (pre ++ l) (pre.length + p) vs = pre ++ setL l p vs := by
  induction vs with
  | nil => intro pre l p; rfl
  | cons v r ih =>
    intro pre l p
    rw [setL, setL, List.set_append_right _ _ (by omega), show pre.length + p - pre.length = p from by omega]
    exact ih pre (l.set p v) (p + 1)
theorem setL_head (vs : List Value) : ∀ (ys zs : List Value), ys.length = vs.length → setL (ys ++ zs) 0 vs = vs ++ zs := by
  induction vs with
  | nil => intro ys zs h; simp at h; subst h; rfl
  | cons v r ih =>
    intro ys zs h
    cases ys with
    | nil => simp at h
    | cons a ys =>
      rw [setL, List.cons_append, List.set_cons_zero]
      have e := setL_behind r [v] (ys ++ zs) 0
      rw [List.length_singleton, List.singleton_append, Nat.add_zero] at e
      rw [Nat.zero_add, e, ih ys zs (by simpa using h)]
      rfl
theorem Shape.flat_set {α : Type} (S : Shape α) (xs : List α) (x : α) : ∀ i, i < xs.length → setL (S.flat xs) (i * S.k) (S.cells x) = S.flat (xs.set i x) := by
  induction xs with
  | nil => intro i h; simp at h
  | cons a r ih =>
    intro i h
    cases i with
    | zero =>
      rw [Shape.flat, Nat.zero_mul, setL_head _ _ _ (by rw [S.len, S.len]), List.set_cons_zero, Shape.flat]
    | succ i =>
      have e := setL_behind (S.cells x) (S.cells a) (S.flat r) (i * S.k)
      rw [S.len] at e
      rw [Shape.flat, Nat.succ_mul, Nat.add_comm (i * S.k), e, ih i (by simpa using h), List.set_cons_succ, Shape.flat]
theorem gchain {a b c : World} {r : Option Nat} (h : a.grownBy b r) (k : b.grownBy c r) : a.grownBy c r :=
  ⟨k.os.trans h.os, k.tape.trans h.tape, k.output.trans h.output, Nat.le_trans h.size k.size, fun i hi hr => (k.block i (Nat.lt_of_lt_of_le hi h.size) hr).trans (h.block i hi hr)⟩
theorem putL_own {base T sz g n cap : Nat} (vs : List Value) : ∀ (w : World) (l : List Value) (p : Nat), w.ownsRow base T sz (.slice (some ⟨g, 0, none⟩) n cap) n l → (putL w g p vs).ownsRow base T sz (.slice (some ⟨g, 0, none⟩) n cap) n (setL l p vs) ∧ w.grownBy (putL w g p vs) (some g) := by
  induction vs with
  | nil => intro w l p h; exact ⟨h, ⟨rfl, rfl, rfl, Nat.le_refl _, fun _ _ _ => rfl⟩⟩
  | cons v r ih =>
    intro w l p h
    have h1 := h.stored p v
    have h2 := ih _ _ (p + 1) h1.1
    exact ⟨h2.1, gchain h1.2 h2.2⟩
theorem Shape.Own.put {α : Type} {S : Shape α} {T : TypeId} {w : World} {base g n cap : Nat} {xs : List α} (h : S.Own T w base (.slice (some ⟨g, 0, none⟩) n cap) xs) (i : Nat) (x : α) (hi : i < n) :
    S.Own T (putL w g (i * S.k) (S.cells x)) base (.slice (some ⟨g, 0, none⟩) n cap) (xs.set i x) ∧ w.grownBy (putL w g (i * S.k) (S.cells x)) (some g) := by
  have hn := h.len
  unfold Shape.Own at h ⊢
  rw [hn] at h
  have h1 := putL_own (S.cells x) w (S.flat xs) (i * S.k) h
  rw [List.length_set, hn, ← S.flat_set xs x i (by omega)]
  exact h1
theorem Shape.Own.frz {α : Type} {S : Shape α} {T : TypeId} {w : World} {base g n cap : Nat} {xs : List α} (h : S.Own T w base (.slice (some ⟨g, 0, none⟩) n cap) xs) (j : Nat) : w.frozen? ⟨g, j, none⟩ = false := by
  have hn := h.len
  unfold Shape.Own at h
  rw [hn] at h
  exact h.frozenAt j
/-- A row of n zeros, flat. -/
theorem Shape.flat_made {α : Type} (S : Shape α) (x : α) (n : Nat) : S.flat (List.replicate n x) = (madeCells (S.cells x).toArray (n * S.k)).toList := by
  have hk := S.pos
  apply List.ext_getElem?
  intro j
  by_cases hj : j < n * S.k
  · have hi : j / S.k < (List.replicate n x).length := by rw [List.length_replicate]; exact (Nat.div_lt_iff_lt_mul hk).2 hj
    have hm : j % S.k < S.k := Nat.mod_lt _ hk
    have hg := S.flat_get (List.replicate n x) (j / S.k) hi (j % S.k) hm
    have hd : j / S.k * S.k + j % S.k = j := by rw [Nat.mul_comm]; exact Nat.div_add_mod j S.k
    rw [hd, List.getElem_replicate] at hg
    rw [hg]
    have hl : j % S.k < (S.cells x).length := by rw [S.len]; exact hm
    simp [madeCells, hj, S.len, List.getElem?_eq_getElem hl]
  · rw [List.getElem?_eq_none (by rw [S.flat_length, List.length_replicate]; omega), List.getElem?_eq_none (by simp [madeCells]; omega)]
theorem take_set_succ' {α : Type} (gs fs : List α) (k : Nat) (hk : k < fs.length) (hg : k < gs.length) (h : gs.take k = fs.take k) : (gs.set k (fs[k])).take (k + 1) = fs.take (k + 1) := by
  rw [List.take_succ_eq_append_getElem (by rw [List.length_set]; exact hg), List.take_succ_eq_append_getElem hk, List.take_set_of_le (Nat.le_refl _), h]
  simp

end Go.Proofs.YtphbinkkgmlnmaaGreatDoor
namespace Go.Proofs.YtphbinkkgmlnmaaGreatDoor
open Go.RowKit
open Plain

/-- A record, and where it stands. -/
structure PlaceV where
  seg : Int
  pos : Int
  len : Int
  r : RecV
theorem PlaceV.ext' {p q : PlaceV} (h1 : p.seg = q.seg) (h2 : p.pos = q.pos) (h3 : p.len = q.len) (h4 : p.r = q.r) : p = q := by
  cases p; cases q; simp_all
def plSh : Shape PlaceV where
  cells := fun p => [.int .i64 p.seg, .int .i64 p.pos, .int .i64 p.len, .int .i64 p.r.kind, .int .i64 p.r.batch, .string p.r.key, .string p.r.val, .int .i64 p.r.cnt, .int .i64 p.r.sum]
  k := 9
  len := fun _ => rfl
  one := fun r u h => by
    simp only [List.mem_cons, List.not_mem_nil, or_false] at h
    rcases h with rfl | rfl | rfl | rfl | rfl | rfl | rfl | rfl | rfl <;> rfl
  pos := by decide
def zeroP : PlaceV := ⟨0, 0, 0, ⟨0, 0, ⟨#[]⟩, ⟨#[]⟩, 0, 0⟩⟩
def PlaceV.val (p : PlaceV) : Value := .agg #[.int .i64 p.seg, .int .i64 p.pos, .int .i64 p.len, .int .i64 p.r.kind, .int .i64 p.r.batch, .string p.r.key, .string p.r.val, .int .i64 p.r.cnt, .int .i64 p.r.sum]
theorem Tryz.infoPlace : (Tryz.prog.info? 37).map (fun i => (i.zero, i.size, i.bytes)) = some (some (.agg #[.int .i64 0, .int .i64 0, .int .i64 0, .int .i64 0, .int .i64 0, .string ⟨#[]⟩, .string ⟨#[]⟩, .int .i64 0, .int .i64 0]), 9, 88) := by kernel_rfl

theorem pl_cells {w : World} {a : Option Addr} {n : Nat} {xs : List PlaceV} (h : plSh.Row w a n xs) (i : Nat) (hi : i < xs.length) : ∃ b off, a = some ⟨b, off, none⟩ ∧ b < w.heap.size ∧
    w.cell? ⟨b, off + i * 9, none⟩ = some (.int .i64 (xs[i]).seg) ∧ w.cell? ⟨b, off + i * 9 + 1, none⟩ = some (.int .i64 (xs[i]).pos) ∧ w.cell? ⟨b, off + i * 9 + 2, none⟩ = some (.int .i64 (xs[i]).len) ∧ w.cell? ⟨b, off + i * 9 + 3, none⟩ = some (.int .i64 (xs[i]).r.kind) ∧ w.cell? ⟨b, off + i * 9 + 4, none⟩ = some (.int .i64 (xs[i]).r.batch) ∧ w.cell? ⟨b, off + i * 9 + 5, none⟩ = some (.string (xs[i]).r.key) ∧ w.cell? ⟨b, off + i * 9 + 6, none⟩ = some (.string (xs[i]).r.val) ∧ w.cell? ⟨b, off + i * 9 + 7, none⟩ = some (.int .i64 (xs[i]).r.cnt) ∧ w.cell? ⟨b, off + i * 9 + 8, none⟩ = some (.int .i64 (xs[i]).r.sum) := by
  obtain ⟨b, off, h1, h2, h3⟩ := h.cells i hi
  exact ⟨b, off, h1, h2, h3 0 (by decide), h3 1 (by decide), h3 2 (by decide), h3 3 (by decide), h3 4 (by decide), h3 5 (by decide), h3 6 (by decide), h3 7 (by decide), h3 8 (by decide)⟩

/-- 'out = append(out, p)', out a row of places of the call's own, p in a new block; and where the row now lies. -/
theorem wpList_app_pl_at {ops : Array Oper} {rest : List Oper} {o : Oper} {act : Act} {Q : Exit → Act → World → Prop} (hgd : o.guard = none) (s x : Operand)
    (ho : o.op = .call { callee := .builtin .append, args := #[s, x], argTypes := #[27, 27] }) {w : World} {base : Nat} {v : Value} {xs : List PlaceV} (p : PlaceV) (hown : plSh.Own 37 w base v xs) (hb : base ≤ w.heap.size) (hn : xs.length ≤ 1099511627775)
    {N : Nat} (hs : act.eval s = v) (hx : act.eval x = .slice (some ⟨N, 0, none⟩) 1 1) (hN : w.heap.size = N)
    (h : ∀ a' n' cap' w', n' = xs.length + 1 → plSh.Own 37 w' base (.slice a' n' cap') (xs ++ [p]) → w.grownBy w' v.ownBlock → ((Value.slice a' n' cap').ownBlock = v.ownBlock ∨ ∃ g, (Value.slice a' n' cap').ownBlock = some g ∧ w.heap.size ≤ g) → wpList Tryz.prog ops Q rest (act.put o.dst (.slice a' n' cap')) w') :
    wpList Tryz.prog ops Q (o :: rest) act (w.alloc (.cells #[.int .i64 p.seg, .int .i64 p.pos, .int .i64 p.len, .int .i64 p.r.kind, .int .i64 p.r.batch, .string p.r.key, .string p.r.val, .int .i64 p.r.cnt, .int .i64 p.r.sum] 37)) := by
  subst hN
  obtain ⟨i0, hi, hz0, hz1, hz2⟩ := info_parts Tryz.infoPlace
  have hA : Below w.heap.size w (w.alloc (.cells (plSh.cells p).toArray 37)) := (Below.refl _ _).alloc (Nat.le_refl _) _
  have hgA : w.grownBy (w.alloc (.cells (plSh.cells p).toArray 37)) v.ownBlock := ⟨hA.os, hA.tape, hA.output, hA.size, fun k hk _ => hA.block k hk⟩
  have ho1 : (w.alloc (.cells (plSh.cells p).toArray 37)).ownsRow base 37 9 v xs.length (plSh.flat xs) := hown.later hA (Nat.le_refl _)
  have hmul : (xs.length + 1) * 88 ≤ 140737488355328 := by omega
  refine wpList_append_own_at (P := Tryz.prog) (w.alloc (.cells (plSh.cells p).toArray 37)) hgd s x 27 ho base 37 i0 _ 9 88 Tryz.underlying27 hi hz0 hz1 hz2 rfl (by decide) v xs.length (plSh.flat xs) hs ho1 ⟨w.heap.size, 0, none⟩ 1 1 (plSh.flat [p]) hx rfl (Shape.Row.single plSh 37 w p).src (plSh.flat_one [p]) (by unfold maxLen; omega) hmul (Nat.le_trans hb hA.size) ?_
  intro v' w' ho' hg _ hat
  have hval : ∃ a' cap', v' = .slice a' (xs.length + 1) cap' := by
    rcases ho'.2 with ⟨e, h0⟩ | ⟨g, cap, cur, e, _⟩
    · exact ⟨none, 0, by rw [e, h0]⟩
    · exact ⟨_, _, e⟩
  obtain ⟨a', cap', rfl⟩ := hval
  refine h a' _ cap' w' rfl ?_ (gchain hgA hg) (hat.imp id (fun e => ⟨_, e, hA.size⟩))
  unfold Shape.Own
  rw [List.length_append, plSh.flat_append]
  exact ho'
/-- The same, and no more than that what was there stands. -/
theorem wpList_app_pl {ops : Array Oper} {rest : List Oper} {o : Oper} {act : Act} {Q : Exit → Act → World → Prop} (hgd : o.guard = none) (s x : Operand)
    (ho : o.op = .call { callee := .builtin .append, args := #[s, x], argTypes := #[27, 27] }) {w : World} {base : Nat} {v : Value} {xs : List PlaceV} (p : PlaceV) (hown : plSh.Own 37 w base v xs) (hb : base ≤ w.heap.size) (hn : xs.length ≤ 1099511627775)
    {N : Nat} (hs : act.eval s = v) (hx : act.eval x = .slice (some ⟨N, 0, none⟩) 1 1) (hN : w.heap.size = N)
    (h : ∀ a' n' cap' w', n' = xs.length + 1 → plSh.Own 37 w' base (.slice a' n' cap') (xs ++ [p]) → Below base w w' → wpList Tryz.prog ops Q rest (act.put o.dst (.slice a' n' cap')) w') :
    wpList Tryz.prog ops Q (o :: rest) act (w.alloc (.cells #[.int .i64 p.seg, .int .i64 p.pos, .int .i64 p.len, .int .i64 p.r.kind, .int .i64 p.r.batch, .string p.r.key, .string p.r.val, .int .i64 p.r.cnt, .int .i64 p.r.sum] 37)) :=
  wpList_app_pl_at hgd s x ho p hown hb hn hs hx hN (fun a' n' cap' w' hn' ho' hg _ => h a' n' cap' w' hn' ho' ((Below.refl _ _).grown hg hb (fun g hg => (hown.blk g hg).1)))

theorem cells9 {w : World} {B : Nat} {x0 x1 x2 x3 x4 x5 x6 x7 x8 : Value} {ty : TypeId} (h : w.heap[B]? = some (.cells #[x0, x1, x2, x3, x4, x5, x6, x7, x8] ty (0, 0))) :
    w.cell? ⟨B, 0, none⟩ = some x0 ∧ w.cell? ⟨B, 1, none⟩ = some x1 ∧ w.cell? ⟨B, 2, none⟩ = some x2 ∧ w.cell? ⟨B, 3, none⟩ = some x3 ∧ w.cell? ⟨B, 4, none⟩ = some x4 ∧ w.cell? ⟨B, 5, none⟩ = some x5 ∧ w.cell? ⟨B, 6, none⟩ = some x6 ∧ w.cell? ⟨B, 7, none⟩ = some x7 ∧ w.cell? ⟨B, 8, none⟩ = some x8 := by
  refine ⟨?_, ?_, ?_, ?_, ?_, ?_, ?_, ?_, ?_⟩ <;> rw [cell_of_row w B _ _ _ _ h] <;> rfl
/-- Block B is a place of the call's own. -/
def Blk9 (T : TypeId) (w : World) (B : Nat) (p : PlaceV) : Prop := w.heap[B]? = some (.cells #[.int .i64 p.seg, .int .i64 p.pos, .int .i64 p.len, .int .i64 p.r.kind, .int .i64 p.r.batch, .string p.r.key, .string p.r.val, .int .i64 p.r.cnt, .int .i64 p.r.sum] T (0, 0))
theorem Blk9.new (T : TypeId) (w : World) (p : PlaceV) : Blk9 T (w.alloc (.cells #[.int .i64 p.seg, .int .i64 p.pos, .int .i64 p.len, .int .i64 p.r.kind, .int .i64 p.r.batch, .string p.r.key, .string p.r.val, .int .i64 p.r.cnt, .int .i64 p.r.sum] T)) w.heap.size p := heap_alloc_new w _
theorem Blk9.lt {T : TypeId} {w : World} {B : Nat} {p : PlaceV} (h : Blk9 T w B p) : B < w.heap.size := (Array.getElem?_eq_some_iff.1 h).1
theorem Blk9.later {T : TypeId} {w w' : World} {B K : Nat} {p : PlaceV} (h : Blk9 T w B p) (hb : Below K w w') (hK : B < K) : Blk9 T w' B p := (hb.block _ hK).trans h
theorem Blk9.after {T : TypeId} {w w' : World} {B : Nat} {p : PlaceV} (h : Blk9 T w B p) (hb : Below w.heap.size w w') : Blk9 T w' B p := h.later hb h.lt

end Go.Proofs.YtphbinkkgmlnmaaGreatDoor
namespace Go.Proofs.YtphbinkkgmlnmaaGreatDoor
open Go.RowKit
open Plain

def ofStep (b : Int) (out : List PlaceV) (p : PlaceV) : List PlaceV :=
  if p.r.batch = b then (if p.r.kind = 3 then [] else if p.r.kind = 1 ∨ p.r.kind = 2 then out ++ [p] else out) else out
/-- The records of a batch behind the last seal of it. -/
def ofB (l : List PlaceV) (b : Int) : List PlaceV := l.foldl (ofStep b) []
def kpStep (out : List PlaceV) (p : PlaceV) : List PlaceV := if p.r.kind = 5 then [] else if p.r.kind = 4 then out ++ [p] else out
/-- What is kept behind the last mark. -/
def keptP (l : List PlaceV) : List PlaceV := l.foldl kpStep []
def fitsP (r : RecV) (own : List PlaceV) : Bool := decide (r.cnt = (own.length : Int) ∧ r.sum = ((crcN (cat (own.map PlaceV.r)) : Nat) : Int))
def seS (s : List PlaceV × List Int) (p : PlaceV) : List PlaceV × List Int := (s.1 ++ [p], if p.r.kind = 3 ∧ fitsP p.r (ofB s.1 p.r.batch) = true then s.2 ++ [p.r.batch] else s.2)
/-- The batches of the seals that fit. -/
def sealF (l : List PlaceV) : List Int := (l.foldl seS ([], [])).2

theorem seS_fst (l : List PlaceV) : ∀ s, (l.foldl seS s).1 = s.1 ++ l := by
  induction l with
  | nil => intro s; simp
  | cons p r ih => intro s; rw [List.foldl_cons, ih]; simp [seS]
theorem sealF_snoc (pre : List PlaceV) (p : PlaceV) : sealF (pre ++ [p]) = if p.r.kind = 3 ∧ fitsP p.r (ofB pre p.r.batch) = true then sealF pre ++ [p.r.batch] else sealF pre := by
  unfold sealF
  rw [List.foldl_append, List.foldl_cons, List.foldl_nil]
  show (if _ then _ else _) = _
  rw [seS_fst, List.nil_append]
theorem ofB_snoc (pre : List PlaceV) (p : PlaceV) (b : Int) : ofB (pre ++ [p]) b = ofStep b (ofB pre b) p := by unfold ofB; rw [List.foldl_append]; rfl
theorem keptP_snoc (pre : List PlaceV) (p : PlaceV) : keptP (pre ++ [p]) = kpStep (keptP pre) p := by unfold keptP; rw [List.foldl_append]; rfl
theorem take_snoc (l : List PlaceV) (k : Nat) (h : k < l.length) : l.take (k + 1) = l.take k ++ [l[k]] := List.take_succ_eq_append_getElem h
theorem sealF_succ (l : List PlaceV) (k : Nat) (h : k < l.length) : sealF (l.take (k + 1)) = if (l[k]).r.kind = 3 ∧ fitsP (l[k]).r (ofB (l.take k) (l[k]).r.batch) = true then sealF (l.take k) ++ [(l[k]).r.batch] else sealF (l.take k) := by rw [take_snoc l k h, sealF_snoc]
theorem ofStep_len (b : Int) (out : List PlaceV) (p : PlaceV) : (ofStep b out p).length ≤ out.length + 1 := by
  unfold ofStep
  split
  · split
    · simp
    · split
      · simp
      · omega
  · omega
theorem foldl_len {f : List PlaceV → PlaceV → List PlaceV} (h : ∀ o p, (f o p).length ≤ o.length + 1) (l : List PlaceV) : ∀ o, (l.foldl f o).length ≤ o.length + l.length := by
  induction l with
  | nil => intro o; simp
  | cons p r ih =>
    intro o
    rw [List.foldl_cons, List.length_cons]
    have := ih (f o p)
    have := h o p
    omega
theorem ofB_len (l : List PlaceV) (b : Int) : (ofB l b).length ≤ l.length := by
  have := foldl_len (ofStep_len b) l []
  rw [List.length_nil, Nat.zero_add] at this
  exact this
theorem kpStep_len (out : List PlaceV) (p : PlaceV) : (kpStep out p).length ≤ out.length + 1 := by
  unfold kpStep
  split
  · simp
  · split
    · simp
    · omega
theorem keptP_len (l : List PlaceV) : (keptP l).length ≤ l.length := by
  have := foldl_len kpStep_len l []
  rw [List.length_nil, Nat.zero_add] at this
  exact this
/-- Every record of the one is one of the other. -/
theorem ofB_mem (l : List PlaceV) (b : Int) : ∀ p, p ∈ ofB l b → p ∈ l := by
  have h : ∀ (r o : List PlaceV) (p : PlaceV), p ∈ r.foldl (ofStep b) o → p ∈ o ∨ p ∈ r := by
    intro r
    induction r with
    | nil => intro o p hp; exact .inl hp
    | cons q r ih =>
      intro o p hp
      rcases ih _ _ hp with h1 | h1
      · unfold ofStep at h1
        split at h1
        · split at h1
          · simp at h1
          · split at h1
            · rcases List.mem_append.1 h1 with h2 | h2
              · exact .inl h2
              · obtain rfl : p = q := by simpa using h2
                exact .inr List.mem_cons_self
            · exact .inl h1
        · exact .inl h1
      · exact .inr (List.mem_cons_of_mem _ h1)
  intro p hp
  rcases h l [] p hp with h1 | h1
  · simp at h1
  · exact h1
theorem keptP_mem (l : List PlaceV) : ∀ p, p ∈ keptP l → p ∈ l := by
  have h : ∀ (r o : List PlaceV) (p : PlaceV), p ∈ r.foldl kpStep o → p ∈ o ∨ p ∈ r := by
    intro r
    induction r with
    | nil => intro o p hp; exact .inl hp
    | cons q r ih =>
      intro o p hp
      rcases ih _ _ hp with h1 | h1
      · unfold kpStep at h1
        split at h1
        · simp at h1
        · split at h1
          · rcases List.mem_append.1 h1 with h2 | h2
            · exact .inl h2
            · obtain rfl : p = q := by simpa using h2
              exact .inr List.mem_cons_self
          · exact .inl h1
      · exact .inr (List.mem_cons_of_mem _ h1)
  intro p hp
  rcases h l [] p hp with h1 | h1
  · simp at h1
  · exact h1

end Go.Proofs.YtphbinkkgmlnmaaGreatDoor
namespace Go.Proofs.YtphbinkkgmlnmaaGreatDoor
open Go.RowKit
open Plain

/-- An entry: a key, and where its record stands. -/
structure EntV where
  key : ByteArray
  seg : Int
  pos : Int
  len : Int
  bat : Int
theorem EntV.ext' {r q : EntV} (h1 : r.key = q.key) (h2 : r.seg = q.seg) (h3 : r.pos = q.pos) (h4 : r.len = q.len) (h5 : r.bat = q.bat) : r = q := by
  cases r; cases q; simp_all
def entSh : Shape EntV where
  cells := fun r => [.string r.key, .int .i64 r.seg, .int .i64 r.pos, .int .i64 r.len, .int .i64 r.bat]
  k := 5
  len := fun _ => rfl
  one := fun r u h => by
    simp only [List.mem_cons, List.not_mem_nil, or_false] at h
    rcases h with rfl | rfl | rfl | rfl | rfl <;> rfl
  pos := by decide
def zeroE : EntV := ⟨⟨#[]⟩, 0, 0, 0, 0⟩
theorem Tryz.infoEnt : (Tryz.prog.info? 59).map (fun i => (i.zero, i.size, i.bytes)) = some (some (.agg #[.string ⟨#[]⟩, .int .i64 0, .int .i64 0, .int .i64 0, .int .i64 0]), 5, 48) := by kernel_rfl

theorem ent_cells {w : World} {a : Option Addr} {n : Nat} {xs : List EntV} (h : entSh.Row w a n xs) (i : Nat) (hi : i < xs.length) : ∃ b off, a = some ⟨b, off, none⟩ ∧ b < w.heap.size ∧
    w.cell? ⟨b, off + i * 5, none⟩ = some (.string (xs[i]).key) ∧ w.cell? ⟨b, off + i * 5 + 1, none⟩ = some (.int .i64 (xs[i]).seg) ∧ w.cell? ⟨b, off + i * 5 + 2, none⟩ = some (.int .i64 (xs[i]).pos) ∧ w.cell? ⟨b, off + i * 5 + 3, none⟩ = some (.int .i64 (xs[i]).len) ∧ w.cell? ⟨b, off + i * 5 + 4, none⟩ = some (.int .i64 (xs[i]).bat) := by
  obtain ⟨b, off, h1, h2, h3⟩ := h.cells i hi
  exact ⟨b, off, h1, h2, h3 0 (by decide), h3 1 (by decide), h3 2 (by decide), h3 3 (by decide), h3 4 (by decide)⟩

/-- 'out = append(out, e)', out a row of entries of the call's own, e in a new block. -/
theorem wpList_app_ent {ops : Array Oper} {rest : List Oper} {o : Oper} {act : Act} {Q : Exit → Act → World → Prop} (hgd : o.guard = none) (s x : Operand)
    (ho : o.op = .call { callee := .builtin .append, args := #[s, x], argTypes := #[24, 24] }) {w : World} {base : Nat} {v : Value} {xs : List EntV} (r : EntV) (hown : entSh.Own 59 w base v xs) (hb : base ≤ w.heap.size) (hn : xs.length ≤ 1099511627775)
    {N : Nat} (hs : act.eval s = v) (hx : act.eval x = .slice (some ⟨N, 0, none⟩) 1 1) (hN : w.heap.size = N)
    (h : ∀ a' n' cap' w', n' = xs.length + 1 → entSh.Own 59 w' base (.slice a' n' cap') (xs ++ [r]) → Below base w w' → wpList Tryz.prog ops Q rest (act.put o.dst (.slice a' n' cap')) w') :
    wpList Tryz.prog ops Q (o :: rest) act (w.alloc (.cells #[.string r.key, .int .i64 r.seg, .int .i64 r.pos, .int .i64 r.len, .int .i64 r.bat] 59)) := by
  subst hN
  obtain ⟨i0, hi, hz0, hz1, hz2⟩ := info_parts Tryz.infoEnt
  have hA : Below w.heap.size w (w.alloc (.cells (entSh.cells r).toArray 59)) := (Below.refl _ _).alloc (Nat.le_refl _) _
  refine entSh.wpList_app (P := Tryz.prog) hgd s x 24 59 ho Tryz.underlying24 hi hz0 hz1 hz2 rfl (by decide) (hown.later hA (Nat.le_refl _)) (Nat.le_trans hb hA.size) (Shape.Row.single entSh 59 w r) (by omega) hs hx ?_
  intro a' n' cap' w' hn' ho' hg
  refine h a' n' cap' w' hn' ho' ?_
  refine (hA.mono hb).trans ?_
  exact (Below.refl _ _).grown hg (Nat.le_trans hb hA.size) (fun g hg => (hown.blk g hg).1)

/-- Are two entries the same? -/
def eqE (p q : EntV) : Bool := decide (p.key = q.key ∧ p.seg = q.seg ∧ p.pos = q.pos ∧ p.len = q.len ∧ p.bat = q.bat)
theorem eqE_iff (p q : EntV) : eqE p q = true ↔ p = q := by
  unfold eqE
  rw [decide_eq_true_iff]
  exact ⟨fun h => EntV.ext' h.1 h.2.1 h.2.2.1 h.2.2.2.1 h.2.2.2.2, fun h => by subst h; exact ⟨rfl, rfl, rfl, rfl, rfl⟩⟩
theorem eqE_no {p q : EntV} (h : ¬ p = q) : eqE p q = false := Bool.eq_false_iff.2 (fun e => h ((eqE_iff p q).1 e))

/-- Five cells: an entry. -/
def At5 (w : World) (b o : Nat) (f : EntV) : Prop := w.cell? ⟨b, o, none⟩ = some (.string f.key) ∧ w.cell? ⟨b, o + 1, none⟩ = some (.int .i64 f.seg) ∧ w.cell? ⟨b, o + 2, none⟩ = some (.int .i64 f.pos) ∧ w.cell? ⟨b, o + 3, none⟩ = some (.int .i64 f.len) ∧ w.cell? ⟨b, o + 4, none⟩ = some (.int .i64 f.bat)
theorem At5.later {w w' : World} {b o K : Nat} {f : EntV} (h : At5 w b o f) (hb : Below K w w') (hK : b < K) : At5 w' b o f :=
  ⟨by rw [hb.cell (p := ⟨b, _, none⟩) hK]; exact h.1, by rw [hb.cell (p := ⟨b, _, none⟩) hK]; exact h.2.1, by rw [hb.cell (p := ⟨b, _, none⟩) hK]; exact h.2.2.1, by rw [hb.cell (p := ⟨b, _, none⟩) hK]; exact h.2.2.2.1, by rw [hb.cell (p := ⟨b, _, none⟩) hK]; exact h.2.2.2.2⟩
theorem ent_at {w : World} {a : Option Addr} {n : Nat} {xs : List EntV} (h : entSh.Row w a n xs) (i : Nat) (hi : i < xs.length) : ∃ b off, a = some ⟨b, off, none⟩ ∧ b < w.heap.size ∧ At5 w b (off + i * 5) (xs[i]) := by
  obtain ⟨b, off, h1, h2, h3⟩ := ent_cells h i hi
  exact ⟨b, off, h1, h2, h3⟩
theorem cells5 {w : World} {B : Nat} {x0 x1 x2 x3 x4 : Value} {ty : TypeId} (h : w.heap[B]? = some (.cells #[x0, x1, x2, x3, x4] ty (0, 0))) :
    w.cell? ⟨B, 0, none⟩ = some x0 ∧ w.cell? ⟨B, 1, none⟩ = some x1 ∧ w.cell? ⟨B, 2, none⟩ = some x2 ∧ w.cell? ⟨B, 3, none⟩ = some x3 ∧ w.cell? ⟨B, 4, none⟩ = some x4 ∧ w.frozen? ⟨B, 0, none⟩ = false ∧ w.frozen? ⟨B, 1, none⟩ = false ∧ w.frozen? ⟨B, 2, none⟩ = false ∧ w.frozen? ⟨B, 3, none⟩ = false ∧ w.frozen? ⟨B, 4, none⟩ = false := by
  have hf : ∀ j, w.frozen? ⟨B, j, none⟩ = false := fun j => by simp [World.frozen?, h]
  refine ⟨?_, ?_, ?_, ?_, ?_, hf 0, hf 1, hf 2, hf 3, hf 4⟩ <;> rw [cell_of_row w B _ _ _ _ h] <;> rfl
/-- Block B is an entry of the call's own. -/
def Blk5 (w : World) (B : Nat) (f : EntV) : Prop := w.heap[B]? = some (.cells #[.string f.key, .int .i64 f.seg, .int .i64 f.pos, .int .i64 f.len, .int .i64 f.bat] 59 (0, 0))
theorem Blk5.new (w : World) (f : EntV) : Blk5 (w.alloc (.cells #[.string f.key, .int .i64 f.seg, .int .i64 f.pos, .int .i64 f.len, .int .i64 f.bat] 59)) w.heap.size f := heap_alloc_new w _
theorem Blk5.lt {w : World} {B : Nat} {f : EntV} (h : Blk5 w B f) : B < w.heap.size := (Array.getElem?_eq_some_iff.1 h).1
theorem Blk5.later {w w' : World} {B K : Nat} {f : EntV} (h : Blk5 w B f) (hb : Below K w w') (hK : B < K) : Blk5 w' B f := (hb.block _ hK).trans h
/-- Five cells of a block above are written. -/
theorem below_set5 {n : Nat} {w w' : World} {B : Nat} (h : Below n w w') (hB : n ≤ B) (v0 v1 v2 v3 v4 : Value) : Below n w (((((w'.setCell ⟨B, 0, none⟩ v0).setCell ⟨B, 1, none⟩ v1).setCell ⟨B, 2, none⟩ v2).setCell ⟨B, 3, none⟩ v3).setCell ⟨B, 4, none⟩ v4) :=
  Below.setCell (Below.setCell (Below.setCell (Below.setCell (Below.setCell h (by exact hB) _) (by exact hB) _) (by exact hB) _) (by exact hB) _) (by exact hB) _
theorem at5_new (w : World) (f : EntV) : At5 (w.alloc (.cells #[.string f.key, .int .i64 f.seg, .int .i64 f.pos, .int .i64 f.len, .int .i64 f.bat] 59)) w.heap.size 0 f := by
  refine ⟨?_, ?_, ?_, ?_, ?_⟩ <;> rw [cell_of_row _ _ _ _ _ _ (heap_alloc_new w _)] <;> rfl

end Go.Proofs.YtphbinkkgmlnmaaGreatDoor
namespace Go.Proofs.YtphbinkkgmlnmaaGreatDoor
open Go.RowKit
open Plain

/-- Does the one text stand ahead of the other? -/
def klt (a b : ByteArray) : Bool := Op.bytesLess a.toList b.toList
theorem blt_lt : ∀ (x y : List UInt8), Op.bytesLess x y = decide (x < y)
  | x, [] => by simp [Op.bytesLess]
  | [], b :: y => by simp [Op.bytesLess]
  | a :: x, b :: y => by
    rw [Op.bytesLess, blt_lt x y]
    simp only [List.cons_lt_cons_iff]
    by_cases h1 : a < b <;> by_cases h2 : a = b <;> by_cases h3 : x < y <;> simp [h1, h2, h3]
theorem klt_iff {a b : ByteArray} : klt a b = true ↔ a.toList < b.toList := by unfold klt; rw [blt_lt, decide_eq_true_iff]
theorem klt_no {a b : ByteArray} : klt a b = false ↔ ¬ a.toList < b.toList := by unfold klt; rw [blt_lt, decide_eq_false_iff_not]
theorem klt_trans {a b c : ByteArray} (h : klt a b = true) (h2 : klt b c = true) : klt a c = true := klt_iff.2 (List.lt_trans (klt_iff.1 h) (klt_iff.1 h2))
theorem klt_asymm {a b : ByteArray} (h : klt a b = true) : klt b a = false := klt_no.2 (List.lt_asymm (klt_iff.1 h))
theorem klt_irrefl (a : ByteArray) : klt a a = false := klt_no.2 (List.lt_irrefl _)
theorem klt_other {a b : ByteArray} (h : klt a b = false) (hn : ¬ b = a) : klt b a = true := by
  rw [klt_no] at h
  rw [klt_iff]
  rcases List.le_iff_lt_or_eq.1 (List.not_lt.1 h) with h1 | h1
  · exact h1
  · exact absurd (toList_inj h1) hn
theorem klt_ne {a b : ByteArray} (h : klt a b = true) : ¬ a = b := fun e => by rw [e, klt_irrefl] at h; cases h
def dropE (xs : List EntV) (key : ByteArray) : List EntV := xs.filter (fun e => decide (¬ e.key = key))
def insE : List EntV → EntV → List EntV
  | [], e => [e]
  | x :: r, e => if klt e.key x.key = true then e :: x :: r else x :: insE r e
def putE (xs : List EntV) (e : EntV) : List EntV := insE (dropE xs e.key) e
def getE (xs : List EntV) (key : ByteArray) : Option EntV := xs.find? (fun e => decide (e.key = key))

theorem dropE_len (xs : List EntV) (key : ByteArray) : (dropE xs key).length ≤ xs.length := List.length_filter_le _ _
theorem dropE_succ_ne (xs : List EntV) (key : ByteArray) (k : Nat) (h : k < xs.length) (hk : ¬ (xs[k]).key = key) : dropE (xs.take (k + 1)) key = dropE (xs.take k) key ++ [xs[k]] := by
  unfold dropE
  rw [List.take_succ_eq_append_getElem h, List.filter_append]
  simp [hk]
theorem dropE_succ_eq (xs : List EntV) (key : ByteArray) (k : Nat) (h : k < xs.length) (hk : (xs[k]).key = key) : dropE (xs.take (k + 1)) key = dropE (xs.take k) key := by
  unfold dropE
  rw [List.take_succ_eq_append_getElem h, List.filter_append]
  simp [hk]
/-- No entry of the list stands behind e. -/
def NoneGt (xs : List EntV) (e : EntV) : Prop := ∀ x, x ∈ xs → klt e.key x.key = false
theorem insE_behind (xs : List EntV) (r : List EntV) (e : EntV) (h : NoneGt xs e) : insE (xs ++ r) e = xs ++ insE r e := by
  induction xs with
  | nil => rfl
  | cons x l ih =>
    have h1 := h x List.mem_cons_self
    rw [List.cons_append, insE, if_neg (by rw [h1]; simp), ih (fun y hy => h y (List.mem_cons_of_mem _ hy)), List.cons_append]
theorem insE_end (xs : List EntV) (e : EntV) (h : NoneGt xs e) : insE xs e = xs ++ [e] := by
  have := insE_behind xs [] e h
  rw [List.append_nil] at this
  exact this
theorem insE_more (xs : List EntV) (r : List EntV) (e : EntV) (h : ∃ x, x ∈ xs ∧ klt e.key x.key = true) : insE (xs ++ r) e = insE xs e ++ r := by
  induction xs with
  | nil => obtain ⟨x, hx, _⟩ := h; simp at hx
  | cons x l ih =>
    rw [List.cons_append, insE, insE]
    by_cases hx : klt e.key x.key = true
    · rw [if_pos hx, if_pos hx]
      rfl
    · rw [if_neg hx, if_neg hx, List.cons_append]
      obtain ⟨y, hy, hg⟩ := h
      rcases List.mem_cons.1 hy with rfl | hy
      · exact absurd hg hx
      · rw [ih ⟨y, hy, hg⟩]
theorem insE_len (xs : List EntV) (e : EntV) : (insE xs e).length = xs.length + 1 := by
  induction xs with
  | nil => rfl
  | cons x l ih =>
    rw [insE]
    split
    · rfl
    · rw [List.length_cons, ih, List.length_cons]
theorem insE_at (xs : List EntV) (e : EntV) (k : Nat) (hk : k < xs.length) (h1 : NoneGt (xs.take k) e) (h2 : klt e.key (xs[k]).key = true) : insE xs e = xs.take k ++ e :: xs.drop k := by
  have h := insE_behind (xs.take k) (xs.drop k) e h1
  rw [List.take_append_drop] at h
  rw [h, List.drop_eq_getElem_cons hk, insE, if_pos h2]

/-- What spec.DirPut holds behind its first k entries. -/
structure PutSt (xs : List EntV) (e : EntV) (k : Nat) (done : Bool) (out : List EntV) : Prop where
  no : done = false → out = dropE (xs.take k) e.key ∧ NoneGt (dropE (xs.take k) e.key) e
  yes : done = true → out = insE (dropE (xs.take k) e.key) e ∧ ∃ x, x ∈ dropE (xs.take k) e.key ∧ klt e.key x.key = true
theorem PutSt.start (xs : List EntV) (e : EntV) : PutSt xs e 0 false [] := ⟨fun _ => ⟨rfl, fun x hx => by simp [dropE] at hx⟩, fun h => by cases h⟩
theorem PutSt.same {xs : List EntV} {e : EntV} {k : Nat} {done : Bool} {out : List EntV} (h : PutSt xs e k done out) (hk : k < xs.length) (he : (xs[k]).key = e.key) : PutSt xs e (k + 1) done out := by
  have hd := dropE_succ_eq xs e.key k hk he
  exact ⟨fun q => by rw [hd]; exact h.no q, fun q => by rw [hd]; exact h.yes q⟩
theorem PutSt.gt {xs : List EntV} {e : EntV} {k : Nat} {out : List EntV} (h : PutSt xs e k false out) (hk : k < xs.length) (he : ¬ (xs[k]).key = e.key) (hg : klt e.key (xs[k]).key = true) : PutSt xs e (k + 1) true (out ++ [e] ++ [xs[k]]) := by
  have hd := dropE_succ_ne xs e.key k hk he
  obtain ⟨h1, h2⟩ := h.no rfl
  refine ⟨fun q => (by cases q), fun _ => ⟨?_, xs[k], ?_, hg⟩⟩
  · rw [hd, insE_behind _ _ _ h2, h1, insE, if_pos hg]
    simp
  · rw [hd]; simp
theorem PutSt.le {xs : List EntV} {e : EntV} {k : Nat} {out : List EntV} (h : PutSt xs e k false out) (hk : k < xs.length) (he : ¬ (xs[k]).key = e.key) (hg : klt e.key (xs[k]).key = false) : PutSt xs e (k + 1) false (out ++ [xs[k]]) := by
  have hd := dropE_succ_ne xs e.key k hk he
  obtain ⟨h1, h2⟩ := h.no rfl
  refine ⟨fun _ => ⟨by rw [hd, h1], fun x hx => ?_⟩, fun q => by cases q⟩
  rw [hd] at hx
  rcases List.mem_append.1 hx with hx | hx
  · exact h2 x hx
  · obtain rfl : x = xs[k] := by simpa using hx
    exact hg
theorem PutSt.on {xs : List EntV} {e : EntV} {k : Nat} {out : List EntV} (h : PutSt xs e k true out) (hk : k < xs.length) (he : ¬ (xs[k]).key = e.key) : PutSt xs e (k + 1) true (out ++ [xs[k]]) := by
  have hd := dropE_succ_ne xs e.key k hk he
  obtain ⟨h1, y, hy, hg⟩ := h.yes rfl
  refine ⟨fun q => (by cases q), fun _ => ⟨?_, y, ?_, hg⟩⟩
  · rw [hd, insE_more _ _ _ ⟨y, hy, hg⟩, h1]
  · rw [hd]; exact List.mem_append_left _ hy
theorem PutSt.end_no {xs : List EntV} {e : EntV} {out : List EntV} (h : PutSt xs e xs.length false out) : putE xs e = out ++ [e] := by
  obtain ⟨h1, h2⟩ := h.no rfl
  rw [List.take_length] at h1 h2
  unfold putE
  rw [insE_end _ _ h2, h1]
theorem PutSt.end_yes {xs : List EntV} {e : EntV} {out : List EntV} (h : PutSt xs e xs.length true out) : putE xs e = out := by
  obtain ⟨h1, _⟩ := h.yes rfl
  rw [List.take_length] at h1
  exact h1.symm
theorem PutSt.len {xs : List EntV} {e : EntV} {k : Nat} {done : Bool} {out : List EntV} (h : PutSt xs e k done out) : out.length ≤ k + 1 := by
  have h1 := dropE_len (xs.take k) e.key
  rw [List.length_take] at h1
  cases done with
  | false => rw [(h.no rfl).1]; omega
  | true => rw [(h.yes rfl).1, insE_len]; omega
theorem getE_none {xs : List EntV} {key : ByteArray} {k : Nat} (hk : k < xs.length) (h : getE (xs.take k) key = none) (hn : ¬ (xs[k]).key = key) : getE (xs.take (k + 1)) key = none := by
  unfold getE at h ⊢
  rw [List.take_succ_eq_append_getElem hk, List.find?_append, h]
  simp [hn]
theorem getE_here {xs : List EntV} {key : ByteArray} {k : Nat} (hk : k < xs.length) (h : getE (xs.take k) key = none) (hn : (xs[k]).key = key) : getE xs key = some (xs[k]) := by
  unfold getE at h ⊢
  have e : xs = xs.take k ++ xs[k] :: xs.drop (k + 1) := by
    rw [← List.drop_eq_getElem_cons hk, List.take_append_drop]
  have h2 : (xs.take k ++ xs[k] :: xs.drop (k + 1)).find? (fun e => decide (e.key = key)) = some (xs[k]) := by
    rw [List.find?_append, h, List.find?_cons_of_pos (by simpa using hn)]
    rfl
  rw [← e] at h2
  exact h2

end Go.Proofs.YtphbinkkgmlnmaaGreatDoor
namespace Go.Proofs.YtphbinkkgmlnmaaGreatDoor
open Go.RowKit
open Plain

/-- What Regroup is handed and answers. -/
structure GroupV where
  dir : List EntV
  last : Int
  code : Int

def entOf (p : PlaceV) : EntV := ⟨p.r.key, p.seg, p.pos, p.len, p.r.batch⟩
def putP (dir : List EntV) (p : PlaceV) : List EntV := if p.r.kind = 2 then dropE dir p.r.key else putE dir (entOf p)
def behindP (dir : List EntV) (own : List PlaceV) : List EntV := own.foldl putP dir
/-- The directory behind a seal or a mark that fits, and the code. -/
def fitG (x : GroupV) (own : List PlaceV) (last : Int) : GroupV := ⟨behindP x.dir own, last, if 20 < (behindP x.dir own).length then 2 else 0⟩
def stepG (pre : List PlaceV) (x : GroupV) (p : PlaceV) : GroupV :=
  if x.code = 0 then
    if p.r.kind = 3 then (if fitsP p.r (ofB pre p.r.batch) = true then fitG x (ofB pre p.r.batch) (max x.last p.r.batch) else ⟨x.dir, max x.last p.r.batch, 0⟩)
    else if p.r.kind = 5 then (if fitsP p.r (keptP pre) = true then fitG x (keptP pre) (max x.last p.r.batch) else ⟨x.dir, max x.last p.r.batch, 1⟩)
    else ⟨x.dir, max x.last p.r.batch, 0⟩
  else x
def regS (s : List PlaceV × GroupV) (p : PlaceV) : List PlaceV × GroupV := (s.1 ++ [p], stepG s.1 s.2 p)
/-- Behind these records. -/
def regL (g : GroupV) (l : List PlaceV) : GroupV := (l.foldl regS ([], g)).2
def endG (x : GroupV) (l : List PlaceV) : GroupV := if x.code = 0 ∧ ¬ keptP l = [] then ⟨x.dir, x.last, 1⟩ else x
def regF (g : GroupV) (l : List PlaceV) : GroupV := endG (regL g l) l

theorem regS_fst (l : List PlaceV) : ∀ s, (l.foldl regS s).1 = s.1 ++ l := by
  induction l with
  | nil => intro s; simp
  | cons p r ih => intro s; rw [List.foldl_cons, ih]; simp [regS]
theorem regL_snoc (g : GroupV) (pre : List PlaceV) (p : PlaceV) : regL g (pre ++ [p]) = stepG pre (regL g pre) p := by
  unfold regL
  rw [List.foldl_append, List.foldl_cons, List.foldl_nil]
  show stepG _ _ p = _
  rw [regS_fst, List.nil_append]
theorem regL_succ (g : GroupV) (l : List PlaceV) (k : Nat) (h : k < l.length) : regL g (l.take (k + 1)) = stepG (l.take k) (regL g (l.take k)) (l[k]) := by rw [take_snoc l k h, regL_snoc]
/-- Where the code is not 0, the rest is not looked at. -/
theorem regL_stuck (g : GroupV) (l : List PlaceV) (k : Nat) (hc : ¬ (regL g (l.take k)).code = 0) : ∀ j, regL g (l.take (k + j)) = regL g (l.take k) := by
  intro j
  induction j with
  | zero => rfl
  | succ j ih =>
    by_cases h : k + j < l.length
    · rw [← Nat.add_assoc, regL_succ g l (k + j) h, ih]
      unfold stepG
      rw [if_neg hc]
    · rw [List.take_of_length_le (by omega), ← ih, List.take_of_length_le (by omega)]
theorem regF_stuck (g : GroupV) (l : List PlaceV) (k : Nat) (x : GroupV) (hx : regL g (l.take k) = x) (hc : ¬ x.code = 0) : regF g l = x := by
  have h := regL_stuck g l k (by rw [hx]; exact hc) l.length
  rw [List.take_of_length_le (by omega), hx] at h
  unfold regF endG
  rw [h, if_neg (fun q => hc q.1)]
theorem regF_end (g : GroupV) (l : List PlaceV) (k : Nat) (x : GroupV) (hk : l.length ≤ k) (hx : regL g (l.take k) = x) : regF g l = endG x l := by
  rw [List.take_of_length_le hk] at hx
  unfold regF
  rw [hx]

theorem putE_len' (xs : List EntV) (p : EntV) : (putE xs p).length ≤ xs.length + 1 := by
  unfold putE
  rw [insE_len]
  have := dropE_len xs p.key
  omega
theorem putP_len (dir : List EntV) (p : PlaceV) : (putP dir p).length ≤ dir.length + 1 := by
  unfold putP
  split
  · have := dropE_len dir p.r.key
    omega
  · exact putE_len' _ _
theorem behindP_len (own : List PlaceV) : ∀ dir, (behindP dir own).length ≤ dir.length + own.length := by
  induction own with
  | nil => intro dir; exact Nat.le_refl _
  | cons p r ih =>
    intro dir
    show (behindP (putP dir p) r).length ≤ _
    have h1 := ih (putP dir p)
    have h2 := putP_len dir p
    rw [List.length_cons]
    omega
theorem behindP_succ (dir : List EntV) (own : List PlaceV) (k : Nat) (h : k < own.length) : behindP dir (own.take (k + 1)) = putP (behindP dir (own.take k)) (own[k]) := by
  unfold behindP
  rw [take_snoc own k h, List.foldl_append]
  rfl
/-- At the head of a round the directory is small, or what it was at first. -/
theorem regL_dir (g : GroupV) (l : List PlaceV) : ∀ k, (regL g (l.take k)).code = 0 → (regL g (l.take k)).dir.length ≤ 20 + g.dir.length := by
  intro k
  induction k with
  | zero => intro _; show g.dir.length ≤ _; omega
  | succ k ih =>
    by_cases h : k < l.length
    · rw [regL_succ g l k h]
      generalize regL g (l.take k) = x at ih ⊢
      intro hc
      have fit : ∀ own last, (fitG x own last).code = 0 → (fitG x own last).dir.length ≤ 20 + g.dir.length := by
        intro own last h
        unfold fitG at h ⊢
        simp only at h ⊢
        split at h
        · cases h
        · omega
      unfold stepG at hc ⊢
      split at hc
      · rename_i h0
        rw [if_pos h0]
        split at hc
        · rename_i h3
          rw [if_pos h3]
          split at hc
          · rename_i hf; rw [if_pos hf]; exact fit _ _ hc
          · rename_i hf; rw [if_neg hf]; exact ih h0
        · rename_i h3
          rw [if_neg h3]
          split at hc
          · rename_i h5
            rw [if_pos h5]
            split at hc
            · rename_i hf; rw [if_pos hf]; exact fit _ _ hc
            · cases hc
          · rename_i h5; rw [if_neg h5]; exact ih h0
      · rename_i h0; exact absurd hc h0
    · rw [List.take_of_length_le (by omega)]
      intro hc
      rw [List.take_of_length_le (by omega)] at ih
      exact ih hc

/-- A record that the law leaves in. -/
def keepS (S : List Int) (p : PlaceV) : Bool := !(decide ((p.r.kind = 1 ∨ p.r.kind = 2) ∧ ¬ p.r.batch ∈ S))
def lessP (S : List Int) (l : List PlaceV) : List PlaceV := l.filter (keepS S)
theorem lessP_snoc (S : List Int) (pre : List PlaceV) (p : PlaceV) : lessP S (pre ++ [p]) = if (p.r.kind = 1 ∨ p.r.kind = 2) ∧ ¬ p.r.batch ∈ S then lessP S pre else lessP S pre ++ [p] := by
  unfold lessP
  rw [List.filter_append]
  split
  · rename_i h
    have : keepS S p = false := by unfold keepS; rw [decide_eq_true h]; rfl
    simp [this]
  · rename_i h
    have : keepS S p = true := by unfold keepS; rw [decide_eq_false h]; rfl
    simp [this]
theorem less_of (S : List Int) (b : Int) (l : List PlaceV) : ∀ k, ofB (lessP S (l.take k)) b = if b ∈ S then ofB (l.take k) b else [] := by
  intro k
  induction k with
  | zero => simp [lessP, ofB]
  | succ k ih =>
    by_cases h : k < l.length
    · rw [take_snoc l k h, lessP_snoc, ofB_snoc]
      generalize l[k] = p
      by_cases hb : b ∈ S
      · rw [if_pos hb] at ih ⊢
        split
        · rename_i hq
          have : ¬ p.r.batch = b := fun e => hq.2 (e ▸ hb)
          unfold ofStep
          rw [if_neg this, ih]
        · rw [ofB_snoc, ih]
      · rw [if_neg hb] at ih ⊢
        split
        · exact ih
        · rename_i hq
          rw [ofB_snoc, ih]
          unfold ofStep
          split
          · rename_i he
            split
            · rfl
            · split
              · rename_i hk
                exact absurd ⟨hk, he ▸ hb⟩ hq
              · rfl
          · rfl
    · rw [List.take_of_length_le (by omega)]
      rw [List.take_of_length_le (by omega)] at ih
      exact ih
theorem less_kept (S : List Int) (l : List PlaceV) : ∀ k, keptP (lessP S (l.take k)) = keptP (l.take k) := by
  intro k
  induction k with
  | zero => rfl
  | succ k ih =>
    by_cases h : k < l.length
    · rw [take_snoc l k h, lessP_snoc, keptP_snoc]
      generalize l[k] = p
      split
      · rename_i hq
        rw [ih]
        unfold kpStep
        rw [if_neg (by rcases hq.1 with e | e <;> rw [e] <;> decide), if_neg (by rcases hq.1 with e | e <;> rw [e] <;> decide)]
      · rw [keptP_snoc, ih]
    · rw [List.take_of_length_le (by omega)]
      rw [List.take_of_length_le (by omega)] at ih
      exact ih
theorem sealF_mono (l : List PlaceV) (k : Nat) : ∀ j b, b ∈ sealF (l.take k) → b ∈ sealF (l.take (k + j)) := by
  intro j
  induction j with
  | zero => intro b h; exact h
  | succ j ih =>
    intro b h
    by_cases hl : k + j < l.length
    · rw [← Nat.add_assoc, sealF_succ l (k + j) hl]
      split
      · exact List.mem_append_left _ (ih b h)
      · exact ih b h
    · have := ih b h
      rw [List.take_of_length_le (by omega)] at this
      rw [List.take_of_length_le (by omega)]
      exact this
theorem sealF_has (l : List PlaceV) (k : Nat) (h : k < l.length) (h3 : (l[k]).r.kind = 3) (hf : fitsP (l[k]).r (ofB (l.take k) (l[k]).r.batch) = true) : (l[k]).r.batch ∈ sealF l := by
  have h1 : (l[k]).r.batch ∈ sealF (l.take (k + 1)) := by
    rw [sealF_succ l k h, if_pos ⟨h3, hf⟩]
    simp
  have h2 := sealF_mono l (k + 1) l.length _ h1
  rw [List.take_of_length_le (by omega)] at h2
  exact h2
/-- No seal of a batch that is not sealed counts 0. -/
def noneZero (S : List Int) (l : List PlaceV) : Prop := ∀ p, p ∈ lessP S l → p.r.kind = 3 → ¬ p.r.batch ∈ S → ¬ p.r.cnt = 0
structure Alike (x y : GroupV) : Prop where
  code : x.code = y.code
  dir : x.dir = y.dir
  last : x.last ≤ y.last
theorem Alike.fit {x y : GroupV} (h : Alike x y) (own : List PlaceV) {a b : Int} (hab : a ≤ b) : Alike (fitG x own a) (fitG y own b) := by
  unfold fitG
  exact ⟨by simp only [h.dir], by simp only [h.dir], hab⟩
theorem less_reg (g : GroupV) (l : List PlaceV) (hz : noneZero (sealF l) l) : ∀ k, Alike (regL g (lessP (sealF l) (l.take k))) (regL g (l.take k)) := by
  intro k
  induction k with
  | zero => exact ⟨rfl, rfl, Int.le_refl _⟩
  | succ k ih =>
    by_cases h : k < l.length
    · have hs := sealF_has l k h
      have hm : l[k] ∈ l := List.getElem_mem h
      have ho := fun b => less_of (sealF l) b l k
      have hk := less_kept (sealF l) l k
      rw [take_snoc l k h, lessP_snoc, regL_snoc]
      generalize hp : l[k] = p at hs hm ⊢
      generalize regL g (l.take k) = y at ih ⊢
      split
      · rename_i hq
        generalize regL g (lessP (sealF l) (l.take k)) = x at ih ⊢
        unfold stepG
        split
        · rw [if_neg (by rcases hq.1 with e | e <;> rw [e] <;> decide), if_neg (by rcases hq.1 with e | e <;> rw [e] <;> decide)]
          rename_i h0
          exact ⟨ih.code.trans h0, ih.dir, Int.le_trans ih.last (Int.le_max_left _ _)⟩
        · exact ih
      · rename_i hq
        have hin : p ∈ lessP (sealF l) l := by
          unfold lessP
          rw [List.mem_filter]
          refine ⟨hm, ?_⟩
          unfold keepS
          rw [decide_eq_false hq]
          rfl
        have hzp := hz p hin
        rw [regL_snoc]
        generalize regL g (lessP (sealF l) (l.take k)) = x at ih ⊢
        have hmax : max x.last p.r.batch ≤ max y.last p.r.batch := by have := ih.last; omega
        have hrest : Alike (⟨x.dir, max x.last p.r.batch, 0⟩ : GroupV) ⟨y.dir, max y.last p.r.batch, 0⟩ := ⟨rfl, ih.dir, hmax⟩
        have hmark : Alike (⟨x.dir, max x.last p.r.batch, 1⟩ : GroupV) ⟨y.dir, max y.last p.r.batch, 1⟩ := ⟨rfl, ih.dir, hmax⟩
        unfold stepG
        rw [hk, ho p.r.batch, ih.code]
        by_cases h0 : y.code = 0
        · rw [if_pos h0, if_pos h0]
          by_cases h3 : p.r.kind = 3
          · rw [if_pos h3, if_pos h3]
            by_cases hb : p.r.batch ∈ sealF l
            · rw [if_pos hb]
              by_cases hf : fitsP p.r (ofB (l.take k) p.r.batch) = true
              · rw [if_pos hf, if_pos hf]; exact ih.fit _ hmax
              · rw [if_neg hf, if_neg hf]; exact hrest
            · rw [if_neg hb]
              have hc := hzp h3 hb
              have h1 : ¬ fitsP p.r [] = true := fun q => hc (of_decide_eq_true q).1
              have h2 : ¬ fitsP p.r (ofB (l.take k) p.r.batch) = true := fun q => hb (hs h3 q)
              rw [if_neg h1, if_neg h2]
              exact hrest
          · rw [if_neg h3, if_neg h3]
            by_cases h5 : p.r.kind = 5
            · rw [if_pos h5, if_pos h5]
              by_cases hf : fitsP p.r (keptP (l.take k)) = true
              · rw [if_pos hf, if_pos hf]; exact ih.fit _ hmax
              · rw [if_neg hf, if_neg hf]; exact hmark
            · rw [if_neg h5, if_neg h5]; exact hrest
        · rw [if_neg h0, if_neg h0]; exact ih
    · rw [List.take_of_length_le (by omega)]
      rw [List.take_of_length_le (by omega)] at ih
      exact ih
/-- What the law asks. -/
theorem less_regF (g : GroupV) (l : List PlaceV) (hz : noneZero (sealF l) l) : Alike (regF g (lessP (sealF l) l)) (regF g l) := by
  have h := less_reg g l hz l.length
  have hk := less_kept (sealF l) l l.length
  rw [List.take_of_length_le (Nat.le_refl _)] at h hk
  unfold regF endG
  rw [hk, h.code]
  split
  · exact ⟨rfl, h.dir, h.last⟩
  · exact h

end Go.Proofs.YtphbinkkgmlnmaaGreatDoor
namespace Go.Proofs.YtphbinkkgmlnmaaGreatDoor
open Go.RowKit
open Plain

theorem Shape.Row.mem {α : Type} {S : Shape α} {w : World} {a : Option Addr} {n : Nat} {xs : List α} (h : S.Row w a n xs) : xs.length = n := h.len
theorem ieq (a b : Int) (h : a = b) : (a == b) = true := by simpa using h
theorem ine (a b : Int) (h : ¬ a = b) : (a == b) = false := by simpa using h
/-- Every text of the places can be, every batch is a number. -/
def PFits (l : List PlaceV) : Prop := ∀ p, p ∈ l → p.r.key.size ≤ maxLen ∧ p.r.val.size ≤ maxLen ∧ (Lit.int .i64 p.r.batch).wf = true
theorem PFits.sub {l m : List PlaceV} (h : PFits l) (hm : ∀ p, p ∈ m → p ∈ l) : PFits m := fun p hp => h p (hm p hp)

set_option maxRecDepth 100000 in
set_option maxHeartbeats 1000000 in
theorem specRecs_any (w : World) (a : Option Addr) (n cap : Nat) (xs : List PlaceV) (hr : plSh.Row w a n xs) (hn : n ≤ 1048576) :
    Calls Tryz.prog 50 #[.slice a n cap] w fun e w' => (∃ a' n' cap', e = .returned (.slice a' n' cap') ∧ recSh.Own 35 w' w.heap.size (.slice a' n' cap') (xs.map PlaceV.r)) ∧ Below w.heap.size w w' := by
  have hlen := hr.len
  have HR := hide hr
  have HO0 := hide (Shape.Own.empty recSh 35 w)
  have HB0 := hide (al1 w (.cells #[] 35))
  clear hr
  go_enter Tryz.func50, Tryz.ntmps50
  go_wp2
  go_loopw [3, 4] (fun v i wr => ∃ (k : Nat) (a' : Option Addr) (n' c' : Nat), k ≤ n ∧ v = .slice a' n' c' ∧ i = .int .i64 k ∧ Hid (recSh.Own 35 wr w.heap.size (.slice a' n' c') ((xs.take k).map PlaceV.r)) ∧ Hid (Below w.heap.size w wr)) (fun _ i _ => n - (intOf i).toNat)
  case atStart => exact ⟨0, _, 0, 0, by omega, rfl, rfl, HO0, HB0⟩
  case round =>
    clear HO0 HB0
    obtain ⟨k, a', n', c', hk, rfl, rfl, HO, HB⟩ := hrel
    by_cases hlt : k < n
    · have hkf : k < xs.length := by omega
      obtain ⟨b, off, rfl, hbw, e0, e1, e2, e3, e4, e5, e6, e7, e8⟩ := pl_cells (HR.out.later HB.out) k hkf
      have HSZ := hide HB.out.size
      have HE : Hid ((xs.take (k + 1)).map PlaceV.r = (xs.take k).map PlaceV.r ++ [(xs[k]).r]) := hide (by rw [take_snoc xs k hkf, List.map_append]; rfl)
      have hl : ((xs.take k).map PlaceV.r).length ≤ 1048576 := by rw [List.length_map, List.length_take]; omega
      obtain ⟨z, hz⟩ : ∃ z, xs[k] = z := ⟨_, rfl⟩
      rw [hz] at e0 e1 e2 e3 e4 e5 e6 e7 e8 HE
      clear hz
      go_wp2_with (at_builtin; refine wpList_app_rec rfl _ _ rfl z.r HO.out HSZ.out (by omega) rfl rfl rfl ?_; intro a3 n3 cap3 w3 hn3 ho3 hb3; clear hn3)
      have HO3 := hide ho3
      have HB3 := hide (HB.out.trans hb3)
      clear ho3 hb3 HO HB
      go_roundw
      case rel => exact ⟨k + 1, a3, n3, cap3, by omega, rfl, by go_num, by rw [HE.out]; exact HO3, HB3⟩
      case measure => first | (simp [intOf]; done) | (simp [intOf]; omega)
    · obtain rfl : k = n := by omega
      have HT : Hid (xs.take k = xs) := hide (List.take_of_length_le (by omega))
      go_wp2
      go_ret
      exact ⟨⟨a', n', c', rfl, by have h := HO.out; rw [HT.out] at h; exact h⟩, HB.out⟩

theorem recs_fit {l : List PlaceV} (h : PFits l) : ∀ i, (hi : i < (l.map PlaceV.r).length) → ((l.map PlaceV.r)[i]).val.size ≤ maxLen := fun i hi => by
  rw [List.getElem_map]
  exact (h _ (List.getElem_mem _)).2.1

set_option maxRecDepth 100000 in
set_option maxHeartbeats 2000000 in
theorem specFits_any (w : World) (a : Option Addr) (n cap : Nat) (xs : List PlaceV) (hr : plSh.Row w a n xs) (hf : PFits xs) (hn : n ≤ 1048576) (r : RecV) :
    Calls Tryz.prog 29 #[.agg #[.int .i64 r.kind, .int .i64 r.batch, .string r.key, .string r.val, .int .i64 r.cnt, .int .i64 r.sum], .slice a n cap] w fun e w' => e = .returned (.bool (fitsP r xs)) ∧ Below w.heap.size w w' := by
  have hlen := hr.len
  have HB0 := hide (al1 w (.cells #[.int .i64 r.kind, .int .i64 r.batch, .string r.key, .string r.val, .int .i64 r.cnt, .int .i64 r.sum] 35))
  by_cases h1 : r.cnt = (n : Int)
  · have t1 := ieq _ _ h1
    have HK : Hid (∀ W, Below (w.alloc (.cells #[.int .i64 r.kind, .int .i64 r.batch, .string r.key, .string r.val, .int .i64 r.cnt, .int .i64 r.sum] 35)).heap.size (w.alloc (.cells #[.int .i64 r.kind, .int .i64 r.batch, .string r.key, .string r.val, .int .i64 r.cnt, .int .i64 r.sum] 35)) W → W.cell? ⟨w.heap.size, 4, none⟩ = some (.int .i64 r.cnt) ∧ W.cell? ⟨w.heap.size, 5, none⟩ = some (.int .i64 r.sum) ∧ Hid (Below (w.alloc (.cells #[.int .i64 r.kind, .int .i64 r.batch, .string r.key, .string r.val, .int .i64 r.cnt, .int .i64 r.sum] 35)).heap.size (w.alloc (.cells #[.int .i64 r.kind, .int .i64 r.batch, .string r.key, .string r.val, .int .i64 r.cnt, .int .i64 r.sum] 35)) W)) := hide (fun W h => by
      have h0 := (h.block w.heap.size (by simp)).trans (heap_alloc_new w _)
      refine ⟨?_, ?_, hide h⟩ <;> rw [cell_of_row _ _ _ _ _ _ h0] <;> rfl)
    have HRS : Hid (∀ W, Below (w.alloc (.cells #[.int .i64 r.kind, .int .i64 r.batch, .string r.key, .string r.val, .int .i64 r.cnt, .int .i64 r.sum] 35)).heap.size (w.alloc (.cells #[.int .i64 r.kind, .int .i64 r.batch, .string r.key, .string r.val, .int .i64 r.cnt, .int .i64 r.sum] 35)) W → _) := hide (fun W (hW : Below (w.alloc (.cells #[.int .i64 r.kind, .int .i64 r.batch, .string r.key, .string r.val, .int .i64 r.cnt, .int .i64 r.sum] 35)).heap.size (w.alloc (.cells #[.int .i64 r.kind, .int .i64 r.batch, .string r.key, .string r.val, .int .i64 r.cnt, .int .i64 r.sum] 35)) W) => specRecs_any W a n cap xs ((hr.later HB0.out).later hW) hn)
    have hml : (xs.map PlaceV.r).length = n := by rw [List.length_map]; exact hlen
    have HSM := hide (fun W a' c' (h : recSh.Row W a' n (xs.map PlaceV.r)) => specSumOf_any W a' n c' (xs.map PlaceV.r) h hn (recs_fit hf))
    have HV : Hid (fitsP r xs = (r.sum == ((crcN (cat (xs.map PlaceV.r)) : Nat) : Int))) := hide (by
      unfold fitsP
      rw [hlen]
      by_cases h2 : r.sum = ((crcN (cat (xs.map PlaceV.r)) : Nat) : Int)
      · rw [ieq _ _ h2]; exact decide_eq_true ⟨h1, h2⟩
      · rw [ine _ _ h2]; exact decide_eq_false (fun q => h2 q.2))
    obtain ⟨W, hW⟩ : ∃ W, W = w.alloc (.cells #[.int .i64 r.kind, .int .i64 r.batch, .string r.key, .string r.val, .int .i64 r.cnt, .int .i64 r.sum] 35) := ⟨_, rfl⟩
    rw [← hW] at HK HRS HB0
    clear h1 hr hf
    generalize crcN (cat (xs.map PlaceV.r)) = c at *
    rw [HV.out]
    go_enter Tryz.func29, Tryz.ntmps29
    go_wp2_with fail
    rw [← hW]
    clear hW
    have S1 := HK.out W.drew (Below.refl _ _).drew
    first
      | (go_region_held3 (fun W' => W'.cell? ⟨w.heap.size, 4, none⟩ = some (.int .i64 r.cnt) ∧ W'.cell? ⟨w.heap.size, 5, none⟩ = some (.int .i64 r.sum) ∧ Hid (Below W.heap.size W W')) (assumption) (first
          | (go_at_call 50; refine (HRS.out W.drew S1.2.2.out).mono ?_; rintro e w2 ⟨⟨a1, n1, c1, rfl, ho1⟩, hb2⟩; have hn1 := ho1.len; rw [hml] at hn1; subst hn1; have hk2 := hide (S1.2.2.out.trans (hb2.mono S1.2.2.out.size)); have hS2 := HK.out w2 hk2.out; have HR2 := hide ho1.row; clear ho1 hb2)
          | (go_at_call 49; refine (HSM.out w2 _ _ HR2.out).mono ?_; rintro e w3 ⟨rfl, hb3⟩; have hk3 := hide (hk2.out.trans (hb3.mono hk2.out.size)); have hS3 := HK.out w3 hk3.out; clear hb3)))
      | fail
    have HB3 := hide (HB0.out.trans (hk3.out.mono HB0.out.size))
    clear hS3 hk3 hS2 hk2 HR2 S1
    go_wp2
    go_ret
    exact ⟨rfl, HB3.out⟩
  · have t1 := ine _ _ h1
    have HV : Hid (fitsP r xs = false) := hide (decide_eq_false (fun h => h1 (by rw [h.1, hlen])))
    clear h1 hr hf
    go_enter Tryz.func29, Tryz.ntmps29
    go_wp2
    go_region
    go_wp2
    go_ret
    exact ⟨by rw [HV.out]; rfl, HB0.out.drew⟩

end Go.Proofs.YtphbinkkgmlnmaaGreatDoor
