/-
  Rows that stand while others are written: at a seat with disks the disk's texts have them. A slice of ints, and how it lies in the world; the laws' toIntS and eqIntS. Lists of segments with no Go in sight: which are right. A list of segments in the world: the struct's block, and the laws' szLive, toLive and eqLive. Records in plain words: their six fields, which are right, and which key is one. When the text of Var is a beginning of another text. The text of Var. The text of Fixed. The round trips of Var and of Fixed, with no Go in sight: what is made of a number is read as it, whatever stands behind, and only that; what ReadVar tells of a text, as a function. The texts of records, with no Go in sight: what ShowRec makes, and how such a text is read back, piece by piece. What a function answers in whatever world. What impl.putBehind does: it lays the bytes that it is handed behind those that a row of the call's own already bears, and tells the place behind them. What impl.Var answers at every number; it makes new memory only. What impl.Fixed answers at every number and every width; it makes new memory only. What impl.ReadFixed answers, at every text of at most 1048576 bytes and every width; it leaves the world as it was. What impl.ReadVar answers at every text of at most 1048576 bytes; it leaves the world as it was. Contracts of chapter 1's functions at every number, as records want them: what they answer in whatever world. impl's taker: what it holds, and what its three methods take from the front of a text. impl's taker's number: all blocks but the taker's own stand. Plain facts on the sum of chapter 2, with no Go in sight: one halving is linear over exclusive or, a table of sixteen makes four halvings, and no other bytes within four in a row have the same sum. Frames with no Go in sight: what Frame makes, and with whose frame a text begins. Lists of segments with no Go in sight: which are right, what ShowLive makes of one, what is read back. Reading a list of segments, number by number, with no Go in sight.
-/
import Derived.Test.YthnealhaleccpaaGreatDoorG00
import Derived.Laws.CopyOwn
import Derived.Laws.StructEq
import Derived.Below
import Derived.BigQuiet
import Derived.Deep.QuietTactic

namespace Go.Proofs.YthnealhaleccpaaGreatDoor
open Go.RowKit
open Plain

/-- The slice shows these numbers; what it leads to lies in blocks from base on. -/
structure IRow (w : World) (base : Nat) (a : Option Addr) (len : Nat) (zs : List Int) : Prop where
  len : zs.length = len
  cells : ∀ i, (h : i < zs.length) → ∃ b off, a = some ⟨b, off, none⟩ ∧ base ≤ b ∧ b < w.heap.size ∧ w.cell? ⟨b, off + i, none⟩ = some (.int .i64 (zs[i]))
theorem IRow.later {w w' : World} {base K : Nat} {a : Option Addr} {len : Nat} {zs : List Int} (h : IRow w base a len zs) (hb : Below K w w') (hK : w.heap.size ≤ K) : IRow w' base a len zs where
  len := h.len
  cells := fun i hi => by
    obtain ⟨b, off, h1, h2, h3, h4⟩ := h.cells i hi
    refine ⟨b, off, h1, h2, Nat.lt_of_lt_of_le h3 hb.size, ?_⟩
    rw [hb.cell (p := ⟨b, _, none⟩) (Nat.lt_of_lt_of_le h3 hK)]
    exact h4
/-- The same in a row of the call's own. -/
def IOwn (w : World) (base : Nat) (v : Value) (zs : List Int) : Prop := w.ownsRow base 3 1 v zs.length (zs.map (Value.int .i64))
theorem IOwn.len {w : World} {base : Nat} {a : Option Addr} {n cap : Nat} {zs : List Int} (h : IOwn w base (.slice a n cap) zs) : zs.length = n := by
  rcases h.2 with ⟨e, h0⟩ | ⟨g, c, cur, e, _⟩
  · simp only [Value.slice.injEq] at e; omega
  · simp only [Value.slice.injEq] at e; omega
theorem IOwn.row {w : World} {base : Nat} {a : Option Addr} {n cap : Nat} {zs : List Int} (h : IOwn w base (.slice a n cap) zs) : IRow w 0 a n zs where
  len := h.len
  cells := fun i hi => by
    have hn := h.len
    unfold IOwn at h
    rw [hn] at h
    rcases h.2 with ⟨e, h0⟩ | ⟨g, c, cur, e, hb, hg, _⟩
    · omega
    · simp only [Value.slice.injEq] at e
      obtain ⟨rfl, _, rfl⟩ := e
      have hgl : g < w.heap.size := by
        rcases Nat.lt_or_ge g w.heap.size with h' | h'
        · exact h'
        · rw [Array.getElem?_eq_none h'] at hg; cases hg
      refine ⟨g, 0, rfl, Nat.zero_le _, hgl, ?_⟩
      rw [Nat.zero_add, h.cellAt _ (by omega)]
      simp [hi]
theorem IOwn.later {w w' : World} {base K : Nat} {v : Value} {zs : List Int} (h : IOwn w base v zs) (hb : Below K w w') (hK : w.heap.size ≤ K) : IOwn w' base v zs := own_later h hb hK
theorem IOwn.mono {w : World} {base base' : Nat} {v : Value} {zs : List Int} (h : IOwn w base v zs) (hb : base' ≤ base) : IOwn w base' v zs := by
  refine ⟨h.1, ?_⟩
  rcases h.2 with h | ⟨g, c, cur, e, hbg, h1⟩
  · exact .inl h
  · exact .inr ⟨g, c, cur, e, Nat.le_trans hb hbg, h1⟩
theorem IOwn.blk {w : World} {base : Nat} {v : Value} {zs : List Int} (h : IOwn w base v zs) : ∀ g, v.ownBlock = some g → base ≤ g ∧ g < w.heap.size := World.ownsRow.lt h
/-- A number put into its place. -/
theorem IOwn.put {w : World} {base g n cap : Nat} {zs : List Int} (h : IOwn w base (.slice (some ⟨g, 0, none⟩) n cap) zs) (i : Nat) (z : Int) :
    IOwn (w.setCell ⟨g, i, none⟩ (.int .i64 z)) base (.slice (some ⟨g, 0, none⟩) n cap) (zs.set i z) ∧ w.grownBy (w.setCell ⟨g, i, none⟩ (.int .i64 z)) (some g) := by
  have hn := h.len
  unfold IOwn at h ⊢
  rw [hn] at h
  rw [List.length_set, hn, List.map_set]
  exact h.stored i (.int .i64 z)

theorem Tryz.info3 : (Tryz.prog.info? 3).map (fun i => (i.zero, i.size, i.bytes)) = some (some (.int .i64 0), 1, 8) := by kernel_rfl
/-- 'out = append(out, z)', out a row of ints of the call's own: a law for the walk. -/
theorem wpList_app_i64 {ops : Array Oper} {rest : List Oper} {o : Oper} {act : Act} {Q : Exit → Act → World → Prop} (hgd : o.guard = none) (s x : Operand)
    (ho : o.op = .call { callee := .builtin .append, args := #[s, x], argTypes := #[24, 24] }) {w : World} {base K : Nat} {v : Value} {xs : List Value} (z : Int) (hown : (w.alloc (.cells #[.int .i64 z] 3)).ownsRow base 3 1 v K xs) (hb : base ≤ w.heap.size)
    (hn : K ≤ 1000) (hs : act.eval s = v) (hx : act.eval x = .slice (some ⟨w.heap.size, 0, none⟩) 1 1)
    (h : ∀ v' w', w'.ownsRow base 3 1 v' (K + 1) (xs ++ [.int .i64 z]) → (w.alloc (.cells #[.int .i64 z] 3)).grownBy w' v.ownBlock → wpList Tryz.prog ops Q rest (act.put o.dst v') w') :
    wpList Tryz.prog ops Q (o :: rest) act (w.alloc (.cells #[.int .i64 z] 3)) := by
  obtain ⟨i0, hi, hz0, hz1, hz2⟩ := info_parts Tryz.info3
  refine wpList_append_own (P := Tryz.prog) (w.alloc (.cells #[.int .i64 z] 3)) hgd s x 24 ho base 3 i0 _ 1 8 Tryz.underlying24 hi hz0 hz1 hz2 rfl (by decide) v K _ hs hown ⟨w.heap.size, 0, none⟩ 1 1 [.int .i64 z] hx rfl (fun j u h => ?_) (fun u hu => by simp at hu; subst hu; rfl) (by unfold maxLen; omega) (by omega) (by simp; omega) ?_
  · rw [addr_add, Nat.zero_add, cell_of_row _ _ _ _ _ _ (heap_alloc_new w _)]
    simpa using h
  · intro v' w' ho' hg _
    exact h v' w' ho' hg
theorem takeI_set_succ (gs fs : List Int) (k : Nat) (hk : k < fs.length) (hg : k < gs.length) (h : gs.take k = fs.take k) : (gs.set k (fs[k])).take (k + 1) = fs.take (k + 1) := by
  rw [List.take_succ_eq_append_getElem (by rw [List.length_set]; exact hg), List.take_succ_eq_append_getElem hk, List.take_set_of_le (Nat.le_refl _), h]
  simp

end Go.Proofs.YthnealhaleccpaaGreatDoor
namespace Go.Proofs.YthnealhaleccpaaGreatDoor
open Go.RowKit
open Plain

structure LiveV where
  next : Int
  ids : List Int
/-- Numbers that rise from above prev on, up to next - 1. -/
def okFrom (next : Int) : Int → List Int → Bool
  | _, [] => true
  | prev, x :: r => decide (prev < x ∧ x ≤ next - 1) && okFrom next x r
def liveB (v : LiveV) : Bool := decide (1 ≤ v.next ∧ v.next ≤ 100000 ∧ 1 ≤ v.ids.length ∧ v.ids.length ≤ 60) && okFrom v.next 0 v.ids
theorem okFrom_bd (next : Int) (l : List Int) : ∀ prev, 0 ≤ prev → okFrom next prev l = true → ∀ x ∈ l, 0 < x ∧ x ≤ next - 1 := by
  induction l with
  | nil => intro prev _ _ x hx; cases hx
  | cons y r ih =>
    intro prev hp h x hx
    rw [okFrom, Bool.and_eq_true, decide_eq_true_iff] at h
    rcases List.mem_cons.1 hx with rfl | hx
    · omega
    · exact ih y (by omega) h.2 x hx
theorem live_bd {v : LiveV} (h : liveB v = true) : (1 ≤ v.next ∧ v.next ≤ 100000) ∧ (1 ≤ v.ids.length ∧ v.ids.length ≤ 60) ∧ ∀ x ∈ v.ids, 0 < x ∧ x ≤ 99999 := by
  unfold liveB at h
  rw [Bool.and_eq_true, decide_eq_true_iff] at h
  refine ⟨⟨h.1.1, h.1.2.1⟩, ⟨h.1.2.2.1, h.1.2.2.2⟩, fun x hx => ?_⟩
  have := okFrom_bd _ _ 0 (by omega) h.2 x hx
  omega

end Go.Proofs.YthnealhaleccpaaGreatDoor
namespace Go.Proofs.YthnealhaleccpaaGreatDoor
open Go.RowKit
open Plain

/-- Block B holds a list of segments, whose numbers lie where they may be read; what was there in w is untouched. -/
structure LvAt (w : World) (B : Nat) (T : TypeId) (x : Int) (a : Option Addr) (n cap : Nat) (zs : List Int) (W : World) : Prop where
  row : W.heap[B]? = some (.cells #[.int .i64 x, .slice a n cap] T (0, 0))
  ids : IRow W 0 a n zs
  bel : Below w.heap.size w W
theorem LvAt.later {w : World} {B : Nat} {T : TypeId} {x : Int} {a : Option Addr} {n cap : Nat} {zs : List Int} {W W' : World} (h : LvAt w B T x a n cap zs W) (hb : Below W.heap.size W W') : LvAt w B T x a n cap zs W' :=
  ⟨(hb.block _ (by
    rcases Nat.lt_or_ge B W.heap.size with h' | h'
    · exact h'
    · have := h.row; rw [Array.getElem?_eq_none h'] at this; cases this)).trans h.row, h.ids.later hb (Nat.le_refl _), h.bel.trans (hb.mono h.bel.size)⟩
theorem LvAt.cells {w : World} {B : Nat} {T : TypeId} {x : Int} {a : Option Addr} {n cap : Nat} {zs : List Int} {W : World} (h : LvAt w B T x a n cap zs W) : W.cell? ⟨B, 0, none⟩ = some (.int .i64 x) ∧ W.cell? ⟨B, 1, none⟩ = some (.slice a n cap) := by
  refine ⟨?_, ?_⟩ <;> (rw [cell_of_row W B _ _ _ _ h.row]; rfl)
theorem LvAt.free {w : World} {B : Nat} {T : TypeId} {x : Int} {a : Option Addr} {n cap : Nat} {zs : List Int} {W : World} (h : LvAt w B T x a n cap zs W) (j : Nat) : W.frozen? ⟨B, j, none⟩ = false := by simp [World.frozen?, h.row]
theorem LvAt.new {w : World} (T : TypeId) (x : Int) {a : Option Addr} {n : Nat} (cap : Nat) {zs : List Int} (h : IRow w 0 a n zs) : LvAt w w.heap.size T x a n cap zs (w.alloc (.cells #[.int .i64 x, .slice a n cap] T)) :=
  ⟨heap_alloc_new w _, h.later ((Below.refl _ w).alloc (Nat.le_refl _) _) (Nat.le_refl _), (Below.refl _ w).alloc (Nat.le_refl _) _⟩

theorem size_al (w : World) (o : Obj) : (w.alloc o).heap.size = w.heap.size + 1 := by simp
theorem cells2 {w : World} {B : Nat} {x0 x1 : Value} {ty : TypeId} (h : w.heap[B]? = some (.cells #[x0, x1] ty (0, 0))) :
    w.cell? ⟨B, 0, none⟩ = some x0 ∧ w.cell? ⟨B, 1, none⟩ = some x1 ∧ w.frozen? ⟨B, 0, none⟩ = false ∧ w.frozen? ⟨B, 1, none⟩ = false := by
  have hf : ∀ j, w.frozen? ⟨B, j, none⟩ = false := fun j => by simp [World.frozen?, h]
  refine ⟨?_, ?_, hf 0, hf 1⟩ <;> rw [cell_of_row w B _ _ _ _ h] <;> rfl
theorem IOwn.setCell {w : World} {base : Nat} {v : Value} {zs : List Int} (h : IOwn w base v zs) (p : Addr) (u : Value) (hp : p.block < base) : IOwn (w.setCell p u) base v zs := by
  refine ⟨h.1, ?_⟩
  rcases h.2 with h | ⟨g, c, cur, e, hbg, hg, h1⟩
  · exact .inl h
  · exact .inr ⟨g, c, cur, e, hbg, by rw [Below.heap_setCell w p u g (by omega)]; exact hg, h1⟩
/-- Two, three new blocks. -/
theorem news2 (w : World) (o0 o1 : Obj) : ((w.alloc o0).alloc o1).heap.size = w.heap.size + 2 ∧ Below w.heap.size w ((w.alloc o0).alloc o1) ∧
    ((w.alloc o0).alloc o1).heap[w.heap.size]? = some o0 ∧ ((w.alloc o0).alloc o1).heap[w.heap.size + 1]? = some o1 := by
  refine ⟨by simp, ((Below.refl _ w).alloc (Nat.le_refl _) _).alloc (by simp) _, ?_, ?_⟩
  · rw [Below.heap_alloc _ _ _ (by rw [size_al]; omega)]
    exact heap_alloc_new w o0
  · have := heap_alloc_new (w.alloc o0) o1
    rw [size_al] at this
    exact this
theorem news3 (w : World) (o0 o1 o2 : Obj) : (((w.alloc o0).alloc o1).alloc o2).heap.size = w.heap.size + 3 ∧ Below w.heap.size w (((w.alloc o0).alloc o1).alloc o2) ∧
    (((w.alloc o0).alloc o1).alloc o2).heap[w.heap.size]? = some o0 ∧ (((w.alloc o0).alloc o1).alloc o2).heap[w.heap.size + 1]? = some o1 ∧ (((w.alloc o0).alloc o1).alloc o2).heap[w.heap.size + 1 + 1]? = some o2 := by
  obtain ⟨h1, h2, h3, h4⟩ := news2 w o0 o1
  refine ⟨by simp, h2.alloc (by simp; omega) _, ?_, ?_, ?_⟩
  · rw [Below.heap_alloc _ _ _ (by omega)]
    exact h3
  · rw [Below.heap_alloc _ _ _ (by omega)]
    exact h4
  · have := heap_alloc_new ((w.alloc o0).alloc o1) o2
    rw [size_al, size_al] at this
    exact this

end Go.Proofs.YthnealhaleccpaaGreatDoor
namespace Go.Proofs.YthnealhaleccpaaGreatDoor
open Go.RowKit
open Plain

/-- A record. -/
structure RecV where
  kind : Int
  batch : Int
  key : ByteArray
  val : ByteArray
  cnt : Int
  sum : Int
theorem RecV.ext' {r q : RecV} (h1 : r.kind = q.kind) (h2 : r.batch = q.batch) (h3 : r.key = q.key) (h4 : r.val = q.val) (h5 : r.cnt = q.cnt) (h6 : r.sum = q.sum) : r = q := by
  cases r; cases q; simp_all

/-- Is it a key? -/
def keyB (s : ByteArray) : Bool := decide (1 ≤ s.size ∧ s.size ≤ 8)
theorem keyB_yes {s : ByteArray} (h : 1 ≤ s.size ∧ s.size ≤ 8) : keyB s = true := decide_eq_true h
theorem keyB_no {s : ByteArray} (h : ¬ (1 ≤ s.size ∧ s.size ≤ 8)) : keyB s = false := decide_eq_false h

/-- What a right record is. -/
def RecOkP (k b : Int) (key val : Nat) (c s : Int) : Prop :=
  (1 ≤ b ∨ (b = 0 ∧ k = 5)) ∧ b ≤ 1000000 ∧
    (((k = 1 ∨ k = 4) ∧ 1 ≤ key ∧ key ≤ 8 ∧ val ≤ 24 ∧ c = 0 ∧ s = 0) ∨
     (k = 2 ∧ 1 ≤ key ∧ key ≤ 8 ∧ val = 0 ∧ c = 0 ∧ s = 0) ∨
     (k = 3 ∧ key = 0 ∧ val = 0 ∧ 0 ≤ c ∧ c ≤ 8 ∧ 0 ≤ s ∧ s ≤ 4294967295) ∨
     (k = 5 ∧ key = 0 ∧ val = 0 ∧ 0 ≤ c ∧ c ≤ 20 ∧ 0 ≤ s ∧ s ≤ 4294967295))
/-- The same as an answer. -/
def okN (k b : Int) (key val : Nat) (c s : Int) : Bool :=
  decide ((1 ≤ b ∨ (b = 0 ∧ k = 5)) ∧ b ≤ 1000000 ∧
    (((k = 1 ∨ k = 4) ∧ 1 ≤ key ∧ key ≤ 8 ∧ val ≤ 24 ∧ c = 0 ∧ s = 0) ∨
     (k = 2 ∧ 1 ≤ key ∧ key ≤ 8 ∧ val = 0 ∧ c = 0 ∧ s = 0) ∨
     (k = 3 ∧ key = 0 ∧ val = 0 ∧ 0 ≤ c ∧ c ≤ 8 ∧ 0 ≤ s ∧ s ≤ 4294967295) ∨
     (k = 5 ∧ key = 0 ∧ val = 0 ∧ 0 ≤ c ∧ c ≤ 20 ∧ 0 ≤ s ∧ s ≤ 4294967295)))
theorem okN_yes {k b : Int} {key val : Nat} {c s : Int} (h : RecOkP k b key val c s) : okN k b key val c s = true := decide_eq_true h
theorem okN_no {k b : Int} {key val : Nat} {c s : Int} (h : ¬ RecOkP k b key val c s) : okN k b key val c s = false := decide_eq_false h
theorem okN_iff {k b : Int} {key val : Nat} {c s : Int} : okN k b key val c s = true ↔ RecOkP k b key val c s := decide_eq_true_iff
def recOkB (r : RecV) : Bool := okN r.kind r.batch r.key.size r.val.size r.cnt r.sum

theorem empty_of {a : ByteArray} (h : a.size = 0) : a = ⟨#[]⟩ := by
  obtain ⟨⟨l⟩⟩ := a
  have : l.length = 0 := h
  rw [List.length_eq_zero_iff] at this
  subst this
  rfl
theorem nil_eq {a : ByteArray} (h : a.size = 0) : a.toList = [] := by rw [empty_of h, ByteArray.toList_eq]
theorem nil_ne {a : ByteArray} (h : ¬ a.size = 0) : ¬ a.toList = [] := fun e => h (by
  have : a = ⟨#[]⟩ := toList_inj (e.trans (by rw [ByteArray.toList_eq]))
  rw [this]; rfl)

end Go.Proofs.YthnealhaleccpaaGreatDoor
namespace Go.Proofs.YthnealhaleccpaaGreatDoor
open Go.RowKit
open Plain

theorem vval_drop (l : List Nat) (t b : Nat) (h : l[t]? = some b) : vval (l.drop t) = b % 128 + 128 * vval (l.drop (t + 1)) := by
  have ht : t < l.length := by
    rcases Nat.lt_or_ge t l.length with h' | h'
    · exact h'
    · rw [List.getElem?_eq_none h'] at h; simp at h
  rw [List.drop_eq_getElem_cons ht, vval]
  rw [List.getElem?_eq_getElem ht] at h
  simp at h
  rw [h]
theorem vb_byte (n : Nat) : ∀ x ∈ vb n, 0 ≤ x ∧ x < 256 := by
  induction n using Nat.strongRecOn with
  | ind n ih =>
    intro x hx
    by_cases h : n < 128
    · rw [vb_small n h] at hx
      simp at hx
      omega
    · rw [vb_big n h] at hx
      simp only [List.mem_cons] at hx
      rcases hx with rfl | hx
      · omega
      · exact ih (n / 128) (by omega) x hx
theorem var_eq_iff (s : ByteArray) (k : Nat) : ((strOfNums (vb (vval ((bl s).take k)))).toList == (s.extract 0 k).toList) = true ↔ IsVar ((bl s).take k) := by
  have e1 : (strOfNums (vb (vval ((bl s).take k)))).toList = (vb (vval ((bl s).take k))).map fun n => UInt8.ofNat n.toNat := by rw [ByteArray.toList_eq]; rfl
  have e2 : (s.extract 0 k).toList = s.data.toList.take k := by
    rw [ByteArray.toList_eq]
    simp
  rw [e1, e2, beq_iff_eq]
  have e3 : ((bl s).take k).map (fun b : Nat => (b : Int)) = (s.data.toList.take k).map (fun b : UInt8 => ((b.toNat : Nat) : Int)) := by
    rw [bl, ← List.map_take, List.map_map]; rfl
  unfold IsVar
  rw [e3]
  constructor
  · intro h
    rw [← h, List.map_map]
    have : ∀ x ∈ vb (vval ((bl s).take k)), ((fun b : UInt8 => ((b.toNat : Nat) : Int)) ∘ fun n : Int => UInt8.ofNat n.toNat) x = x := by
      intro x hx
      have := vb_byte _ x hx
      simp only [Function.comp, UInt8.toNat_ofNat']
      omega
    rw [List.map_congr_left this]
    simp
  · intro h
    rw [h, List.map_map]
    have : ∀ x ∈ s.data.toList.take k, ((fun n : Int => UInt8.ofNat n.toNat) ∘ fun b : UInt8 => ((b.toNat : Nat) : Int)) x = x := by
      intro x _
      simp
    rw [List.map_congr_left this]
    simp

end Go.Proofs.YthnealhaleccpaaGreatDoor
namespace Go.Proofs.YthnealhaleccpaaGreatDoor
open Go.RowKit
open Plain

/-- The text of Var. -/
def varS (n : Int) : ByteArray := if 0 ≤ n ∧ n ≤ 562949953421311 then strOfNums (vb n.toNat) else ⟨#[]⟩
theorem varS_size (n : Int) : (varS n).size ≤ 7 := by
  unfold varS
  split
  · rename_i h
    rw [strOfNums_size]
    exact vb_len7 _ (by omega)
  · decide

end Go.Proofs.YthnealhaleccpaaGreatDoor
namespace Go.Proofs.YthnealhaleccpaaGreatDoor
open Go.RowKit
open Plain

def fixStr (n m : Nat) : ByteArray := if n < 256 ^ m then strOfNums (low n m) else ⟨#[]⟩

end Go.Proofs.YthnealhaleccpaaGreatDoor
namespace Go.Proofs.YthnealhaleccpaaGreatDoor
open Go.RowKit
open Plain

/-! ### Var -/
theorem vval_vb (n : Nat) : vval ((vb n).map Int.toNat) = n := by
  induction n using Nat.strongRecOn with
  | ind n ih =>
    by_cases h : n < 128
    · rw [vb_small n h]; simp [vval]; omega
    · rw [vb_big n h, List.map_cons, vval, ih (n / 128) (by omega)]
      omega
theorem bl_str (xs : List Int) (h : ∀ x ∈ xs, 0 ≤ x ∧ x < 256) : bl (strOfNums xs) = xs.map Int.toNat := by
  unfold bl
  rw [strOfNums_data, List.map_map]
  apply List.map_congr_left
  intro x hx
  have := h x hx
  simp only [Function.comp, UInt8.toNat_ofNat']
  omega
theorem bl_append (s t : ByteArray) : bl (s ++ t) = bl s ++ bl t := by
  unfold bl
  simp
theorem take_bl (s t : ByteArray) (k : Nat) (h : k ≤ s.size) : (bl (s ++ t)).take k = (bl s).take k := by
  rw [bl_append, List.take_append_of_le_length (by rw [bl_length]; exact h)]
theorem toNat_cast (xs : List Int) (h : ∀ x ∈ xs, 0 ≤ x ∧ x < 256) : (xs.map Int.toNat).map (fun b : Nat => (b : Int)) = xs := by
  rw [List.map_map]
  conv => rhs; rw [← List.map_id xs]
  apply List.map_congr_left
  intro x hx
  have := h x hx
  simp only [Function.comp, id]
  omega
theorem RV_var (n : Nat) (h : n ≤ 562949953421311) (T : ByteArray) : RV (strOfNums (vb n) ++ T) n (vb n).length := by
  have hl := vb_len7 n h
  have hp := vb_pos n
  have hsz : (strOfNums (vb n)).size = (vb n).length := strOfNums_size _
  have htk : ∀ j, j ≤ (vb n).length → (bl (strOfNums (vb n) ++ T)).take j = ((vb n).map Int.toNat).take j := fun j hj => by
    rw [take_bl _ _ _ (by rw [hsz]; exact hj), bl_str _ (vb_byte n)]
  have hall : (bl (strOfNums (vb n) ++ T)).take (vb n).length = (vb n).map Int.toNat := by
    rw [htk _ (Nat.le_refl _), List.take_of_length_le (by simp)]
  have hv : IsVar ((bl (strOfNums (vb n) ++ T)).take (vb n).length) := by
    unfold IsVar
    rw [hall, vval_vb, toNat_cast _ (vb_byte n)]
  have hS : (vb n).length ≤ (strOfNums (vb n) ++ T).size := by rw [ByteArray.size_append, hsz]; omega
  refine Or.inl ⟨by omega, hl, hS, hv, by rw [hall, vval_vb], ?_⟩
  intro j h1 h2 hj
  have g1 := (isVar_take _ _ (by omega) hS).1 hv
  have g2 := (isVar_take _ j h1 (by omega)).1 hj
  have := g1.1 (j - 1) (by omega)
  omega
theorem RV_back (s : ByteArray) (z j : Nat) (h : RV s z j) : j = 0 ∨ (0 < j ∧ j ≤ s.size ∧ ((varS (z : Int)).toList == (s.extract 0 j).toList) = true) := by
  rcases h with ⟨h1, h2, h3, h4, h5, _⟩ | ⟨_, h, _⟩
  · refine Or.inr ⟨by omega, h3, ?_⟩
    have hb := vval_bd ((bl s).take j) (by rw [List.length_take]; omega)
    unfold varS
    rw [if_pos (by omega), Int.toNat_natCast, h5]
    exact (var_eq_iff s j).2 h4
  · exact Or.inl h
theorem varS_in (n : Nat) (h : n ≤ 562949953421311) : varS (n : Int) = strOfNums (vb n) := by unfold varS; rw [if_pos (by omega), Int.toNat_natCast]
theorem varS_out (n : Int) (h : n < 0 ∨ 562949953421311 < n) : varS n = ⟨#[]⟩ := by unfold varS; rw [if_neg (by omega)]
theorem empty_str (xs : List Int) : (strOfNums xs).toList.isEmpty = xs.isEmpty := by rw [ByteArray.toList_eq, strOfNums_data]; simp

/-! ### Fixed -/
/-- The text of Fixed at this width. -/
def fixN (n : Int) (m : Nat) : ByteArray := if 0 ≤ n then fixStr n.toNat m else ⟨#[]⟩
theorem fixN_in (n m : Nat) (h : n < 256 ^ m) : fixN (n : Int) m = strOfNums (low n m) := by unfold fixN fixStr; rw [if_pos (by omega), Int.toNat_natCast, if_pos h]
theorem fixN_size (n : Int) (m : Nat) : (fixN n m).size ≤ m := by
  unfold fixN fixStr
  split
  · split
    · rw [strOfNums_size, low_length]; exact Nat.le_refl _
    · exact Nat.zero_le _
  · exact Nat.zero_le _
theorem byteAt_append (s t : ByteArray) (k : Nat) (h : k < s.size) : byteAt (s ++ t) k = byteAt s k := by
  have h2 : k < (s ++ t).size := by rw [ByteArray.size_append]; omega
  have e1 := bl_get (s ++ t) k h2
  have e2 := bl_get s k h
  rw [bl_append, List.getElem?_append_left (by rw [bl_length]; exact h), e2] at e1
  rw [byteAt_eq _ _ h2, byteAt_eq _ _ h]
  simpa using e1.symm
theorem byteAt_str (xs : List Int) (hx : ∀ x ∈ xs, 0 ≤ x ∧ x < 256) (k : Nat) (v : Int) (h : xs[k]? = some v) : byteAt (strOfNums xs) k = v.toNat := by
  have hk : k < xs.length := by
    rcases Nat.lt_or_ge k xs.length with h' | h'
    · exact h'
    · rw [List.getElem?_eq_none h'] at h; simp at h
  have hs : k < (strOfNums xs).size := by rw [strOfNums_size]; exact hk
  have e := bl_get (strOfNums xs) k hs
  rw [bl_str xs hx, List.getElem?_map, h] at e
  rw [byteAt_eq _ _ hs]
  simpa using e.symm
theorem low_byte (n m : Nat) : ∀ x ∈ low n m, 0 ≤ x ∧ x < 256 := by
  intro x hx
  unfold low at hx
  simp only [List.mem_map] at hx
  obtain ⟨i, _, rfl⟩ := hx
  omega
theorem fixVal_low (n m : Nat) (T : ByteArray) : ∀ k, k ≤ m → fixVal (strOfNums (low n m) ++ T) k = n / 256 ^ (m - k) % 256 ^ k := by
  intro k
  induction k with
  | zero => intro _; simp [fixVal, Nat.mod_one]
  | succ k ih =>
    intro hk
    rw [fixVal, ih (by omega), byteAt_append _ _ _ (by rw [strOfNums_size, low_length]; omega), byteAt_str _ (low_byte n m) k _ (low_get n m k (by omega)), Int.toNat_natCast]
    have e1 : m - k = (m - (k + 1)) + 1 := by omega
    have e2 : m - 1 - k = m - (k + 1) := by omega
    rw [e1, e2, Nat.pow_succ, ← Nat.div_div_eq_div_mul]
    generalize n / 256 ^ (m - (k + 1)) = q
    rw [Nat.pow_succ 256 k, Nat.mul_comm (256 ^ k) 256, Nat.mod_mul]
    omega
theorem fixVal_m (n m : Nat) (h : n < 256 ^ m) (T : ByteArray) : fixVal (strOfNums (low n m) ++ T) m = n := by
  rw [fixVal_low n m T m (Nat.le_refl _)]
  simp only [Nat.sub_self, Nat.pow_zero, Nat.div_one]
  exact Nat.mod_eq_of_lt h
theorem fixVal_div (s : ByteArray) (j d : Nat) : fixVal s (j + d) / 256 ^ d = fixVal s j := by
  induction d with
  | zero => simp
  | succ d ih =>
    have := byteAt_lt s (j + d)
    rw [show j + (d + 1) = (j + d) + 1 from by omega, fixVal, Nat.pow_succ, Nat.mul_comm (256 ^ d) 256, ← Nat.div_div_eq_div_mul, show (fixVal s (j + d) * 256 + byteAt s (j + d)) / 256 = fixVal s (j + d) from by omega]
    exact ih
theorem bl_inj {s t : ByteArray} (h : bl s = bl t) : s = t := by
  obtain ⟨⟨a⟩⟩ := s
  obtain ⟨⟨b⟩⟩ := t
  unfold bl at h
  have h2 := congrArg (List.map UInt8.ofNat) h
  simp only [List.map_map] at h2
  have e : (UInt8.ofNat ∘ UInt8.toNat) = id := by funext x; simp
  rw [e, List.map_id, List.map_id] at h2
  rw [show a = b from h2]
theorem bl_extract (s : ByteArray) (i j : Nat) : bl (s.extract i j) = ((bl s).take j).drop i := by
  unfold bl
  simp [List.map_take, List.map_drop, List.drop_take]
theorem fix_back (s : ByteArray) (m : Nat) (h : m ≤ s.size) : strOfNums (low (fixVal s m) m) = s.extract 0 m := by
  apply bl_inj
  rw [bl_str _ (low_byte _ _), bl_extract, List.drop_zero]
  apply List.ext_getElem?
  intro k
  by_cases hk : k < m
  · rw [List.getElem?_map, low_get _ _ _ hk, List.getElem?_take, if_pos hk, bl_get s k (by omega)]
    have e := fixVal_div s (k + 1) (m - 1 - k)
    rw [show k + 1 + (m - 1 - k) = m from by omega] at e
    rw [e, fixVal, byteAt_eq s k (by omega)]
    have := UInt8.toNat_lt s[k]
    simp only [Option.map_some, Option.some.injEq, Int.toNat_natCast]
    omega
  · rw [List.getElem?_eq_none (by rw [List.length_map, low_length]; omega), List.getElem?_eq_none (by rw [List.length_take]; omega)]

/-! ### ReadVar as a function -/
def rvFrom (s : ByteArray) : Nat → Nat → Nat × Nat
  | 0, _ => (0, 0)
  | f + 1, j => if j ≤ s.size ∧ vb (vval ((bl s).take j)) = ((bl s).take j).map (fun b : Nat => (b : Int)) then (vval ((bl s).take j), j) else rvFrom s f (j + 1)
/-- What ReadVar tells: the number, and how many bytes it took. -/
def rv (s : ByteArray) : Nat × Nat := rvFrom s 7 1
theorem rvFrom_RV (s : ByteArray) : ∀ f j, j + f = 8 → 1 ≤ j → (∀ i, 1 ≤ i → i < j → i ≤ s.size → ¬ IsVar ((bl s).take i)) → RV s (rvFrom s f j).1 (rvFrom s f j).2
  | 0, j, h, _, ha => Or.inr ⟨rfl, rfl, fun i h1 h2 h3 => ha i h1 (by omega) h3⟩
  | f + 1, j, h, h1, ha => by
    rw [rvFrom]
    split
    · rename_i hc
      refine Or.inl ⟨h1, by omega, hc.1, hc.2, rfl, fun i i1 i2 => ha i i1 i2 (by omega)⟩
    · rename_i hc
      refine rvFrom_RV s f (j + 1) (by omega) (by omega) (fun i i1 i2 i3 => ?_)
      by_cases hij : i < j
      · exact ha i i1 hij i3
      · obtain rfl : i = j := by omega
        exact fun hv => hc ⟨i3, hv⟩
theorem rv_RV (s : ByteArray) : RV s (rv s).1 (rv s).2 := rvFrom_RV s 7 1 rfl (Nat.le_refl _) (fun i h1 h2 => by omega)
theorem rv_of {s : ByteArray} {n k : Nat} (h : RV s n k) : rv s = (n, k) := by
  obtain ⟨h1, h2⟩ := RV_one (rv_RV s) h
  rw [← h1, ← h2]
theorem rv_bd (s : ByteArray) : (rv s).1 ≤ 562949953421311 ∧ (rv s).2 ≤ 7 ∧ (rv s).2 ≤ s.size := by
  rcases rv_RV s with ⟨_, h2, h3, _, h5, _⟩ | ⟨h1, h2, _⟩
  · refine ⟨?_, h2, h3⟩
    rw [h5]
    exact vval_bd _ (by rw [List.length_take]; omega)
  · omega
theorem varS_size_in (n : Nat) (h : n ≤ 562949953421311) : (varS (n : Int)).size = (vb n).length := by rw [varS_in n h, strOfNums_size]
theorem rv_var (n : Nat) (h : n ≤ 562949953421311) (T : ByteArray) : rv (varS (n : Int) ++ T) = (n, (varS (n : Int)).size) := by
  rw [varS_size_in n h, varS_in n h]
  exact rv_of (RV_var n h T)
theorem varS_pos (n : Nat) (h : n ≤ 562949953421311) : 0 < (varS (n : Int)).size := by rw [varS_size_in n h]; exact vb_pos n
theorem ba_split (s : ByteArray) (k : Nat) : s.extract 0 k ++ s.extract k s.size = s := by
  apply bl_inj
  rw [bl_append, bl_extract, bl_extract, List.drop_zero, ← bl_length, List.take_of_length_le (Nat.le_refl _), List.take_append_drop]
theorem ba_drop (A T : ByteArray) : (A ++ T).extract A.size (A ++ T).size = T := by
  apply bl_inj
  rw [bl_extract, List.take_of_length_le (by rw [bl_length]; exact Nat.le_refl _), bl_append, ← bl_length A, List.drop_left]
theorem ba_take (A T : ByteArray) : (A ++ T).extract 0 A.size = A := by
  apply bl_inj
  rw [bl_extract, List.drop_zero, bl_append, ← bl_length A, List.take_left]
theorem ba_len (A : ByteArray) (i j : Nat) (h1 : i ≤ j) (h2 : j ≤ A.size) : (A.extract i j).size = j - i := by
  rw [← bl_length, bl_extract, List.length_drop, List.length_take, bl_length]; omega
theorem rv_back (s : ByteArray) (h : (rv s).2 ≠ 0) : varS ((rv s).1 : Int) = s.extract 0 (rv s).2 := by
  rcases RV_back s _ _ (rv_RV s) with h' | ⟨_, _, h'⟩
  · exact absurd h' h
  · have e : (varS ((rv s).1 : Int)).toList = (s.extract 0 (rv s).2).toList := by simpa using h'
    rw [ByteArray.toList_eq, ByteArray.toList_eq] at e
    generalize varS ((rv s).1 : Int) = a at e ⊢
    generalize s.extract 0 (rv s).2 = b at e ⊢
    obtain ⟨⟨x⟩⟩ := a
    obtain ⟨⟨y⟩⟩ := b
    simp at e
    rw [e]
theorem rv_whole (s : ByteArray) (h : (rv s).2 ≠ 0) : varS ((rv s).1 : Int) ++ s.extract (rv s).2 s.size = s := by
  rw [rv_back s h, ba_split s _]

end Go.Proofs.YthnealhaleccpaaGreatDoor
namespace Go.Proofs.YthnealhaleccpaaGreatDoor
open Go.RowKit
open Plain

/-- A text with its length ahead. -/
def textS (s : ByteArray) : ByteArray := varS (s.size : Int) ++ s
/-- A count and a sum. -/
def totS (c s : Int) : ByteArray := varS c ++ fixN s 4
/-- What follows kind and batch. -/
def bodyS (k : Int) (key val : ByteArray) (c s : Int) : ByteArray :=
  if k = 1 ∨ k = 4 then textS key ++ textS val else if k = 2 then textS key else totS c s
def showN (k b : Int) (key val : ByteArray) (c s : Int) : ByteArray :=
  if okN k b key.size val.size c s = true then varS k ++ varS b ++ bodyS k key val c s else ⟨#[]⟩
/-- What ShowRec makes. -/
def showS (r : RecV) : ByteArray := showN r.kind r.batch r.key r.val r.cnt r.sum
def zeroR : RecV := ⟨0, 0, ⟨#[]⟩, ⟨#[]⟩, 0, 0⟩

/-! ### A piece at a time -/
/-- What is left behind a number. -/
def numT (s : ByteArray) : ByteArray := s.extract (rv s).2 s.size
theorem numT_var (n : Nat) (h : n ≤ 562949953421311) (T : ByteArray) : numT (varS (n : Int) ++ T) = T := by
  unfold numT
  rw [rv_var n h T]
  exact ba_drop _ _
theorem numT_whole (s : ByteArray) (h : (rv s).2 ≠ 0) : varS ((rv s).1 : Int) ++ numT s = s := rv_whole s h
theorem numT_size (s : ByteArray) : (numT s).size = s.size - (rv s).2 := ba_len _ _ _ (rv_bd s).2.2 (Nat.le_refl _)

/-- The text of which the length stands ahead; nothing where it goes past the end. -/
def txtV (s : ByteArray) : ByteArray := if (numT s).size < (rv s).1 then ⟨#[]⟩ else (numT s).extract 0 (rv s).1
def txtR (s : ByteArray) : ByteArray := if (numT s).size < (rv s).1 then numT s else (numT s).extract (rv s).1 (numT s).size
def txtF (s : ByteArray) : Bool := decide ((rv s).2 = 0 ∨ (numT s).size < (rv s).1)
theorem txt_text (t T : ByteArray) (h : t.size ≤ 562949953421311) : txtV (textS t ++ T) = t ∧ txtR (textS t ++ T) = T ∧ txtF (textS t ++ T) = false := by
  have e : textS t ++ T = varS (t.size : Int) ++ (t ++ T) := by unfold textS; rw [ByteArray.append_assoc]
  have h1 := rv_var t.size h (t ++ T)
  have h2 := numT_var t.size h (t ++ T)
  have h3 : ¬ (t ++ T).size < t.size := by rw [ByteArray.size_append]; omega
  have h4 := varS_pos t.size h
  unfold txtV txtR txtF
  rw [e, h1, h2]
  refine ⟨?_, ?_, ?_⟩
  · rw [if_neg h3]; exact ba_take _ _
  · rw [if_neg h3]; exact ba_drop _ _
  · apply decide_eq_false
    rintro (h | h)
    · simp only at h; omega
    · exact h3 h
theorem txt_back (s : ByteArray) (h : txtF s = false) : textS (txtV s) ++ txtR s = s := by
  have h' := of_decide_eq_false h
  have h1 : (rv s).2 ≠ 0 := fun e => h' (Or.inl e)
  have h2 : ¬ (numT s).size < (rv s).1 := fun e => h' (Or.inr e)
  unfold textS txtV txtR
  rw [if_neg h2, if_neg h2, ba_len _ _ _ (Nat.zero_le _) (by omega), Nat.sub_zero, ByteArray.append_assoc, ba_split, numT_whole s h1]
theorem txtV_size (s : ByteArray) : (txtV s).size ≤ s.size := by
  unfold txtV
  split
  · exact Nat.zero_le _
  · rw [ba_len _ _ _ (Nat.zero_le _) (by omega)]
    have := numT_size s
    omega
theorem txtR_size (s : ByteArray) : (txtR s).size ≤ s.size := by
  have h1 := numT_size s
  unfold txtR
  split
  · omega
  · rw [ba_len _ _ _ (by omega) (Nat.le_refl _)]
    omega

/-- Four bytes that tell a sum. -/
def sumV (s : ByteArray) : Nat := if 4 ≤ s.size then fixVal s 4 else 0
def sumR (s : ByteArray) : ByteArray := if 4 ≤ s.size then s.extract 4 s.size else s
def sumF (s : ByteArray) : Bool := decide (s.size < 4)
theorem p32 : (256 : Nat) ^ 4 = 4294967296 := by decide
theorem sum_fix (n : Nat) (h : n ≤ 4294967295) (T : ByteArray) : sumV (fixN (n : Int) 4 ++ T) = n ∧ sumR (fixN (n : Int) 4 ++ T) = T ∧ sumF (fixN (n : Int) 4 ++ T) = false := by
  have hn : n < 256 ^ 4 := by rw [p32]; omega
  rw [fixN_in n 4 hn]
  have hs : (strOfNums (low n 4)).size = 4 := by rw [strOfNums_size, low_length]
  have h4 : 4 ≤ (strOfNums (low n 4) ++ T).size := by rw [ByteArray.size_append, hs]; omega
  unfold sumV sumR sumF
  rw [if_pos h4, if_pos h4]
  refine ⟨fixVal_m n 4 hn T, ?_, decide_eq_false (by omega)⟩
  have := ba_drop (strOfNums (low n 4)) T
  rw [hs] at this
  exact this
theorem sumV_bd (s : ByteArray) : sumV s ≤ 4294967295 := by
  unfold sumV
  split
  · have := fixVal_lt s 4
    rw [p32] at this
    omega
  · omega
theorem sum_back (s : ByteArray) (h : sumF s = false) : fixN (sumV s : Int) 4 ++ sumR s = s := by
  have h' : 4 ≤ s.size := by have := of_decide_eq_false h; omega
  unfold sumV sumR
  rw [if_pos h', if_pos h', fixN_in _ 4 (fixVal_lt s 4), fix_back s 4 h', ba_split]

/-! ### The whole -/
/-- What a text is read as, whether right or not. -/
def parse (s : ByteArray) : RecV :=
  if (rv s).1 = 1 ∨ (rv s).1 = 4 then ⟨(rv s).1, (rv (numT s)).1, txtV (numT (numT s)), txtV (txtR (numT (numT s))), 0, 0⟩
  else if (rv s).1 = 2 then ⟨(rv s).1, (rv (numT s)).1, txtV (numT (numT s)), ⟨#[]⟩, 0, 0⟩
  else ⟨(rv s).1, (rv (numT s)).1, ⟨#[]⟩, ⟨#[]⟩, (rv (numT (numT s))).1, sumV (numT (numT (numT s)))⟩
/-- Nothing was missing, and nothing is left. -/
def Clean (s : ByteArray) : Prop :=
  (rv s).2 ≠ 0 ∧ (rv (numT s)).2 ≠ 0 ∧
    (if (rv s).1 = 1 ∨ (rv s).1 = 4 then txtF (numT (numT s)) = false ∧ txtF (txtR (numT (numT s))) = false ∧ (txtR (txtR (numT (numT s)))).size = 0
     else if (rv s).1 = 2 then txtF (numT (numT s)) = false ∧ (txtR (numT (numT s))).size = 0
     else (rv (numT (numT s))).2 ≠ 0 ∧ sumF (numT (numT (numT s))) = false ∧ (sumR (numT (numT (numT s)))).size = 0)

theorem app_nil (s : ByteArray) : s ++ (⟨#[]⟩ : ByteArray) = s := by
  apply bl_inj
  rw [bl_append]
  simp [bl]
/-- How a right record's text begins. -/
theorem show_head (k b : Nat) (hk : k ≤ 562949953421311) (hb : b ≤ 562949953421311) (B : ByteArray) :
    rv (varS (k : Int) ++ varS (b : Int) ++ B) = (k, (varS (k : Int)).size) ∧ rv (numT (varS (k : Int) ++ varS (b : Int) ++ B)) = (b, (varS (b : Int)).size) ∧ numT (numT (varS (k : Int) ++ varS (b : Int) ++ B)) = B := by
  rw [ByteArray.append_assoc, rv_var k hk, numT_var k hk, rv_var b hb, numT_var b hb]
  exact ⟨rfl, rfl, rfl⟩

theorem forth (q : RecV) (h : recOkB q = true) : parse (showS q) = q ∧ Clean (showS q) := by
  obtain ⟨k, b, key, val, c, s⟩ := q
  have hok : RecOkP k b key.size val.size c s := okN_iff.1 h
  have hsh : showS ⟨k, b, key, val, c, s⟩ = varS k ++ varS b ++ bodyS k key val c s := by
    unfold showS showN
    exact if_pos h
  rw [hsh]
  have hk0 : 0 ≤ k := by unfold RecOkP at hok; omega
  have hb0 : 0 ≤ b := by unfold RecOkP at hok; omega
  obtain ⟨K, rfl⟩ := Int.eq_ofNat_of_zero_le hk0
  obtain ⟨B, rfl⟩ := Int.eq_ofNat_of_zero_le hb0
  have hK : K ≤ 5 ∧ B ≤ 1000000 := by unfold RecOkP at hok; omega
  obtain ⟨e1, e2, e3⟩ := show_head K B (by omega) (by omega) (bodyS (K : Int) key val c s)
  have p1 := varS_pos K (by omega)
  have p2 := varS_pos B (by omega)
  by_cases h14 : K = 1 ∨ K = 4
  · have hz : key.size ≤ 8 ∧ val.size ≤ 24 ∧ c = 0 ∧ s = 0 := by unfold RecOkP at hok; omega
    obtain ⟨z1, z2, rfl, rfl⟩ := hz
    have hbd : bodyS (K : Int) key val 0 0 = textS key ++ textS val := by unfold bodyS; rw [if_pos (by omega)]
    obtain ⟨t1, t2, t3⟩ := txt_text key (textS val) (by omega)
    obtain ⟨t4, t5, t6⟩ := txt_text val ⟨#[]⟩ (by omega)
    rw [app_nil] at t4 t5 t6
    unfold parse Clean
    rw [e1, e2, e3, hbd]
    simp only
    rw [if_pos h14, if_pos h14, t1, t2, t3, t4, t5, t6]
    exact ⟨rfl, by omega, by omega, rfl, rfl, rfl⟩
  · by_cases h2 : K = 2
    · have hz : key.size ≤ 8 ∧ val.size = 0 ∧ c = 0 ∧ s = 0 := by unfold RecOkP at hok; omega
      obtain ⟨z1, z2, rfl, rfl⟩ := hz
      have hbd : bodyS (K : Int) key val 0 0 = textS key := by unfold bodyS; rw [if_neg (by omega), if_pos (by omega)]
      obtain ⟨t1, t2, t3⟩ := txt_text key ⟨#[]⟩ (by omega)
      rw [app_nil] at t1 t2 t3
      unfold parse Clean
      rw [e1, e2, e3, hbd]
      simp only
      rw [if_neg h14, if_neg h14, if_pos h2, if_pos h2, t1, t2, t3, empty_of z2]
      exact ⟨rfl, by omega, by omega, rfl, rfl⟩
    · have hz : key.size = 0 ∧ val.size = 0 ∧ 0 ≤ c ∧ c ≤ 20 ∧ 0 ≤ s ∧ s ≤ 4294967295 := by unfold RecOkP at hok; omega
      obtain ⟨z1, z2, z3, z4, z5, z6⟩ := hz
      obtain ⟨C, rfl⟩ := Int.eq_ofNat_of_zero_le z3
      obtain ⟨S, rfl⟩ := Int.eq_ofNat_of_zero_le z5
      have hbd : bodyS (K : Int) key val (C : Int) (S : Int) = varS (C : Int) ++ fixN (S : Int) 4 := by unfold bodyS totS; rw [if_neg (by omega), if_neg (by omega)]
      obtain ⟨t1, t2, t3⟩ := sum_fix S (by omega) ⟨#[]⟩
      rw [app_nil] at t1 t2 t3
      have p3 := varS_pos C (by omega)
      unfold parse Clean
      rw [e1, e2, e3, hbd, rv_var C (by omega), numT_var C (by omega)]
      simp only
      rw [if_neg h14, if_neg h14, if_neg h2, if_neg h2, t1, t2, t3, empty_of z1, empty_of z2]
      exact ⟨rfl, by omega, by omega, by omega, rfl, rfl⟩

theorem back (s : ByteArray) (hc : Clean s) (h : recOkB (parse s) = true) : showS (parse s) = s := by
  have hsh : showS (parse s) = varS (parse s).kind ++ varS (parse s).batch ++ bodyS (parse s).kind (parse s).key (parse s).val (parse s).cnt (parse s).sum := by
    unfold showS showN
    exact if_pos h
  rw [hsh]
  obtain ⟨c1, c2, c3⟩ := hc
  have w1 := numT_whole s c1
  have w2 := numT_whole (numT s) c2
  unfold parse
  by_cases h14 : (rv s).1 = 1 ∨ (rv s).1 = 4
  · rw [if_pos h14] at c3 ⊢
    simp only
    have hbd : bodyS ((rv s).1 : Int) (txtV (numT (numT s))) (txtV (txtR (numT (numT s)))) 0 0 = textS (txtV (numT (numT s))) ++ textS (txtV (txtR (numT (numT s)))) := by unfold bodyS; rw [if_pos (by omega)]
    rw [hbd]
    have w3 := txt_back _ c3.1
    have w4 := txt_back _ c3.2.1
    rw [empty_of c3.2.2, app_nil] at w4
    rw [w4, w3, ByteArray.append_assoc, w2, w1]
  · rw [if_neg h14] at c3 ⊢
    by_cases h2 : (rv s).1 = 2
    · rw [if_pos h2] at c3 ⊢
      simp only
      have hbd : bodyS ((rv s).1 : Int) (txtV (numT (numT s))) ⟨#[]⟩ 0 0 = textS (txtV (numT (numT s))) := by unfold bodyS; rw [if_neg (by omega), if_pos (by omega)]
      rw [hbd]
      have w3 := txt_back _ c3.1
      rw [empty_of c3.2, app_nil] at w3
      rw [w3, ByteArray.append_assoc, w2, w1]
    · rw [if_neg h2] at c3 ⊢
      simp only
      have hbd : bodyS ((rv s).1 : Int) ⟨#[]⟩ ⟨#[]⟩ ((rv (numT (numT s))).1 : Int) (sumV (numT (numT (numT s))) : Int) = varS ((rv (numT (numT s))).1 : Int) ++ fixN (sumV (numT (numT (numT s))) : Int) 4 := by unfold bodyS totS; rw [if_neg (by omega), if_neg (by omega)]
      rw [hbd]
      have w3 := numT_whole _ c3.1
      have w4 := sum_back _ c3.2.1
      rw [empty_of c3.2.2, app_nil] at w4
      rw [w4, w3, ByteArray.append_assoc, w2, w1]

theorem show_pos (r : RecV) (h : recOkB r = true) : 0 < (showS r).size := by
  have hc := (forth r h).2.1
  have := rv_bd (showS r)
  omega
theorem show_none (r : RecV) (h : recOkB r = false) : showS r = ⟨#[]⟩ := by
  unfold showS showN
  rw [if_neg (by unfold recOkB at h; rw [h]; simp)]
theorem show_inj (r q : RecV) (h : recOkB r = true) (h' : recOkB q = true) (e : showS r = showS q) : r = q := by
  rw [← (forth r h).1, e, (forth q h').1]

/-- What ReadRec tells of a text. -/
def RR (s : ByteArray) (r : RecV) (ok : Bool) : Prop :=
  (ok = true ∧ recOkB r = true ∧ showS r = s) ∨ (ok = false ∧ r = zeroR ∧ ∀ q, recOkB q = true → showS q ≠ s)
theorem RR_one {s : ByteArray} {r q : RecV} {a b : Bool} (h : RR s r a) (h' : RR s q b) : r = q ∧ a = b := by
  rcases h with ⟨rfl, h1, h2⟩ | ⟨rfl, rfl, h1⟩
  · rcases h' with ⟨rfl, h3, h4⟩ | ⟨_, _, h3⟩
    · exact ⟨show_inj r q h1 h3 (h2.trans h4.symm), rfl⟩
    · exact absurd h2 (h3 r h1)
  · rcases h' with ⟨rfl, h3, h4⟩ | ⟨rfl, rfl, _⟩
    · exact absurd h4 (h1 q h3)
    · exact ⟨rfl, rfl⟩
/-- What is read clean and right is what was shown. -/
theorem RR_yes (s : ByteArray) (hc : Clean s) (h : recOkB (parse s) = true) : RR s (parse s) true := Or.inl ⟨rfl, h, back s hc h⟩
theorem RR_unclean (s : ByteArray) (hc : ¬ Clean s) : RR s zeroR false :=
  Or.inr ⟨rfl, rfl, fun q hq e => hc (by rw [← e]; exact (forth q hq).2)⟩
theorem RR_wrong (s : ByteArray) (h : recOkB (parse s) = false) : RR s zeroR false :=
  Or.inr ⟨rfl, rfl, fun q hq e => by rw [← e, (forth q hq).1, hq] at h; cases h⟩

end Go.Proofs.YthnealhaleccpaaGreatDoor
namespace Go.Proofs.YthnealhaleccpaaGreatDoor
open Go.RowKit
open Plain

theorem al1 (w : World) (a : Obj) : Below w.heap.size w (w.alloc a) := (Below.refl _ _).alloc (Nat.le_refl _) a
theorem al2 (w : World) (a b : Obj) : Below w.heap.size w ((w.alloc a).alloc b) := (al1 w a).alloc (by simp) b
/-- In whatever world f answers v, and touches nothing that was there. -/
def Ans (f : FuncId) (args : Array Value) (v : Value) : Prop := ∀ W : World, Calls Tryz.prog f args W fun e w' => e = .returned v ∧ Below W.heap.size W w'

end Go.Proofs.YthnealhaleccpaaGreatDoor
namespace Go.Proofs.YthnealhaleccpaaGreatDoor
open Go.RowKit
open Plain

set_option maxHeartbeats 400000 in
theorem put_any (g N at' : Nat) (cur : List Value) (ad : Addr) (m : Nat) (cs : List Value) (w : World) (hg : w.heap[g]? = some (.cells cur.toArray 5 (0, 0))) (hN : cur.length = N) (hN2 : N ≤ 4194304)
    (hm : cs.length = m) (hm0 : 0 < m) (hfit : at' + m ≤ N) (hsrc : ∀ j v, cs[j]? = some v → w.cell? (ad.add j) = some v) (h1 : ∀ v ∈ cs, v.oneCell' = true) :
    Calls Tryz.prog 49 #[.slice (some ⟨g, 0, none⟩) N N, .int .i64 at', .slice (some ad) m m] w fun e w' => e = .returned (.int .i64 ((at' : Int) + (m : Int))) ∧ w' = w.setRow g (splice cur at' cs).toArray := by
  have hcp : (Builtin.copy_ #[22, 22] 3 #[.slice (some ⟨g, at', none⟩) (N - at') (N - at'), .slice (some ad) m m]).run Tryz.prog w = .ok (.int .i64 (m : Int)) (w.setRow g (splice cur at' cs).toArray) := by
    have h := run_copy_row (P := Tryz.prog) w 22 22 3 5 g at' (N - at') (N - at') ad m m cur.toArray 5 cs Tryz.underlying22 Tryz.size5 hg (by rw [hm]; exact (Nat.min_eq_left (by omega)).symm) hsrc (by simp [hN, hm]; omega) h1
    rw [h, hm]
    simp [goInt, splice, hm]
  clear hg hsrc h1
  generalize w.setRow g (splice cur at' cs).toArray = wz at *
  clear hN hm
  go_enter Tryz.func49, Tryz.ntmps49
  go_wp2
  go_ret
  exact ⟨rfl, rfl⟩

/-- impl.putBehind on a row of the call's own, at the end of what is filled. -/
theorem put_row (g N B m : Nat) (p r : List Int) (w wr : World) (hm : r.length = m) (hm0 : 0 < m) (hfit : p.length + m ≤ N) (hN : N ≤ 4194304) (HR : Hid (wr.heap[g]? = some (.cells (rowOf N p).toArray 5 (0, 0)))) (hB : Below B w wr) (hBw : B ≤ wr.heap.size) (hBg : B ≤ g) :
    Calls Tryz.prog 49 #[.slice (some ⟨g, 0, none⟩) N N, .int .i64 p.length, .slice (some ⟨wr.heap.size, 0, none⟩) m m] (wr.alloc (.cells (r.map (Value.int .u8)).toArray 5))
      fun e w' => e = .returned (.int .i64 ((p.length : Int) + (m : Int))) ∧ Hid (w'.heap[g]? = some (.cells (rowOf N (p ++ r)).toArray 5 (0, 0))) ∧ Below B w w' := by
  have hg2 : (wr.alloc (.cells (r.map (Value.int .u8)).toArray 5)).heap[g]? = some (.cells (rowOf N p).toArray 5 (0, 0)) := by rw [Below.heap_alloc _ _ _ (lt_of_block HR.out)]; exact HR.out
  refine (put_any g N p.length (rowOf N p) ⟨wr.heap.size, 0, none⟩ m (r.map (Value.int .u8)) _ hg2 (rowOf_len _ _ (by omega)) hN (by simpa using hm) hm0 hfit (src_row wr r) (one_row r)).mono ?_
  rintro e w2 ⟨rfl, rfl⟩
  refine ⟨rfl, hide ?_, below_setRow (hB.alloc hBw _) hBg _⟩
  rw [← rowOf_step N p r (by omega)]
  exact setRow_heap _ _ _ _ _ _ hg2
theorem put1 (g N B : Nat) (p : List Int) (x : Int) (w wr : World) (hfit : p.length + 1 ≤ N) (hN : N ≤ 4194304) (HR : Hid (wr.heap[g]? = some (.cells (rowOf N p).toArray 5 (0, 0)))) (hB : Below B w wr) (hBw : B ≤ wr.heap.size) (hBg : B ≤ g) :
    Calls Tryz.prog 49 #[.slice (some ⟨g, 0, none⟩) N N, .int .i64 p.length, .slice (some ⟨wr.heap.size, 0, none⟩) 1 1] (wr.alloc (.cells #[.int .u8 x] 5))
      fun e w' => e = .returned (.int .i64 ((p.length : Int) + 1)) ∧ Hid (w'.heap[g]? = some (.cells (rowOf N (p ++ [x])).toArray 5 (0, 0))) ∧ Below B w w' :=
  put_row g N B 1 p [x] w wr rfl (by omega) hfit hN HR hB hBw hBg
theorem put2 (g N B : Nat) (p : List Int) (x y : Int) (w wr : World) (hfit : p.length + 2 ≤ N) (hN : N ≤ 4194304) (HR : Hid (wr.heap[g]? = some (.cells (rowOf N p).toArray 5 (0, 0)))) (hB : Below B w wr) (hBw : B ≤ wr.heap.size) (hBg : B ≤ g) :
    Calls Tryz.prog 49 #[.slice (some ⟨g, 0, none⟩) N N, .int .i64 p.length, .slice (some ⟨wr.heap.size, 0, none⟩) 2 2] (wr.alloc (.cells #[.int .u8 x, .int .u8 y] 5))
      fun e w' => e = .returned (.int .i64 ((p.length : Int) + 2)) ∧ Hid (w'.heap[g]? = some (.cells (rowOf N (p ++ [x, y])).toArray 5 (0, 0))) ∧ Below B w w' :=
  put_row g N B 2 p [x, y] w wr rfl (by omega) hfit hN HR hB hBw hBg

end Go.Proofs.YthnealhaleccpaaGreatDoor
namespace Go.Proofs.YthnealhaleccpaaGreatDoor
open Go.RowKit
open Plain

set_option maxHeartbeats 400000 in
theorem implVar_no (n : Int) (w : World) (h : n < 0 ∨ 562949953421311 < n) :
    Calls Tryz.prog 24 #[.int .i64 n] w fun e w' => e = .returned (.string ⟨#[]⟩) ∧ w = w' := by
  by_cases h1 : n < 0
  · go_enter Tryz.func24, Tryz.ntmps24
    go_wp2
    go_ret
    exact ⟨rfl, rfl⟩
  · have h2 : 562949953421311 < n := by omega
    go_enter Tryz.func24, Tryz.ntmps24
    go_wp2
    go_ret
    exact ⟨rfl, rfl⟩

set_option maxRecDepth 100000 in
set_option maxHeartbeats 400000 in
theorem implVar_yes (n : Nat) (w : World) (hn : n ≤ 562949953421311) :
    Calls Tryz.prog 24 #[.int .i64 n] w fun e w' => e = .returned (.string (strOfNums (vb n))) ∧ Below w.heap.size w w' := by
  have H7 := vb_len7 n hn
  obtain ⟨i0, hi, hz0, hz1, hz2⟩ := info_parts Tryz.info5
  obtain ⟨w1, hmk0, hown, hgrow⟩ := run_make_full (P := Tryz.prog) w w.heap.size 22 5 i0 (.int .u8 0) 1 Tryz.underlying22 hi hz0 hz1 .i64 .i64 7 (by rw [hz2]; omega) (by unfold maxLen; omega) (Nat.le_refl _)
  have hmk : (Instr.makeSlice 22 (.int .i64 7) (.int .i64 7)).run Tryz.prog w = .ok (.slice (some ⟨w.heap.size, 0, none⟩) 7 7) w1 := hmk0
  have hB1 : Below w.heap.size w w1 := (Below.refl _ _).grown hgrow (Nat.le_refl _) (by intro k h; cases h)
  have HR : Hid (w1.heap[w.heap.size]? = some (.cells (rowOf 7 []).toArray 5 (0, 0))) := hide (by rw [made_row hown, rowOf_nil])
  clear hown hgrow hi hz0 hz1 hz2 hmk0
  go_enter Tryz.func24, Tryz.ntmps24
  go_wp2
  go_loopw [0, 4] (fun a v wr => ∃ (q : Nat) (p : List Int), q ≤ 562949953421311 ∧ a = .int .i64 q ∧ v = .int .i64 p.length ∧ Hid (wr.heap[w.heap.size]? = some (.cells (rowOf 7 p).toArray 5 (0, 0))) ∧ Hid (p ++ vb q = vb n) ∧ Below w.heap.size w wr) (fun a _ _ => (intOf a).toNat)
  case atStart => exact ⟨n, [], hn, rfl, rfl, HR, hide rfl, hB1⟩
  case round =>
    clear HR hB1 hmk
    obtain ⟨q, p, hq, rfl, rfl, HR, HP, hB⟩ := hrel
    have hpl : p.length + (vb q).length ≤ 7 := by have := congrArg List.length HP.out; simp at this; omega
    have hvp := vb_pos q
    have hlt2 : w.heap.size < wr.heap.size := lt_of_block HR.out
    by_cases hs : q < 128
    · go_wp2_with fail
      refine (put1 w.heap.size 7 w.heap.size p (q : Int) w wr (by omega) (by omega) HR hB hB.size (Nat.le_refl _)).mono ?_
      rintro e w2 ⟨rfl, HR2, hB2⟩
      have hL : p ++ [(q : Int)] = vb n := by rw [← HP.out, vb_small q hs]
      have hl : (vb n).length = p.length + 1 := by rw [← hL]; simp
      rw [hL] at HR2
      have hcv := cv_pre HR2.out hl
      clear HR2 HR hL hl HP
      go_wp2
      go_ret
      exact ⟨rfl, hB2⟩
    · have e1 := i64_and127 (q : Int)
      have e2 := or128 ((q : Int) % 128) (by omega) (by omega)
      have HP2 : Hid ((p ++ [128 + (q : Int) % 128]) ++ vb (q / 128) = vb n) := hide (by rw [← HP.out, vb_big q hs]; simp)
      have hv2 := vb_pos (q / 128)
      have hp2 : p.length + 2 ≤ 7 := by rw [vb_big q hs] at hpl; simp at hpl; omega
      go_wp2_with fail
      refine (put1 w.heap.size 7 w.heap.size p (128 + (q : Int) % 128) w wr (by omega) (by omega) HR hB hB.size (Nat.le_refl _)).mono ?_
      rintro e w2 ⟨rfl, HR2, hB2⟩
      clear HR HP e1 e2
      go_wp2
      go_roundw
      case rel => exact ⟨q / 128, _, by omega, by go_num, by simp, HR2, HP2, hB2⟩
      case measure => simp [intOf]; omega

end Go.Proofs.YthnealhaleccpaaGreatDoor
namespace Go.Proofs.YthnealhaleccpaaGreatDoor
open Go.RowKit
open Plain

set_option maxRecDepth 100000 in
set_option maxHeartbeats 400000 in
theorem implFixed_no (n m : Int) (w : World) (h : n < 0 ∨ m < 1 ∨ 7 < m) :
    Calls Tryz.prog 51 #[.int .i64 n, .int .i64 m] w fun e w' => e = .returned (.string ⟨#[]⟩) ∧ w = w' := by
  by_cases h1 : m < 1
  · go_enter Tryz.func51, Tryz.ntmps51
    go_wp2
    go_ret
    exact ⟨rfl, rfl⟩
  · by_cases h2 : 7 < m
    · go_enter Tryz.func51, Tryz.ntmps51
      go_wp2
      go_ret
      exact ⟨rfl, rfl⟩
    · have h3 : n < 0 := by omega
      go_enter Tryz.func51, Tryz.ntmps51
      go_wp2
      go_ret
      exact ⟨rfl, rfl⟩

def rowAt (L : List Int) (k : Nat) : List Value := (L.take k ++ List.replicate (L.length - k) 0).map (Value.int .u8)
theorem rowAt_len (L : List Int) (k : Nat) (h : k ≤ L.length) : (rowAt L k).length = L.length := by simp [rowAt]; omega
theorem rowAt_zero (L : List Int) : rowAt L 0 = List.replicate L.length (.int .u8 0) := by simp [rowAt]
theorem rowAt_full (L : List Int) : rowAt L L.length = L.map (Value.int .u8) := by simp [rowAt]
theorem rowAt_step (L : List Int) (k : Nat) (x : Int) (h : L[k]? = some x) : splice (rowAt L k) k [.int .u8 x] = rowAt L (k + 1) := by
  have hk : k < L.length := by
    rcases Nat.lt_or_ge k L.length with h' | h'
    · exact h'
    · rw [List.getElem?_eq_none h'] at h; simp at h
  have hx : L[k] = x := by rw [List.getElem?_eq_getElem hk] at h; simpa using h
  unfold splice rowAt
  rw [List.take_succ_eq_append_getElem hk, hx]
  have e : L.length - k = (L.length - (k + 1)) + 1 := by omega
  rw [e, List.replicate_succ]
  simp [List.drop_append, Nat.min_eq_left (Nat.le_of_lt hk)]

/-- A whole row of bytes of the call's own, as a string. -/
theorem cv_row {w : World} {g n k : Nat} {L : List Int} (h : w.heap[g]? = some (.cells (rowAt L k).toArray 5 (0, 0))) (hk : k = L.length) (hn : L.length = n) :
    (convert 22 9 (.slice (some ⟨g, 0, none⟩) n n)).run Tryz.prog w = .ok (.string (strOfNums L)) w := by
  subst hk
  refine run_convert_bytes_arg (P := Tryz.prog) w 22 5 Tryz.underlying22 Tryz.underlying5 g 0 n n L hn ?_ 9 Tryz.underlying9
  intro i hi
  rw [rowAt_full] at h
  have hi' : i < L.length := by omega
  simp [World.cell?, h, List.getD, hi']

theorem pow256 (k : Nat) : (2 : Nat) ^ (8 * k) = 256 ^ k := by rw [Nat.pow_mul]
theorem shr_pow (n k : Nat) : (n : Int) / 2 ^ (8 * k) = ((n / 256 ^ k : Nat) : Int) := by
  rw [← pow256]; norm_cast
theorem shr_byte (n k : Nat) : (n : Int) / 2 ^ (8 * k) % 256 = ((n / 256 ^ k % 256 : Nat) : Int) := by
  rw [shr_pow]
  generalize n / 256 ^ k = q
  omega

set_option maxRecDepth 100000 in
set_option maxHeartbeats 400000 in
theorem implFixed_great (n m : Nat) (w : World) (_hn : n ≤ 9223372036854775807) (h1 : 1 ≤ m) (h2 : m ≤ 7) (hb : 256 ^ m ≤ n) :
    Calls Tryz.prog 51 #[.int .i64 n, .int .i64 m] w fun e w' => e = .returned (.string ⟨#[]⟩) ∧ w = w' := by
  have hsh : ((n : Int) / 2 ^ (8 * m) != 0) = true := by
    rw [shr_pow]
    have := (div_pos_iff n m).2 hb
    simp only [bne_iff_ne, ne_eq]
    omega
  clear hb
  go_enter Tryz.func51, Tryz.ntmps51
  go_wp2
  go_ret
  exact ⟨rfl, rfl⟩

set_option maxRecDepth 100000 in
set_option maxHeartbeats 400000 in
theorem implFixed_fits (n m : Nat) (w : World) (hn : n ≤ 9223372036854775807) (h1 : 1 ≤ m) (h2 : m ≤ 7) (hb : n < 256 ^ m) :
    Calls Tryz.prog 51 #[.int .i64 n, .int .i64 m] w fun e w' => e = .returned (.string (strOfNums (low n m))) ∧ Below w.heap.size w w' := by
  have hsh : ((n : Int) / 2 ^ (8 * m) != 0) = false := by
    rw [shr_pow, Nat.div_eq_of_lt hb]; rfl
  clear hb
  obtain ⟨i0, hi, hz0, hz1, hz2⟩ := info_parts Tryz.info5
  obtain ⟨w1, hmk, hown, hgrow⟩ := run_make_full (P := Tryz.prog) w w.heap.size 22 5 i0 (.int .u8 0) 1 Tryz.underlying22 hi hz0 hz1 .i64 .i64 m (by rw [hz2]; omega) (by unfold maxLen; omega) (Nat.le_refl _)
  have hrow := made_row hown
  have hB1 : Below w.heap.size w w1 := (Below.refl _ _).grown hgrow (Nat.le_refl _) (by intro k h; cases h)
  have hlow := low_length n m
  have HL : Hid ((low n m).length = m) := hide hlow
  have HR : Hid (w1.heap[w.heap.size]? = some (.cells (rowAt (low n m) 0).toArray 5 (0, 0))) := hide (by rw [hrow, rowAt_zero, hlow])
  clear hown hgrow hrow hlow hi hz0 hz1 hz2
  go_enter Tryz.func51, Tryz.ntmps51
  go_wp2
  go_loopw [6, 28] (fun a i wr => ∃ k : Nat, k ≤ m ∧ a = .int .i64 k ∧ i = .int .i64 k ∧ Hid (wr.heap[w.heap.size]? = some (.cells (rowAt (low n m) k).toArray 5 (0, 0))) ∧ Below w.heap.size w wr) (fun _ i _ => m - (intOf i).toNat)
  case atStart => exact ⟨0, Nat.zero_le _, rfl, rfl, HR, hB1⟩
  case round =>
    clear HR hB1 hmk
    obtain ⟨k, hk, rfl, rfl, HR, hB⟩ := hrel
    by_cases hlt : k < m
    · have hx : (low n m)[k]? = some ((n : Int) / 2 ^ (8 * (m - 1 - k)) % 256) := by rw [low_get n m k hlt, shr_byte]
      go_wp2_with fail
      generalize (n : Int) / 2 ^ (8 * (m - 1 - k)) % 256 = x at *
      have hst := rowAt_step (low n m) k x hx
      have hlt2 : w.heap.size < wr.heap.size := lt_of_block HR.out
      have hg2 : (wr.alloc (.cells #[.int .u8 x] 5)).heap[w.heap.size]? = some (.cells (rowAt (low n m) k).toArray 5 (0, 0)) := by rw [Below.heap_alloc _ _ _ hlt2]; exact HR.out
      have hB2 : Below w.heap.size w (wr.alloc (.cells #[.int .u8 x] 5)) := hB.alloc hB.size _
      refine (put_any w.heap.size m k (rowAt (low n m) k) ⟨wr.heap.size, 0, none⟩ 1 [.int .u8 x] _ hg2 (by rw [rowAt_len _ _ (by rw [HL.out]; exact hk)]; exact HL.out) (by omega) rfl (by omega) (by omega) (src_one wr x) (one_one x)).mono ?_
      rintro e w2 ⟨rfl, hw2⟩
      have HR2 : Hid (w2.heap[w.heap.size]? = some (.cells (rowAt (low n m) (k + 1)).toArray 5 (0, 0))) := hide (by rw [hw2, ← hst]; exact setRow_heap _ _ _ _ _ _ hg2)
      have hB3 : Below w.heap.size w w2 := by rw [hw2]; exact below_setRow hB2 (Nat.le_refl _) _
      clear hw2 hg2 hst hx hB2 hlt2 HR hB
      go_wp2
      go_roundw
      case rel => exact ⟨k + 1, by omega, by go_num, by go_num, HR2, hB3⟩
      case measure => simp [intOf]; omega
    · obtain rfl : k = m := by omega
      have hcv : (convert 22 9 (.slice (some ⟨w.heap.size, 0, none⟩) k k)).run Tryz.prog wr = .ok (.string (strOfNums (low n k))) wr := cv_row HR.out (by rw [HL.out]) HL.out
      clear HR
      go_wp2
      go_ret
      exact ⟨rfl, hB⟩

theorem implFixed_yes (n m : Nat) (w : World) (hn : n ≤ 9223372036854775807) (h1 : 1 ≤ m) (h2 : m ≤ 7) :
    Calls Tryz.prog 51 #[.int .i64 n, .int .i64 m] w fun e w' => e = .returned (.string (fixStr n m)) ∧ Below w.heap.size w w' := by
  by_cases hb : n < 256 ^ m
  · have e : fixStr n m = strOfNums (low n m) := by simp [fixStr, hb]
    rw [e]
    exact implFixed_fits n m w hn h1 h2 hb
  · have e : fixStr n m = ⟨#[]⟩ := by simp [fixStr, hb]
    rw [e]
    refine (implFixed_great n m w hn h1 h2 (by omega)).mono ?_
    rintro e w' ⟨rfl, rfl⟩
    exact ⟨rfl, Below.refl _ _⟩

end Go.Proofs.YthnealhaleccpaaGreatDoor
namespace Go.Proofs.YthnealhaleccpaaGreatDoor
open Go.RowKit
open Plain

set_option maxHeartbeats 400000 in
theorem implReadFixed_no (s : ByteArray) (n : Int) (w : World) (_hs : s.size ≤ 1048576) (h : n < 1 ∨ 7 < n ∨ s.size < n) :
    Calls Tryz.prog 74 #[.string s, .int .i64 n] w fun e w' => e = .returned (.tuple #[.int .i64 0, .bool false]) ∧ w = w' := by
  by_cases h1 : n < 1
  · go_enter Tryz.func74, Tryz.ntmps74
    go_wp2
    go_ret2
    exact ⟨rfl, rfl⟩
  · by_cases h2 : 7 < n
    · go_enter Tryz.func74, Tryz.ntmps74
      go_wp2
      go_ret2
      exact ⟨rfl, rfl⟩
    · go_enter Tryz.func74, Tryz.ntmps74
      go_wp2
      go_ret2
      exact ⟨rfl, rfl⟩

set_option maxHeartbeats 400000 in
theorem implReadFixed_yes (s : ByteArray) (m : Nat) (w : World) (hs : s.size ≤ 1048576) (h1 : 1 ≤ m) (h2 : m ≤ 7) (h3 : m ≤ s.size) :
    Calls Tryz.prog 74 #[.string s, .int .i64 m] w fun e w' => e = .returned (.tuple #[.int .i64 (fixVal s m), .bool true]) ∧ w = w' := by
  go_enter Tryz.func74, Tryz.ntmps74
  go_wp2
  go_loop [6, 21] (fun n i => ∃ k : Nat, k ≤ m ∧ i = .int .i64 k ∧ n = .int .i64 (fixVal s k)) (fun _ i => m - (intOf i).toNat)
  case atStart => exact ⟨0, Nat.zero_le _, rfl, rfl⟩
  case round =>
    obtain ⟨k, hk, rfl, rfl⟩ := hrel
    by_cases hlt : k < m
    · have hb := fixVal_bd s k (by omega)
      have hk2 : k < s.size := by omega
      have hc := UInt8.toNat_lt s[k]
      have HS : Hid (fixVal s (k + 1) = fixVal s k * 256 + s[k].toNat) := by show _ = _; rw [fixVal, byteAt_eq s k hk2]
      go_wp2
      go_round
      case rel => exact ⟨k + 1, by omega, by go_num, val_int (by rw [HS.out]; rw [or_byte _ _ (by omega) (by omega) (by omega) (by omega)]; omega)⟩
      case measure => simp [intOf]; omega
    · obtain rfl : k = m := by omega
      go_wp2
      go_ret2
      exact ⟨rfl, rfl⟩

end Go.Proofs.YthnealhaleccpaaGreatDoor
namespace Go.Proofs.YthnealhaleccpaaGreatDoor
open Go.RowKit
open Plain

theorem and127_u8 (b : Nat) (h : b < 256) : bits .and .u8 (b : Int) 127 = ((b % 128 : Nat) : Int) := by
  have := u8_and_nat b 127 h (by omega)
  rw [nat_mask7] at this
  exact this
theorem pow128 (k : Nat) : (2 : Nat) ^ (7 * k) = 128 ^ k := by rw [Nat.pow_mul]
theorem pow128_le (k : Nat) (h : k ≤ 6) : 128 ^ k ≤ 4398046511104 := by
  have h2 : 128 ^ k ≤ 128 ^ 6 := Nat.pow_le_pow_right (by omega) h
  have h3 : (128 : Nat) ^ 6 = 4398046511104 := by decide
  omega

/-- 'n |= int(c&127) << (7 * i)'. -/
theorem or_step (l : List Nat) (b k : Nat) (hl : l.length = k) (hk : k ≤ 6) : bits .or .i64 ((vval l : Nat) : Int) (wrap64 ((b : Int) % 128 * 2 ^ (7 * k))) = ((vval (l ++ [b]) : Nat) : Int) := by
  have h1 := vval_lt l
  rw [hl] at h1
  have h2 := pow128_le k hk
  have h3 := Nat.mod_lt b (show 0 < 128 by omega)
  have e : (b : Int) % 128 * 2 ^ (7 * k) = ((b % 128 * 128 ^ k : Nat) : Int) := by rw [← pow128 k]; norm_cast
  have h4 : b % 128 * 128 ^ k ≤ 127 * 4398046511104 := Nat.mul_le_mul (by omega) h2
  rw [e, IntWalk.wrap64_in _ ⟨by omega, by omega⟩, i64_or_nat _ _ (by omega) (by omega), vval_snoc, hl, Nat.or_comm, nat_join (7 * k) _ _ (by rw [pow128]; exact Nat.mul_mod_left _ _) (by rw [pow128]; exact h1), Nat.add_comm]

set_option maxRecDepth 100000 in
set_option maxHeartbeats 400000 in
theorem implReadVar_any (s : ByteArray) (w : World) (hs : s.size ≤ 1048576) :
    Calls Tryz.prog 75 #[.string s] w fun e w' => (∃ n k : Nat, e = .returned (.tuple #[.int .i64 n, .int .i64 k]) ∧ RV s n k) ∧ w = w' := by
  obtain ⟨m, hm, hms, hm7⟩ : ∃ m : Nat, ((min (s.size : Int) 7) = (m : Int)) ∧ m ≤ s.size ∧ m ≤ 7 := ⟨min s.size 7, by omega, by omega, by omega⟩
  have HM : Hid (m = 7 ∨ m = s.size) := hide (by omega)
  go_enter Tryz.func75, Tryz.ntmps75
  go_wp2
  all_goals
    go_loop [4, 9] (fun n i => ∃ k : Nat, k ≤ m ∧ i = .int .i64 k ∧ n = .int .i64 (vval ((bl s).take k)) ∧ Hid (∀ j, j < k → 128 ≤ (bl s).getD j 0)) (fun _ i => m - (intOf i).toNat)
    case atStart => exact ⟨0, Nat.zero_le _, rfl, rfl, hide (by intro j hj; omega)⟩
    case round =>
      obtain ⟨k, hk, rfl, rfl, HA⟩ := hrel
      by_cases hlt : k < m
      · have hk2 : k < s.size := by omega
        have hc := UInt8.toNat_lt s[k]
        have e1 := and127_u8 s[k].toNat hc
        have HN : Hid (bits .or .i64 ((vval ((bl s).take k) : Nat) : Int) (wrap64 ((s[k].toNat : Int) % 128 * 2 ^ (7 * k))) = ((vval ((bl s).take (k + 1)) : Nat) : Int)) := hide (by
          rw [bl_take_succ s k hk2]
          exact or_step _ _ k (by rw [List.length_take, bl_length]; omega) (by omega))
        have HG := hide (getD_bl s k hk2)
        by_cases hbig : s[k].toNat < 128
        · by_cases hk0 : 0 < k
          · by_cases hz : s[k].toNat = 0
            · have hz2 : ((s[k].toNat : Int) == 0) = true := by simp [hz]
              have HZ := hide hz
              clear hz
              go_wp2
              go_ret2
              exact ⟨⟨0, 0, rfl, RV_nought s k (by omega) hk2 HA.out hk0 (by rw [HG.out]; exact HZ.out)⟩, rfl⟩
            · have hz2 : ((s[k].toNat : Int) == 0) = false := by simp; omega
              go_wp2
              go_ret2
              exact ⟨⟨_, k + 1, ret_ints HN.out (by omega), RV_hit s k (by omega) hk2 HA.out (by rw [HG.out]; exact hbig) (Or.inr (by rw [HG.out]; exact hz))⟩, rfl⟩
          · go_wp2
            go_ret2
            exact ⟨⟨_, k + 1, ret_ints HN.out (by omega), RV_hit s k (by omega) hk2 HA.out (by rw [HG.out]; exact hbig) (Or.inl (by omega))⟩, rfl⟩
        · go_wp2
          go_round
          case rel => exact ⟨k + 1, by omega, by go_num, val_int HN.out, hide (by
            intro j hj
            by_cases hjk : j < k
            · exact HA.out j hjk
            · obtain rfl : j = k := by omega
              rw [HG.out]; omega)⟩
          case measure => simp [intOf]; omega
      · obtain rfl : k = m := by omega
        go_wp2
        go_ret2
        exact ⟨⟨0, 0, rfl, RV_none s k HM.out HA.out⟩, rfl⟩

end Go.Proofs.YthnealhaleccpaaGreatDoor
namespace Go.Proofs.YthnealhaleccpaaGreatDoor
open Go.RowKit
open Plain

theorem implVar_any (n : Int) : Ans 24 #[.int .i64 n] (.string (varS n)) := by
  intro w
  by_cases h : 0 ≤ n ∧ n ≤ 562949953421311
  · obtain ⟨m, rfl⟩ := Int.eq_ofNat_of_zero_le h.1
    rw [varS_in m (by omega)]
    exact implVar_yes m w (by omega)
  · rw [varS_out n (by omega)]
    refine (implVar_no n w (by omega)).mono ?_
    rintro e w' ⟨rfl, rfl⟩
    exact ⟨rfl, Below.refl _ _⟩
theorem implFix4_any (n : Int) (h1 : n ≤ 9223372036854775807) : Ans 51 #[.int .i64 n, .int .i64 4] (.string (fixN n 4)) := by
  intro w
  by_cases h : 0 ≤ n
  · obtain ⟨m, rfl⟩ := Int.eq_ofNat_of_zero_le h
    have e : fixN (m : Int) 4 = fixStr m 4 := by unfold fixN; rw [if_pos h, Int.toNat_natCast]
    rw [e]
    exact implFixed_yes m 4 w (by omega) (by omega) (by omega)
  · have e : fixN n 4 = ⟨#[]⟩ := by unfold fixN; rw [if_neg h]
    rw [e]
    refine (implFixed_no n 4 w (by omega)).mono ?_
    rintro e w' ⟨rfl, rfl⟩
    exact ⟨rfl, Below.refl _ _⟩
theorem implRV_any (s : ByteArray) (hs : s.size ≤ 1048576) (w : World) : Calls Tryz.prog 75 #[.string s] w fun e w' => e = .returned (.tuple #[.int .i64 ((rv s).1 : Nat), .int .i64 ((rv s).2 : Nat)]) ∧ w = w' := by
  refine (implReadVar_any s w hs).mono ?_
  rintro e w' ⟨⟨n, k, rfl, h⟩, hb⟩
  rw [rv_of h]
  exact ⟨rfl, hb⟩
theorem implRF4_any (s : ByteArray) (hs : s.size ≤ 1048576) (w : World) : Calls Tryz.prog 74 #[.string s, .int .i64 4] w fun e w' => e = .returned (.tuple #[.int .i64 (sumV s : Nat), .bool (!sumF s)]) ∧ w = w' := by
  by_cases h : 4 ≤ s.size
  · have e1 : sumV s = fixVal s 4 := by unfold sumV; rw [if_pos h]
    have e2 : sumF s = false := decide_eq_false (by omega)
    rw [e1, e2]
    exact implReadFixed_yes s 4 w hs (by omega) (by omega) h
  · have e1 : sumV s = 0 := by unfold sumV; rw [if_neg h]
    have e2 : sumF s = true := decide_eq_true (by omega)
    rw [e1, e2]
    exact implReadFixed_no s 4 w hs (by omega)

end Go.Proofs.YthnealhaleccpaaGreatDoor
namespace Go.Proofs.YthnealhaleccpaaGreatDoor
open Go.RowKit
open Plain

/-- Block B, which w does not have, holds the taker: what is left, and whether a piece was missing; what was there in w is untouched. -/
structure TkAt (w : World) (B : Nat) (s : ByteArray) (f : Bool) (W : World) : Prop where
  row : W.heap[B]? = some (.cells #[.string s, .bool f] 62 (0, 0))
  new : w.heap.size ≤ B
  bel : Below w.heap.size w W
theorem TkAt.cells {w : World} {B : Nat} {s : ByteArray} {f : Bool} {W : World} (h : TkAt w B s f W) : W.cell? ⟨B, 0, none⟩ = some (.string s) ∧ W.cell? ⟨B, 1, none⟩ = some (.bool f) := by
  refine ⟨?_, ?_⟩ <;> (rw [cell_of_row W B _ _ _ _ h.row]; rfl)
theorem TkAt.free {w : World} {B : Nat} {s : ByteArray} {f : Bool} {W : World} (h : TkAt w B s f W) (j : Nat) : W.frozen? ⟨B, j, none⟩ = false := by simp [World.frozen?, h.row]
theorem TkAt.later {w : World} {B : Nat} {s : ByteArray} {f : Bool} {W W' : World} (h : TkAt w B s f W) (hb : Below W.heap.size W W') : TkAt w B s f W' :=
  ⟨(hb.block _ (lt_of_block h.row)).trans h.row, h.new, h.bel.trans (hb.mono h.bel.size)⟩
theorem TkAt.rest {w : World} {B : Nat} {s : ByteArray} {f : Bool} {W : World} (h : TkAt w B s f W) (t : ByteArray) : TkAt w B t f (W.setCell ⟨B, 0, none⟩ (.string t)) := by
  rw [setCell_eq_setRow W B 0 _ _ _ _ h.row]
  exact ⟨setRow_heap W B _ _ _ _ h.row, h.new, below_setRow h.bel h.new _⟩
theorem TkAt.fail {w : World} {B : Nat} {s : ByteArray} {f : Bool} {W : World} (h : TkAt w B s f W) (g : Bool) : TkAt w B s g (W.setCell ⟨B, 1, none⟩ (.bool g)) := by
  rw [setCell_eq_setRow W B 1 _ _ _ _ h.row]
  exact ⟨setRow_heap W B _ _ _ _ h.row, h.new, below_setRow h.bel h.new _⟩

set_option maxRecDepth 100000 in
set_option maxHeartbeats 1000000 in
theorem tkNum_any (w W : World) (B : Nat) (s : ByteArray) (f : Bool) (h : TkAt w B s f W) (hs : s.size ≤ 1048576) :
    Calls Tryz.prog 55 #[.pointer (some ⟨B, 0, none⟩)] W fun e w' => e = .returned (.int .i64 ((rv s).1 : Nat)) ∧ TkAt w B (numT s) (f || decide ((rv s).2 = 0)) w' := by
  obtain ⟨c0, c1⟩ := h.cells
  have f0 := h.free 0
  have f1 := h.free 1
  have HR := hide (implRV_any s hs)
  have HT : Hid (numT s = s.extract (rv s).2 s.size) := hide rfl
  have hbd := rv_bd s
  have HA := hide h
  clear h
  generalize (rv s).1 = n at *
  generalize (rv s).2 = k at *
  obtain ⟨-, -, hk⟩ := hbd
  by_cases h0 : k = 0
  · have t0 : ((k : Int) == 0) = true := by simpa using h0
    have HF : Hid ((f || decide (k = 0)) = true) := hide (by simp [h0])
    clear h0
    go_enter Tryz.func55, Tryz.ntmps55
    go_wp2_with (go_at_call 75; refine (HR.out _).mono ?_; rintro e w1 ⟨rfl, rfl⟩)
    go_ret
    refine ⟨rfl, ?_⟩
    rw [HF.out, HT.out]
    exact (HA.out.fail true).rest _
  · have t0 : ((k : Int) == 0) = false := by simpa using h0
    have HF : Hid ((f || decide (k = 0)) = f) := hide (by simp [h0])
    clear h0
    go_enter Tryz.func55, Tryz.ntmps55
    go_wp2_with (go_at_call 75; refine (HR.out _).mono ?_; rintro e w1 ⟨rfl, rfl⟩)
    go_ret
    refine ⟨rfl, ?_⟩
    rw [HF.out, HT.out]
    exact HA.out.rest _

set_option maxRecDepth 100000 in
set_option maxHeartbeats 1000000 in
theorem tkText_any (w W : World) (B : Nat) (s : ByteArray) (f : Bool) (h : TkAt w B s f W) (hs : s.size ≤ 1048576) :
    Calls Tryz.prog 54 #[.pointer (some ⟨B, 0, none⟩)] W fun e w' => e = .returned (.string (txtV s)) ∧ TkAt w B (txtR s) (f || txtF s) w' := by
  have HN := hide (tkNum_any w W B s f h hs)
  have hz : (numT s).size ≤ s.size := by rw [numT_size]; omega
  have hbd := rv_bd s
  by_cases hlt : (numT s).size < (rv s).1
  · have t1 : decide (((numT s).size : Int) < ((rv s).1 : Int)) = true := by simp; omega
    have HV : Hid (txtV s = ⟨#[]⟩ ∧ txtR s = numT s ∧ (f || txtF s) = true) := hide (by unfold txtV txtR txtF; rw [if_pos hlt, if_pos hlt]; simp [hlt])
    clear h
    generalize (f || decide ((rv s).2 = 0)) = g at *
    generalize (rv s).1 = n at *
    generalize (rv s).2 = k at *
    generalize numT s = s1 at *
    go_enter Tryz.func54, Tryz.ntmps54
    go_wp2_with fail
    refine HN.out.mono ?_
    rintro e w1 ⟨rfl, h1⟩
    obtain ⟨c0, c1⟩ := h1.cells
    have f0 := h1.free 0
    have f1 := h1.free 1
    have HA := hide h1
    clear h1 HN
    go_wp2
    go_ret
    obtain ⟨e1, e2, e3⟩ := HV.out
    rw [e1, e2, e3]
    exact ⟨rfl, HA.out.fail true⟩
  · have t1 : decide (((numT s).size : Int) < ((rv s).1 : Int)) = false := by simp; omega
    have hle : (rv s).1 ≤ (numT s).size := by omega
    have HV : Hid (txtV s = (numT s).extract 0 (rv s).1 ∧ txtR s = (numT s).extract (rv s).1 (numT s).size ∧ (f || txtF s) = (f || decide ((rv s).2 = 0))) := hide (by unfold txtV txtR txtF; rw [if_neg hlt, if_neg hlt]; simp [hlt])
    clear h
    generalize (f || decide ((rv s).2 = 0)) = g at *
    generalize (rv s).1 = n at *
    generalize (rv s).2 = k at *
    generalize numT s = s1 at *
    go_enter Tryz.func54, Tryz.ntmps54
    go_wp2_with fail
    refine HN.out.mono ?_
    rintro e w1 ⟨rfl, h1⟩
    obtain ⟨c0, c1⟩ := h1.cells
    have f0 := h1.free 0
    have f1 := h1.free 1
    have HA := hide h1
    clear h1 HN
    go_wp2
    go_ret
    obtain ⟨e1, e2, e3⟩ := HV.out
    rw [e1, e2, e3]
    exact ⟨rfl, HA.out.rest _⟩

set_option maxRecDepth 100000 in
set_option maxHeartbeats 1000000 in
theorem tkSum_any (w W : World) (B : Nat) (s : ByteArray) (f : Bool) (h : TkAt w B s f W) (hs : s.size ≤ 1048576) :
    Calls Tryz.prog 53 #[.pointer (some ⟨B, 0, none⟩)] W fun e w' => e = .returned (.int .i64 (sumV s : Nat)) ∧ TkAt w B (sumR s) (f || sumF s) w' := by
  obtain ⟨c0, c1⟩ := h.cells
  have f0 := h.free 0
  have f1 := h.free 1
  have HA := hide h
  have HR := hide (implRF4_any s hs)
  clear h
  by_cases h4 : 4 ≤ s.size
  · have hF : sumF s = false := decide_eq_false (by omega)
    have HV : Hid (sumR s = s.extract 4 s.size) := hide (by unfold sumR; rw [if_pos h4])
    rw [hF] at HR ⊢
    rw [Bool.or_false]
    generalize sumV s = n at *
    clear hF
    go_enter Tryz.func53, Tryz.ntmps53
    go_wp2_with (go_at_call 74; refine (HR.out _).mono ?_; rintro e w1 ⟨rfl, rfl⟩)
    go_ret
    rw [HV.out]
    exact ⟨rfl, HA.out.rest _⟩
  · have hF : sumF s = true := decide_eq_true (by omega)
    have HV : Hid (sumR s = s ∧ sumV s = 0) := hide (by unfold sumR sumV; rw [if_neg h4, if_neg h4]; exact ⟨rfl, rfl⟩)
    rw [hF] at HR ⊢
    rw [Bool.or_true]
    generalize sumV s = n at *
    clear hF
    go_enter Tryz.func53, Tryz.ntmps53
    go_wp2_with (go_at_call 74; refine (HR.out _).mono ?_; rintro e w1 ⟨rfl, rfl⟩)
    go_ret
    obtain ⟨e1, e2⟩ := HV.out
    rw [e1, e2]
    exact ⟨rfl, HA.out.fail true⟩

end Go.Proofs.YthnealhaleccpaaGreatDoor
namespace Go.Proofs.YthnealhaleccpaaGreatDoor
open Go.RowKit
open Plain

theorem grown_setT {w v : World} {B : Nat} (h : w.grownBy v (some B)) (p : Addr) (hp : p.block = B) (u : Value) : w.grownBy (v.setCell p u) (some B) :=
  ⟨h.os, h.tape, h.output, by simpa using h.size, fun k hk hr => (Below.heap_setCell v p u k (fun e => hr (by rw [e, hp]))).trans (h.block k hk hr)⟩

set_option maxRecDepth 100000 in
set_option maxHeartbeats 1000000 in
theorem tkNum_g (w W : World) (B : Nat) (s : ByteArray) (f : Bool) (h : TkAt w B s f W) (hs : s.size ≤ 1048576) :
    Calls Tryz.prog 55 #[.pointer (some ⟨B, 0, none⟩)] W fun e w' => e = .returned (.int .i64 ((rv s).1 : Nat)) ∧ TkAt w B (numT s) (f || decide ((rv s).2 = 0)) w' ∧ W.grownBy w' (some B) := by
  obtain ⟨c0, c1⟩ := h.cells
  have f0 := h.free 0
  have f1 := h.free 1
  have HR := hide (implRV_any s hs)
  have HT : Hid (numT s = s.extract (rv s).2 s.size) := hide rfl
  have hbd := rv_bd s
  have HA := hide h
  have HG : Hid (W.grownBy W (some B)) := hide ⟨rfl, rfl, rfl, Nat.le_refl _, fun _ _ _ => rfl⟩
  clear h
  generalize (rv s).1 = n at *
  generalize (rv s).2 = k at *
  obtain ⟨-, -, hk⟩ := hbd
  by_cases h0 : k = 0
  · have t0 : ((k : Int) == 0) = true := by simpa using h0
    have HF : Hid ((f || decide (k = 0)) = true) := hide (by simp [h0])
    clear h0
    go_enter Tryz.func55, Tryz.ntmps55
    go_wp2_with (go_at_call 75; refine (HR.out _).mono ?_; rintro e w1 ⟨rfl, rfl⟩)
    go_ret
    refine ⟨rfl, ?_, grown_setT (grown_setT HG.out _ rfl _) _ rfl _⟩
    rw [HF.out, HT.out]
    exact (HA.out.fail true).rest _
  · have t0 : ((k : Int) == 0) = false := by simpa using h0
    have HF : Hid ((f || decide (k = 0)) = f) := hide (by simp [h0])
    clear h0
    go_enter Tryz.func55, Tryz.ntmps55
    go_wp2_with (go_at_call 75; refine (HR.out _).mono ?_; rintro e w1 ⟨rfl, rfl⟩)
    go_ret
    refine ⟨rfl, ?_, grown_setT HG.out _ rfl _⟩
    rw [HF.out, HT.out]
    exact HA.out.rest _

end Go.Proofs.YthnealhaleccpaaGreatDoor
namespace Go.Proofs.YthnealhaleccpaaGreatDoor
namespace Plain

/-- One halving. -/
def tk (c : Nat) : Nat := if c % 2 = 1 then (c / 2) ^^^ 2197175160 else c / 2
def tkN : Nat → Nat → Nat
  | 0, c => c
  | n + 1, c => tk (tkN n c)
theorem tkN_succ' (n c : Nat) : tkN (n + 1) c = tkN n (tk c) := by
  induction n with
  | zero => rfl
  | succ n ih => rw [tkN, ih]; rfl
theorem tkN_add (m n c : Nat) : tkN (m + n) c = tkN m (tkN n c) := by
  induction m with
  | zero => rw [Nat.zero_add]; rfl
  | succ m ih => rw [Nat.add_right_comm, tkN, ih]; rfl
theorem xor_half (a b : Nat) : (a ^^^ b) / 2 = a / 2 ^^^ b / 2 := by
  have := Nat.shiftRight_xor_distrib (a := a) (b := b) (i := 1)
  simpa [Nat.shiftRight_eq_div_pow] using this
theorem xor_odd (a b : Nat) : (a ^^^ b) % 2 = (a % 2 + b % 2) % 2 := by
  have h := Nat.xor_mod_two_pow (a := a) (b := b) (n := 1)
  rw [Nat.pow_one] at h
  rw [h]
  rcases Nat.mod_two_eq_zero_or_one a with h1 | h1 <;> rcases Nat.mod_two_eq_zero_or_one b with h2 | h2 <;> rw [h1, h2] <;> rfl
theorem tk_xor (a b : Nat) : tk (a ^^^ b) = tk a ^^^ tk b := by
  unfold tk
  rw [xor_odd, xor_half]
  rcases Nat.mod_two_eq_zero_or_one a with h1 | h1 <;> rcases Nat.mod_two_eq_zero_or_one b with h2 | h2
  · simp [h1, h2]
  · simp [h1, h2, Nat.xor_assoc]
  · simp only [h1, h2]
    simp
    rw [Nat.xor_assoc, Nat.xor_assoc, Nat.xor_comm (b / 2)]
  · simp only [h1, h2]
    simp
    rw [Nat.xor_assoc, Nat.xor_comm 2197175160, Nat.xor_assoc, Nat.xor_self, Nat.xor_zero]
theorem tkN_xor (n a b : Nat) : tkN n (a ^^^ b) = tkN n a ^^^ tkN n b := by
  induction n with
  | zero => rfl
  | succ n ih => rw [tkN, ih, tk_xor]; rfl
theorem tk_lt (c : Nat) (h : c < 4294967296) : tk c < 4294967296 := by
  unfold tk
  split
  · have : (c / 2) ^^^ 2197175160 < 2 ^ 32 := Nat.xor_lt_two_pow (by omega) (by omega)
    omega
  · omega
theorem tkN_lt (n c : Nat) (h : c < 4294967296) : tkN n c < 4294967296 := by
  induction n with
  | zero => exact h
  | succ n ih => exact tk_lt _ ih
theorem xor_lt32 (a b : Nat) (h1 : a < 4294967296) (h2 : b < 4294967296) : a ^^^ b < 4294967296 := by
  have : a ^^^ b < 2 ^ 32 := Nat.xor_lt_two_pow (by omega) (by omega)
  omega
theorem eq_of_xor (a b : Nat) (h : a ^^^ b = 0) : a = b := by
  have h2 : (a ^^^ b) ^^^ b = b := by rw [h, Nat.zero_xor]
  rw [Nat.xor_assoc, Nat.xor_self, Nat.xor_zero] at h2
  exact h2
theorem tk_zero (d : Nat) (hd : d < 4294967296) (h : tk d = 0) : d = 0 := by
  unfold tk at h
  split at h
  · have := eq_of_xor _ _ h
    omega
  · omega
theorem tk_inj (a b : Nat) (ha : a < 4294967296) (hb : b < 4294967296) (h : tk a = tk b) : a = b := by
  apply eq_of_xor
  apply tk_zero _ (xor_lt32 a b ha hb)
  rw [tk_xor, h, Nat.xor_self]
theorem tkN_inj (n a b : Nat) (ha : a < 4294967296) (hb : b < 4294967296) (h : tkN n a = tkN n b) : a = b := by
  induction n with
  | zero => exact h
  | succ n ih => exact ih (tk_inj _ _ (tkN_lt n a ha) (tkN_lt n b hb) h)
theorem tkN_shift (n a : Nat) : tkN n (a * 2 ^ n) = a := by
  induction n with
  | zero => simp [tkN]
  | succ n ih =>
    rw [tkN_succ']
    have e : tk (a * 2 ^ (n + 1)) = a * 2 ^ n := by
      unfold tk
      have : a * 2 ^ (n + 1) = 2 * (a * 2 ^ n) := by rw [Nat.pow_succ]; rw [← Nat.mul_assoc, Nat.mul_comm]
      rw [this, if_neg (by omega)]
      omega
    rw [e, ih]

/-- The table of sixteen. -/
def tab : List Nat := [0, 274646895, 549293790, 820201905, 1098587580, 1361435347, 1640403810, 1905808397, 2197175160, 2460548119, 2722870694, 2987750089, 3280807620, 3553878443, 3811616794, 4084100981]
theorem tab_eq : ∀ l, l < 16 → tab.getD l 0 = tkN 4 l := by decide
theorem tab_lt : ∀ l, l < 16 → tab.getD l 0 < 4294967296 := by decide
theorem four (c : Nat) : (c / 16) ^^^ tab.getD (c % 16) 0 = tkN 4 c := by
  rw [tab_eq _ (Nat.mod_lt _ (by omega))]
  have e : c = (c / 16 * 2 ^ 4) ^^^ (c % 16) := by
    have h := Nat.two_pow_add_eq_or_of_lt (i := 4) (b := c % 16) (Nat.mod_lt _ (by omega)) (c / 16)
    have h2 : c / 16 * 2 ^ 4 ^^^ c % 16 = 2 ^ 4 * (c / 16) + c % 16 := by
      rw [h, Nat.mul_comm]
      apply Nat.eq_of_testBit_eq
      intro j
      rw [Nat.testBit_xor, Nat.testBit_or, Nat.testBit_two_pow_mul]
      by_cases hj : j < 4
      · simp [show ¬ 4 ≤ j from by omega]
      · have : (c % 16).testBit j = false := Nat.testBit_lt_two_pow (Nat.lt_of_lt_of_le (Nat.mod_lt _ (by omega)) (show 16 ≤ 2 ^ j from Nat.pow_le_pow_right (n := 2) (i := 4) (by omega) (by omega)))
        simp [this]
    omega
  conv => rhs; rw [e]
  rw [tkN_xor, tkN_shift]

/-- What a byte makes of a sum. -/
def bt (c b : Nat) : Nat := tkN 8 (c ^^^ b)
theorem bt_lt (c b : Nat) (h : c < 4294967296) (hb : b < 256) : bt c b < 4294967296 := tkN_lt _ _ (xor_lt32 _ _ h (by omega))
theorem bt_two (c b : Nat) : (tkN 4 (c ^^^ b) / 16) ^^^ tab.getD (tkN 4 (c ^^^ b) % 16) 0 = bt c b := by
  rw [four, ← tkN_add]
  rfl
/-- What bytes make of a sum. -/
def cf (c : Nat) (xs : List Nat) : Nat := xs.foldl bt c
theorem cf_nil (c : Nat) : cf c [] = c := List.foldl_nil
theorem cf_cons (c b : Nat) (r : List Nat) : cf c (b :: r) = cf (bt c b) r := List.foldl_cons ..
theorem cf_append (xs ys : List Nat) : ∀ c, cf c (xs ++ ys) = cf (cf c xs) ys := by
  intro c
  exact List.foldl_append
theorem cf_lt (xs : List Nat) (hx : ∀ b ∈ xs, b < 256) : ∀ c, c < 4294967296 → cf c xs < 4294967296 := by
  induction xs with
  | nil => intro c h; rw [cf_nil]; exact h
  | cons b r ih => intro c h; rw [cf_cons]; exact ih (fun x hx' => hx x (by simp [hx'])) _ (bt_lt c b h (hx b (by simp)))
theorem cf_inj (xs : List Nat) (hx : ∀ b ∈ xs, b < 256) : ∀ c d, c < 4294967296 → d < 4294967296 → cf c xs = cf d xs → c = d := by
  induction xs with
  | nil => intro c d _ _ h; rw [cf_nil, cf_nil] at h; exact h
  | cons b r ih =>
    intro c d hc hd h
    rw [cf_cons, cf_cons] at h
    have hb := hx b (by simp)
    have h1 := ih (fun x hx' => hx x (by simp [hx'])) _ _ (bt_lt c b hc hb) (bt_lt d b hd hb) h
    have h2 := tkN_inj 8 _ _ (xor_lt32 c b hc (by omega)) (xor_lt32 d b hd (by omega)) h1
    have h3 : c ^^^ d = 0 := by
      have h4 : (c ^^^ b) ^^^ (d ^^^ b) = 0 := by rw [h2, Nat.xor_self]
      rw [Nat.xor_assoc, Nat.xor_comm d b, ← Nat.xor_assoc b b d, Nat.xor_self, Nat.zero_xor] at h4
      exact h4
    exact eq_of_xor _ _ h3
/-- Bytes as one number, the first the least. -/
def lv : List Nat → Nat
  | [] => 0
  | b :: r => b + 256 * lv r
theorem low8 (b v : Nat) (hb : b < 256) : b ^^^ (v * 2 ^ 8) = b + 256 * v := by
  have h := Nat.two_pow_add_eq_or_of_lt (i := 8) (b := b) (by omega) v
  have h2 : b ^^^ (v * 2 ^ 8) = 2 ^ 8 * v ||| b := by
    rw [Nat.mul_comm v]
    apply Nat.eq_of_testBit_eq
    intro j
    rw [Nat.testBit_xor, Nat.testBit_or, Nat.testBit_two_pow_mul]
    by_cases hj : j < 8
    · simp [show ¬ 8 ≤ j from by omega]
    · have : b.testBit j = false := Nat.testBit_lt_two_pow (Nat.lt_of_lt_of_le hb (show 256 ≤ 2 ^ j from Nat.pow_le_pow_right (n := 2) (i := 8) (by omega) (by omega)))
      simp [this]
  rw [h2, ← h]
  omega
theorem cf_lv (xs : List Nat) (hx : ∀ b ∈ xs, b < 256) : ∀ c, cf c xs = tkN (8 * xs.length) (c ^^^ lv xs) := by
  induction xs with
  | nil => intro c; rw [cf_nil, lv, Nat.xor_zero]; rfl
  | cons b r ih =>
    intro c
    have hb := hx b (by simp)
    rw [cf_cons, ih (fun x hx' => hx x (by simp [hx']))]
    rw [List.length_cons, Nat.mul_add, Nat.mul_one, tkN_add, bt, lv, ← low8 b (lv r) hb]
    congr 1
    rw [← Nat.xor_assoc, tkN_xor 8 (c ^^^ b), tkN_shift]
theorem lv_lt (xs : List Nat) (hx : ∀ b ∈ xs, b < 256) : lv xs < 256 ^ xs.length := by
  induction xs with
  | nil => simp [lv]
  | cons b r ih =>
    have hb := hx b (by simp)
    have := ih (fun x hx' => hx x (by simp [hx']))
    rw [lv, List.length_cons, Nat.pow_succ]
    omega
theorem lv_inj : ∀ (xs ys : List Nat), (∀ b ∈ xs, b < 256) → (∀ b ∈ ys, b < 256) → xs.length = ys.length → lv xs = lv ys → xs = ys
  | [], [], _, _, _, _ => rfl
  | [], _ :: _, _, _, h, _ => by simp at h
  | _ :: _, [], _, _, h, _ => by simp at h
  | a :: r, b :: t, hx, hy, hl, h => by
    have ha := hx a (by simp)
    have hb := hy b (by simp)
    simp only [lv] at h
    have e : a = b := by omega
    have e2 : lv r = lv t := by omega
    rw [e, lv_inj r t (fun x h' => hx x (by simp [h'])) (fun x h' => hy x (by simp [h'])) (by simpa using hl) e2]
/-- At most four bytes: other bytes make another sum. -/
theorem cf_four (xs ys : List Nat) (hx : ∀ b ∈ xs, b < 256) (hy : ∀ b ∈ ys, b < 256) (hl : xs.length = ys.length) (h4 : xs.length ≤ 4) (c : Nat) (hc : c < 4294967296) (h : cf c xs = cf c ys) : xs = ys := by
  have p4 : ∀ n, n ≤ 4 → 256 ^ n ≤ 4294967296 := by
    intro n hn
    have := Nat.pow_le_pow_right (n := 256) (by omega) hn
    simpa using this
  have l1 : lv xs < 4294967296 := Nat.lt_of_lt_of_le (lv_lt xs hx) (p4 _ h4)
  have l2 : lv ys < 4294967296 := Nat.lt_of_lt_of_le (lv_lt ys hy) (p4 _ (by omega))
  rw [cf_lv xs hx, cf_lv ys hy, ← hl] at h
  have h2 := tkN_inj _ _ _ (xor_lt32 c _ hc l1) (xor_lt32 c _ hc l2) h
  have h3 : lv xs ^^^ lv ys = 0 := by
    have h5 : (c ^^^ lv xs) ^^^ (c ^^^ lv ys) = 0 := by rw [h2, Nat.xor_self]
    rw [Nat.xor_comm c, Nat.xor_assoc, ← Nat.xor_assoc c c, Nat.xor_self, Nat.zero_xor] at h5
    exact h5
  exact lv_inj xs ys hx hy hl (eq_of_xor _ _ h3)
/-- Bytes that part at most within four in a row: other bytes make another sum. -/
theorem cf_parts (xs ys : List Nat) (hx : ∀ b ∈ xs, b < 256) (hy : ∀ b ∈ ys, b < 256) (hl : xs.length = ys.length) (k : Nat) (ho : ∀ j, j < k ∨ k + 4 ≤ j → xs[j]? = ys[j]?) (c : Nat) (hc : c < 4294967296) (h : cf c xs = cf c ys) : xs = ys := by
  have e0 : xs.take k = ys.take k := by
    apply List.ext_getElem?
    intro j
    rw [List.getElem?_take, List.getElem?_take]
    split
    · exact ho j (by omega)
    · rfl
  have e2 : (xs.drop k).drop 4 = (ys.drop k).drop 4 := by
    apply List.ext_getElem?
    intro j
    rw [List.drop_drop, List.drop_drop, List.getElem?_drop, List.getElem?_drop]
    exact ho _ (by omega)
  have x1 : xs = xs.take k ++ ((xs.drop k).take 4 ++ (xs.drop k).drop 4) := by rw [List.take_append_drop, List.take_append_drop]
  have y1 : ys = xs.take k ++ ((ys.drop k).take 4 ++ (xs.drop k).drop 4) := by rw [e0, e2, List.take_append_drop, List.take_append_drop]
  have m1 : ∀ b ∈ xs.take k, b < 256 := fun b hb => hx b (List.mem_of_mem_take hb)
  have m2 : ∀ b ∈ (xs.drop k).take 4, b < 256 := fun b hb => hx b (List.mem_of_mem_drop (List.mem_of_mem_take hb))
  have m3 : ∀ b ∈ (ys.drop k).take 4, b < 256 := fun b hb => hy b (List.mem_of_mem_drop (List.mem_of_mem_take hb))
  have m4 : ∀ b ∈ (xs.drop k).drop 4, b < 256 := fun b hb => hx b (List.mem_of_mem_drop (List.mem_of_mem_drop hb))
  have hcc := cf_lt _ m1 c hc
  have h1 : cf (cf (cf c (xs.take k)) ((xs.drop k).take 4)) ((xs.drop k).drop 4) = cf (cf (cf c (xs.take k)) ((ys.drop k).take 4)) ((xs.drop k).drop 4) := by
    rw [← cf_append, ← cf_append, ← cf_append, ← cf_append, ← x1, ← y1]
    exact h
  have h2 := cf_inj _ m4 _ _ (cf_lt _ m2 _ hcc) (cf_lt _ m3 _ hcc) h1
  have h3 := cf_four _ _ m2 m3 (by simp [List.length_take, List.length_drop, hl]) (by rw [List.length_take]; omega) _ hcc h2
  rw [x1, y1, ← h3]

/-- The sum of a text behind its first k bytes, and of all. -/
def ck (s : ByteArray) (k : Nat) : Nat := cf 4294967295 ((bl s).take k)
def crcN (s : ByteArray) : Nat := 4294967295 - cf 4294967295 (bl s)
theorem ck_zero (s : ByteArray) : ck s 0 = 4294967295 := by rw [ck, List.take_zero, cf_nil]
theorem ck_succ (s : ByteArray) (k : Nat) (h : k < s.size) : ck s (k + 1) = bt (ck s k) s[k].toNat := by
  unfold ck
  rw [bl_take_succ s k h, cf_append, cf_cons, cf_nil]
theorem bl_all (s : ByteArray) : ∀ b ∈ bl s, b < 256 := by
  intro b hb
  have := bl_lt s (bl s).length b (by rw [List.take_length]; exact hb)
  exact this
theorem ck_lt (s : ByteArray) (k : Nat) : ck s k < 4294967296 := cf_lt _ (bl_lt s k) _ (by omega)
theorem ck_all (s : ByteArray) : ck s s.size = cf 4294967295 (bl s) := by
  unfold ck
  rw [List.take_of_length_le (by rw [bl_length]; exact Nat.le_refl _)]
theorem crc_ck (s : ByteArray) : (crcN s : Int) = 4294967295 - (ck s s.size : Int) := by
  have := ck_lt s s.size
  unfold crcN
  rw [← ck_all]
  omega

end Plain
end Go.Proofs.YthnealhaleccpaaGreatDoor
namespace Go.Proofs.YthnealhaleccpaaGreatDoor
open Go.RowKit
open Plain

theorem cut_cut (s : ByteArray) (a b : Nat) (h : a ≤ s.size) : (s.extract a s.size).extract b (s.extract a s.size).size = s.extract (a + b) s.size := by
  apply bl_inj
  rw [bl_extract, bl_extract, bl_extract, ba_len s a s.size h (Nat.le_refl _)]
  rw [List.take_of_length_le (by rw [List.length_drop, List.length_take, bl_length]; omega), List.drop_drop]
theorem cut_take (s : ByteArray) (a n : Nat) : (s.extract a s.size).extract 0 n = s.extract a (a + n) := by
  apply bl_inj
  have e : (bl s).take s.size = bl s := List.take_of_length_le (by rw [bl_length]; exact Nat.le_refl _)
  rw [bl_extract, bl_extract, bl_extract, List.drop_zero, e, List.take_drop]
theorem crcN_le (s : ByteArray) : crcN s ≤ 4294967295 := by
  have h := crc_ck s
  have := ck_lt s s.size
  omega
/-- The sum of a text, four bytes. -/
def sumS (t : ByteArray) : ByteArray := fixN (crcN t : Int) 4
theorem sumS_size (t : ByteArray) : (sumS t).size = 4 := by
  unfold sumS
  rw [fixN_in _ 4 (by rw [p32]; have := crcN_le t; omega), strOfNums_size, low_length]
def frameS (s : ByteArray) : ByteArray := if s.size ≤ 200 then sumS (textS s) ++ textS s else ⟨#[]⟩
theorem frameS_in (s : ByteArray) (h : s.size ≤ 200) : frameS s = sumS (textS s) ++ textS s := if_pos h
theorem frameS_out (s : ByteArray) (h : ¬ s.size ≤ 200) : frameS s = ⟨#[]⟩ := if_neg h
theorem textS_size' (s : ByteArray) : (textS s).size ≤ 7 + s.size := by
  unfold textS
  rw [ByteArray.size_append]
  have := varS_size (s.size : Int)
  omega
theorem frameS_size (s : ByteArray) : (frameS s).size ≤ 211 := by
  unfold frameS
  split
  · rw [ByteArray.size_append, sumS_size]
    have := textS_size' s
    omega
  · exact Nat.zero_le _

/-- A text that begins with a frame: of which text, and how many bytes the frame has. -/
def uf (s : ByteArray) : ByteArray × Nat :=
  if s.size < 5 ∨ (rv (s.extract 4 s.size)).2 = 0 ∨ 200 < (rv (s.extract 4 s.size)).1 ∨ s.size < 4 + (rv (s.extract 4 s.size)).2 + (rv (s.extract 4 s.size)).1 then (⟨#[]⟩, 0)
  else if s.extract 0 (4 + (rv (s.extract 4 s.size)).2 + (rv (s.extract 4 s.size)).1) = frameS (s.extract (4 + (rv (s.extract 4 s.size)).2) (4 + (rv (s.extract 4 s.size)).2 + (rv (s.extract 4 s.size)).1))
  then (s.extract (4 + (rv (s.extract 4 s.size)).2) (4 + (rv (s.extract 4 s.size)).2 + (rv (s.extract 4 s.size)).1), 4 + (rv (s.extract 4 s.size)).2 + (rv (s.extract 4 s.size)).1) else (⟨#[]⟩, 0)
/-- The same in words. -/
def UF (s t : ByteArray) (n : Nat) : Prop :=
  (t.size ≤ 200 ∧ n = (frameS t).size ∧ ∃ T, s = frameS t ++ T) ∨ (n = 0 ∧ t = ⟨#[]⟩ ∧ ∀ u T, u.size ≤ 200 → s ≠ frameS u ++ T)

theorem drop4 (A T : ByteArray) (h : A.size = 4) : (A ++ T).extract 4 (A ++ T).size = T := by
  have := ba_drop A T
  rw [h] at this
  exact this
theorem uf_frame (u T : ByteArray) (h : u.size ≤ 200) : uf (frameS u ++ T) = (u, (frameS u).size) := by
  have e0 : frameS u ++ T = sumS (textS u) ++ (textS u ++ T) := by rw [frameS_in u h, ByteArray.append_assoc]
  have e4 : (frameS u ++ T).extract 4 (frameS u ++ T).size = textS u ++ T := by rw [e0]; exact drop4 _ _ (sumS_size _)
  have e1 : textS u ++ T = varS (u.size : Int) ++ (u ++ T) := by unfold textS; rw [ByteArray.append_assoc]
  have er : rv (textS u ++ T) = (u.size, (varS (u.size : Int)).size) := by rw [e1]; exact rv_var u.size (by omega) _
  have hp := varS_pos u.size (by omega)
  have hz : (frameS u).size = 4 + (varS (u.size : Int)).size + u.size := by
    rw [frameS_in u h, ByteArray.size_append, sumS_size]
    unfold textS
    rw [ByteArray.size_append]
    omega
  have hs : (frameS u ++ T).size = (frameS u).size + T.size := ByteArray.size_append
  have et : (frameS u ++ T).extract (4 + (varS (u.size : Int)).size) (4 + (varS (u.size : Int)).size + u.size) = u := by
    have e5 : frameS u ++ T = (sumS (textS u) ++ varS (u.size : Int)) ++ (u ++ T) := by rw [e0, e1, ByteArray.append_assoc]
    have e6 := cut_take (frameS u ++ T) (4 + (varS (u.size : Int)).size) u.size
    rw [← e6]
    have e7 : (sumS (textS u) ++ varS (u.size : Int)).size = 4 + (varS (u.size : Int)).size := by rw [ByteArray.size_append, sumS_size]
    rw [e5, ← e7, ba_drop, ba_take]
  unfold uf
  rw [e4, er]
  simp only
  rw [if_neg (by omega), et, ← hz, ba_take, if_pos rfl]
theorem uf_UF (s : ByteArray) : UF s (uf s).1 (uf s).2 := by
  by_cases h : ∃ u T, u.size ≤ 200 ∧ s = frameS u ++ T
  · obtain ⟨u, T, h1, rfl⟩ := h
    rw [uf_frame u T h1]
    exact Or.inl ⟨h1, rfl, T, rfl⟩
  · have hn : ∀ u T, u.size ≤ 200 → s ≠ frameS u ++ T := fun u T h1 h2 => h ⟨u, T, h1, h2⟩
    refine Or.inr ?_
    unfold uf
    split
    · exact ⟨rfl, rfl, hn⟩
    · rename_i hc
      split
      · rename_i he
        exfalso
        have hsz : (s.extract (4 + (rv (s.extract 4 s.size)).2) (4 + (rv (s.extract 4 s.size)).2 + (rv (s.extract 4 s.size)).1)).size = (rv (s.extract 4 s.size)).1 := by rw [ba_len _ _ _ (by omega) (by omega)]; omega
        refine hn (s.extract (4 + (rv (s.extract 4 s.size)).2) (4 + (rv (s.extract 4 s.size)).2 + (rv (s.extract 4 s.size)).1)) (s.extract (4 + (rv (s.extract 4 s.size)).2 + (rv (s.extract 4 s.size)).1) s.size) ?_ ?_
        · rw [hsz]; omega
        · rw [← he, ba_split]
      · exact ⟨rfl, rfl, hn⟩
theorem UF_one {s t u : ByteArray} {n m : Nat} (h : UF s t n) (h' : UF s u m) : t = u ∧ n = m := by
  rcases h with ⟨h1, rfl, T, rfl⟩ | ⟨rfl, rfl, h1⟩
  · rcases h' with ⟨g1, rfl, T', e⟩ | ⟨_, _, g1⟩
    · have e1 := uf_frame t T h1
      rw [e, uf_frame u T' g1] at e1
      injection e1 with a b
      exact ⟨a.symm, b.symm⟩
    · exact absurd rfl (g1 t T h1)
  · rcases h' with ⟨g1, rfl, T', e⟩ | ⟨rfl, rfl, _⟩
    · exact absurd e (h1 u T' g1)
    · exact ⟨rfl, rfl⟩
theorem uf_of {s t : ByteArray} {n : Nat} (h : UF s t n) : uf s = (t, n) := by
  obtain ⟨h1, h2⟩ := UF_one (uf_UF s) h
  rw [← h1, ← h2]
theorem uf_bd (s : ByteArray) : (uf s).1.size ≤ 200 ∧ (uf s).2 ≤ s.size ∧ (uf s).2 ≤ 211 := by
  rcases uf_UF s with ⟨h1, h2, T, h3⟩ | ⟨h1, h2, _⟩
  · have := frameS_size (uf s).1
    have e : s.size = (frameS (uf s).1).size + T.size := by rw [← ByteArray.size_append, ← h3]
    omega
  · rw [h1, h2]
    exact ⟨Nat.zero_le _, Nat.zero_le _, Nat.zero_le _⟩

end Go.Proofs.YthnealhaleccpaaGreatDoor
namespace Go.Proofs.YthnealhaleccpaaGreatDoor
open Go.RowKit
open Plain

def catV : List Int → ByteArray
  | [] => ⟨#[]⟩
  | x :: r => varS x ++ catV r
def bodyL (v : LiveV) : ByteArray := varS v.next ++ (varS (v.ids.length : Int) ++ catV v.ids)
def showL (v : LiveV) : ByteArray := if liveB v then frameS (bodyL v) else ⟨#[]⟩

/-- The numbers that stand in a text, n of them. -/
def idsF : Nat → ByteArray → List Int
  | 0, _ => []
  | n + 1, t => ((rv t).1 : Int) :: idsF n (t.extract (rv t).2 t.size)
theorem idsF_cat (l : List Int) (T : ByteArray) (h : ∀ x ∈ l, 0 ≤ x ∧ x ≤ 562949953421311) : idsF l.length (catV l ++ T) = l := by
  induction l with
  | nil => rfl
  | cons x r ih =>
    have hx := h x (List.mem_cons_self ..)
    obtain ⟨n, rfl⟩ := Int.eq_ofNat_of_zero_le hx.1
    rw [List.length_cons, idsF, catV, ByteArray.append_assoc, rv_var n (by omega)]
    simp only
    rw [ba_drop, ih (fun y hy => h y (List.mem_cons_of_mem _ hy))]
theorem catV_empty (l : List Int) : catV l ++ (⟨#[]⟩ : ByteArray) = catV l := ByteArray.append_empty

/-- What ReadLive tells, off the text of the frame. -/
def liveOf (t : ByteArray) : LiveV :=
  ⟨((rv t).1 : Int), idsF (min (rv (t.extract (rv t).2 t.size)).1 60) ((t.extract (rv t).2 t.size).extract (rv (t.extract (rv t).2 t.size)).2 (t.extract (rv t).2 t.size).size)⟩
theorem liveOf_body {v : LiveV} (h : liveB v = true) : liveOf (bodyL v) = v := by
  obtain ⟨h1, h2, h3⟩ := live_bd h
  obtain ⟨next, ids⟩ := v
  simp only at h1 h2 h3
  obtain ⟨n, rfl⟩ := Int.eq_ofNat_of_zero_le (show 0 ≤ next by omega)
  unfold liveOf bodyL
  simp only
  rw [rv_var n (by omega)]
  simp only
  rw [ba_drop, rv_var ids.length (by omega)]
  simp only
  rw [ba_drop, Nat.min_eq_left h2.2, ← catV_empty, idsF_cat ids _ (fun x hx => by have := h3 x hx; omega)]

theorem varS_size3 (x : Int) (h0 : 0 ≤ x) (h1 : x ≤ 100000) : (varS x).size ≤ 3 := by
  obtain ⟨n, rfl⟩ := Int.eq_ofNat_of_zero_le h0
  rw [varS_size_in n (by omega)]
  exact vb_len 2 n (by omega)
theorem catV_size (l : List Int) (h : ∀ x ∈ l, 0 < x ∧ x ≤ 99999) : (catV l).size ≤ 3 * l.length := by
  induction l with
  | nil => exact Nat.zero_le _
  | cons x r ih =>
    have h1 := h x (List.mem_cons_self ..)
    have h2 := varS_size3 x (by omega) (by omega)
    have h3 := ih (fun y hy => h y (List.mem_cons_of_mem _ hy))
    rw [catV, ByteArray.size_append, List.length_cons]
    omega
theorem bodyL_size {v : LiveV} (h : liveB v = true) : (bodyL v).size ≤ 186 := by
  obtain ⟨h1, h2, h3⟩ := live_bd h
  have a1 := varS_size3 v.next (by omega) (by omega)
  have a2 := varS_size3 (v.ids.length : Int) (by omega) (by omega)
  have a3 := catV_size v.ids h3
  unfold bodyL
  rw [ByteArray.size_append, ByteArray.size_append]
  omega
theorem showL_in {v : LiveV} (h : liveB v = true) : showL v = frameS (bodyL v) := if_pos h
theorem showL_out {v : LiveV} (h : liveB v = false) : showL v = ⟨#[]⟩ := if_neg (by rw [h]; simp)
theorem showL_pos {v : LiveV} (h : liveB v = true) : 0 < (showL v).size := by
  have := bodyL_size h
  rw [showL_in h, frameS_in _ (by omega), ByteArray.size_append, sumS_size]
  omega
theorem showL_size (v : LiveV) : (showL v).size ≤ 211 := by
  unfold showL
  split
  · exact frameS_size _
  · exact Nat.zero_le _
theorem uf_showL {v : LiveV} (h : liveB v = true) : uf (showL v) = (bodyL v, (showL v).size) := by
  have := bodyL_size h
  have e := uf_frame (bodyL v) ⟨#[]⟩ (by omega)
  rw [show frameS (bodyL v) ++ (⟨#[]⟩ : ByteArray) = frameS (bodyL v) from ByteArray.append_empty] at e
  rw [showL_in h, e]
theorem showL_inj {u v : LiveV} (h : liveB u = true) (k : liveB v = true) (e : showL u = showL v) : u = v := by
  have e1 := uf_showL h
  rw [e, uf_showL k] at e1
  injection e1 with e1 _
  rw [← liveOf_body h, ← liveOf_body k, e1]

def zeroL : LiveV := ⟨0, []⟩
/-- ReadLive as a function. -/
def rl (s : ByteArray) : LiveV × Bool := if s.size ≠ 0 ∧ showL (liveOf (uf s).1) = s then (liveOf (uf s).1, true) else (zeroL, false)
/-- The same in words. -/
def RL (s : ByteArray) (v : LiveV) (ok : Bool) : Prop := (ok = true ∧ liveB v = true ∧ showL v = s) ∨ (ok = false ∧ v = zeroL ∧ ∀ u, liveB u = true → showL u ≠ s)
theorem rl_RL (s : ByteArray) : RL s (rl s).1 (rl s).2 := by
  unfold rl
  split
  · rename_i h
    refine Or.inl ⟨rfl, ?_, h.2⟩
    cases hb : liveB (liveOf (uf s).1) with
    | true => rfl
    | false =>
      exfalso
      have e := h.2
      rw [showL_out hb] at e
      exact h.1 (by rw [← e]; rfl)
  · rename_i h
    refine Or.inr ⟨rfl, rfl, fun u hu e => h ?_⟩
    subst e
    have hp := showL_pos hu
    refine ⟨by omega, ?_⟩
    rw [uf_showL hu, liveOf_body hu]
theorem RL_one {s : ByteArray} {u v : LiveV} {a b : Bool} (h : RL s u a) (k : RL s v b) : u = v ∧ a = b := by
  rcases h with ⟨rfl, h1, h2⟩ | ⟨rfl, rfl, h2⟩
  · rcases k with ⟨rfl, k1, k2⟩ | ⟨rfl, _, k2⟩
    · exact ⟨showL_inj h1 k1 (h2.trans k2.symm), rfl⟩
    · exact absurd h2 (k2 u h1)
  · rcases k with ⟨rfl, k1, k2⟩ | ⟨rfl, rfl, _⟩
    · exact absurd k2 (h2 v k1)
    · exact ⟨rfl, rfl⟩
theorem rl_of {s : ByteArray} {v : LiveV} {ok : Bool} (h : RL s v ok) : rl s = (v, ok) := by
  obtain ⟨h1, h2⟩ := RL_one (rl_RL s) h
  rw [← h1, ← h2]
theorem rl_show {v : LiveV} (h : liveB v = true) : rl (showL v) = (v, true) := rl_of (Or.inl ⟨rfl, h, rfl⟩)

end Go.Proofs.YthnealhaleccpaaGreatDoor
namespace Go.Proofs.YthnealhaleccpaaGreatDoor
open Go.RowKit
open Plain

/-- What is left behind m numbers, and whether one was missing. -/
def restF : Nat → ByteArray → ByteArray
  | 0, t => t
  | m + 1, t => restF m (numT t)
def failF : Nat → ByteArray → Bool
  | 0, _ => false
  | m + 1, t => decide ((rv t).2 = 0) || failF m (numT t)
theorem idsF_length (m : Nat) : ∀ t, (idsF m t).length = m := by
  induction m with
  | zero => intro t; rfl
  | succ m ih => intro t; rw [idsF, List.length_cons, ih]
theorem idsF_snoc (m : Nat) : ∀ t, idsF (m + 1) t = idsF m t ++ [((rv (restF m t)).1 : Int)] := by
  induction m with
  | zero => intro t; rfl
  | succ m ih =>
    intro t
    rw [idsF, ih]
    rfl
theorem restF_snoc (m : Nat) : ∀ t, restF (m + 1) t = numT (restF m t) := by
  induction m with
  | zero => intro t; rfl
  | succ m ih =>
    intro t
    rw [restF, ih]
    rfl
theorem failF_snoc (m : Nat) : ∀ t, failF (m + 1) t = (failF m t || decide ((rv (restF m t)).2 = 0)) := by
  induction m with
  | zero => intro t; show (decide ((rv t).2 = 0) || false) = (false || decide ((rv t).2 = 0)); rw [Bool.or_false, Bool.false_or]
  | succ m ih =>
    intro t
    rw [failF, ih, failF, Bool.or_assoc]
    rfl
theorem take_back (m : Nat) : ∀ t, failF m t = false → catV (idsF m t) ++ restF m t = t := by
  induction m with
  | zero => intro t _; exact ByteArray.empty_append
  | succ m ih =>
    intro t h
    rw [failF, Bool.or_eq_false_iff] at h
    have h1 := of_decide_eq_false h.1
    rw [idsF, catV, restF, ByteArray.append_assoc]
    have e := ih (numT t) h.2
    rw [show t.extract (rv t).2 t.size = numT t from rfl, e, numT_whole t h1]
theorem take_forth (l : List Int) (T : ByteArray) (h : ∀ x ∈ l, 0 ≤ x ∧ x ≤ 562949953421311) : restF l.length (catV l ++ T) = T ∧ failF l.length (catV l ++ T) = false := by
  induction l with
  | nil => exact ⟨ByteArray.empty_append, rfl⟩
  | cons x r ih =>
    have hx := h x (List.mem_cons_self ..)
    obtain ⟨n, rfl⟩ := Int.eq_ofNat_of_zero_le hx.1
    have e : numT (catV ((n : Int) :: r) ++ T) = catV r ++ T := by rw [catV, ByteArray.append_assoc]; exact numT_var n (by omega) _
    have e2 : (rv (catV ((n : Int) :: r) ++ T)).2 ≠ 0 := by
      rw [catV, ByteArray.append_assoc, rv_var n (by omega)]
      have := varS_pos n (by omega)
      simp only
      omega
    rw [List.length_cons, restF, failF, e]
    have h3 := ih (fun y hy => h y (List.mem_cons_of_mem _ hy))
    exact ⟨h3.1, by rw [h3.2, decide_eq_false e2]; rfl⟩
theorem restF_size (m : Nat) : ∀ t, (restF m t).size ≤ t.size := by
  induction m with
  | zero => intro t; exact Nat.le_refl _
  | succ m ih =>
    intro t
    have := ih (numT t)
    have h2 := numT_size t
    rw [restF]
    omega
/-- The numbers of a list's text, as impl takes them: next, how many, and these. -/
def cntF (t : ByteArray) : Nat := (rv (numT t)).1
def tailF (t : ByteArray) : ByteArray := numT (numT t)
theorem liveOf_min (t : ByteArray) : liveOf t = ⟨((rv t).1 : Int), idsF (min (cntF t) 60) (tailF t)⟩ := rfl
def failT (t : ByteArray) : Bool := (false || decide ((rv t).2 = 0)) || decide ((rv (numT t)).2 = 0)
theorem body_forth {v : LiveV} (h : liveB v = true) : failT (bodyL v) = false ∧ cntF (bodyL v) = v.ids.length ∧ (rv (bodyL v)).1 = v.next.toNat ∧ tailF (bodyL v) = catV v.ids := by
  obtain ⟨h1, h2, h3⟩ := live_bd h
  obtain ⟨next, ids⟩ := v
  simp only at h1 h2 h3
  obtain ⟨n, rfl⟩ := Int.eq_ofNat_of_zero_le (show 0 ≤ next by omega)
  have e1 := rv_var n (by omega) (varS (ids.length : Int) ++ catV ids)
  have e2 := numT_var n (by omega) (varS (ids.length : Int) ++ catV ids)
  have e3 := rv_var ids.length (by omega) (catV ids)
  have e4 := numT_var ids.length (by omega) (catV ids)
  have p1 := varS_pos n (by omega)
  have p2 := varS_pos ids.length (by omega)
  unfold failT cntF tailF bodyL
  simp only
  rw [e1, e2, e3, e4]
  simp only
  refine ⟨?_, by trivial, by simp, by trivial⟩
  rw [decide_eq_false (by omega), decide_eq_false (by omega)]
  rfl
theorem RL_yes {s t : ByteArray} (hu : uf s = (t, s.size)) (hs : s.size ≠ 0) (hf : failT t = false) (h2 : failF (cntF t) (tailF t) = false) (hr : (restF (cntF t) (tailF t)).size = 0) (hl : liveB ⟨((rv t).1 : Int), idsF (cntF t) (tailF t)⟩ = true) :
    rl s = (⟨((rv t).1 : Int), idsF (cntF t) (tailF t)⟩, true) := by
  refine rl_of (Or.inl ⟨rfl, hl, ?_⟩)
  rw [showL_in hl]
  have hb : bodyL ⟨((rv t).1 : Int), idsF (cntF t) (tailF t)⟩ = t := by
    unfold bodyL
    simp only
    unfold failT at hf
    rw [Bool.or_eq_false_iff, Bool.or_eq_false_iff] at hf
    have f1 := of_decide_eq_false hf.1.2
    have f2 := of_decide_eq_false hf.2
    have e := take_back _ _ h2
    rw [empty_of hr, show catV (idsF (cntF t) (tailF t)) ++ (⟨#[]⟩ : ByteArray) = _ from ByteArray.append_empty] at e
    rw [idsF_length, e]
    unfold cntF tailF
    rw [numT_whole _ f2, numT_whole _ f1]
  rw [hb]
  rcases uf_UF s with ⟨a1, a2, T, a3⟩ | ⟨a1, _, _⟩
  · rw [hu] at a1 a2 a3
    simp only at a1 a2 a3
    have hz : T.size = 0 := by
      have := congrArg ByteArray.size a3
      rw [ByteArray.size_append] at this
      omega
    rw [empty_of hz] at a3
    exact (a3.trans ByteArray.append_empty).symm
  · rw [hu] at a1
    exact absurd a1 hs
theorem RL_no {s : ByteArray} (h : ∀ u, liveB u = true → showL u = s → False) : rl s = (zeroL, false) := rl_of (Or.inr ⟨rfl, rfl, fun u hu e => h u hu e⟩)
/-- What a text that is shown gives. -/
theorem RL_shown {s : ByteArray} {u : LiveV} (hu : liveB u = true) (e : showL u = s) : s.size ≠ 0 ∧ (uf s).2 = s.size ∧ failT (uf s).1 = false ∧ cntF (uf s).1 ≤ 60 ∧ failF (cntF (uf s).1) (tailF (uf s).1) = false ∧ (restF (cntF (uf s).1) (tailF (uf s).1)).size = 0 ∧ (⟨((rv (uf s).1).1 : Int), idsF (cntF (uf s).1) (tailF (uf s).1)⟩ : LiveV) = u := by
  subst e
  have hp := showL_pos hu
  obtain ⟨b1, b2, b3, b4⟩ := body_forth hu
  obtain ⟨h1, h2, h3⟩ := live_bd hu
  have hk := take_forth u.ids ⟨#[]⟩ (fun x hx => by have := h3 x hx; omega)
  have hi := idsF_cat u.ids ⟨#[]⟩ (fun x hx => by have := h3 x hx; omega)
  rw [catV_empty] at hk hi
  rw [uf_showL hu]
  simp only
  rw [b2, b4, hk.1, hk.2, hi, b3]
  refine ⟨by omega, trivial, b1, h2.2, rfl, rfl, ?_⟩
  obtain ⟨next, ids⟩ := u
  simp only at h1 ⊢
  rw [Int.toNat_of_nonneg (by omega)]

end Go.Proofs.YthnealhaleccpaaGreatDoor
