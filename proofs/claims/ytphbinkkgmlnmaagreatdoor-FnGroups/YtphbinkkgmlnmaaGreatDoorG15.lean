/-
  Entries of a directory in plain words, and rows of them. A directory in plain words: an entry of a key, a directory without a key, an entry put into its place. Regroup in plain words; what holds of it where records of batches that are not sealed are left out.
-/
import Derived.Test.YtphbinkkgmlnmaaGreatDoorG13
import Derived.Test.YtphbinkkgmlnmaaGreatDoorMRecOkI
import Derived.Laws.Cover1
namespace Go.Proofs.YtphbinkkgmlnmaaGreatDoor
open Go.RowKit
open Plain

/-- An entry: a key, and where its record stands. -/
structure EntV where
  key : ByteArray
  seg : Int
  pos : Int
  len : Int
  bat : Int
theorem EntV.ext' {r q : EntV} (h1 : r.key = q.key) (h2 : r.seg = q.seg) (h3 : r.pos = q.pos) (h4 : r.len = q.len) (h5 : r.bat = q.bat) : r = q := by
  cases r; cases q; simp_all
def entSh : Shape EntV where
  cells := fun r => [.string r.key, .int .i64 r.seg, .int .i64 r.pos, .int .i64 r.len, .int .i64 r.bat]
  k := 5
  len := fun _ => rfl
  one := fun r u h => by
    simp only [List.mem_cons, List.not_mem_nil, or_false] at h
    rcases h with rfl | rfl | rfl | rfl | rfl <;> rfl
  pos := by decide
def zeroE : EntV := ⟨⟨#[]⟩, 0, 0, 0, 0⟩
theorem Tryz.infoEnt : (Tryz.prog.info? 59).map (fun i => (i.zero, i.size, i.bytes)) = some (some (.agg #[.string ⟨#[]⟩, .int .i64 0, .int .i64 0, .int .i64 0, .int .i64 0]), 5, 48) := by kernel_rfl

theorem ent_cells {w : World} {a : Option Addr} {n : Nat} {xs : List EntV} (h : entSh.Row w a n xs) (i : Nat) (hi : i < xs.length) : ∃ b off, a = some ⟨b, off, none⟩ ∧ b < w.heap.size ∧
    w.cell? ⟨b, off + i * 5, none⟩ = some (.string (xs[i]).key) ∧ w.cell? ⟨b, off + i * 5 + 1, none⟩ = some (.int .i64 (xs[i]).seg) ∧ w.cell? ⟨b, off + i * 5 + 2, none⟩ = some (.int .i64 (xs[i]).pos) ∧ w.cell? ⟨b, off + i * 5 + 3, none⟩ = some (.int .i64 (xs[i]).len) ∧ w.cell? ⟨b, off + i * 5 + 4, none⟩ = some (.int .i64 (xs[i]).bat) := by
  obtain ⟨b, off, h1, h2, h3⟩ := h.cells i hi
  exact ⟨b, off, h1, h2, h3 0 (by decide), h3 1 (by decide), h3 2 (by decide), h3 3 (by decide), h3 4 (by decide)⟩

/-- 'out = append(out, e)', out a row of entries of the call's own, e in a new block. -/
theorem wpList_app_ent {ops : Array Oper} {rest : List Oper} {o : Oper} {act : Act} {Q : Exit → Act → World → Prop} (hgd : o.guard = none) (s x : Operand)
    (ho : o.op = .call { callee := .builtin .append, args := #[s, x], argTypes := #[24, 24] }) {w : World} {base : Nat} {v : Value} {xs : List EntV} (r : EntV) (hown : entSh.Own 59 w base v xs) (hb : base ≤ w.heap.size) (hn : xs.length ≤ 1099511627775)
    {N : Nat} (hs : act.eval s = v) (hx : act.eval x = .slice (some ⟨N, 0, none⟩) 1 1) (hN : w.heap.size = N)
    (h : ∀ a' n' cap' w', n' = xs.length + 1 → entSh.Own 59 w' base (.slice a' n' cap') (xs ++ [r]) → Below base w w' → wpList Tryz.prog ops Q rest (act.put o.dst (.slice a' n' cap')) w') :
    wpList Tryz.prog ops Q (o :: rest) act (w.alloc (.cells #[.string r.key, .int .i64 r.seg, .int .i64 r.pos, .int .i64 r.len, .int .i64 r.bat] 59)) := by
  subst hN
  obtain ⟨i0, hi, hz0, hz1, hz2⟩ := info_parts Tryz.infoEnt
  have hA : Below w.heap.size w (w.alloc (.cells (entSh.cells r).toArray 59)) := (Below.refl _ _).alloc (Nat.le_refl _) _
  refine entSh.wpList_app (P := Tryz.prog) hgd s x 24 59 ho Tryz.underlying24 hi hz0 hz1 hz2 rfl (by decide) (hown.later hA (Nat.le_refl _)) (Nat.le_trans hb hA.size) (Shape.Row.single entSh 59 w r) (by omega) hs hx ?_
  intro a' n' cap' w' hn' ho' hg
  refine h a' n' cap' w' hn' ho' ?_
  refine (hA.mono hb).trans ?_
  exact (Below.refl _ _).grown hg (Nat.le_trans hb hA.size) (fun g hg => (hown.blk g hg).1)

/-- Are two entries the same? -/
def eqE (p q : EntV) : Bool := decide (p.key = q.key ∧ p.seg = q.seg ∧ p.pos = q.pos ∧ p.len = q.len ∧ p.bat = q.bat)
theorem eqE_iff (p q : EntV) : eqE p q = true ↔ p = q := by
  unfold eqE
  rw [decide_eq_true_iff]
  exact ⟨fun h => EntV.ext' h.1 h.2.1 h.2.2.1 h.2.2.2.1 h.2.2.2.2, fun h => by subst h; exact ⟨rfl, rfl, rfl, rfl, rfl⟩⟩
theorem eqE_no {p q : EntV} (h : ¬ p = q) : eqE p q = false := Bool.eq_false_iff.2 (fun e => h ((eqE_iff p q).1 e))

/-- Five cells: an entry. -/
def At5 (w : World) (b o : Nat) (f : EntV) : Prop := w.cell? ⟨b, o, none⟩ = some (.string f.key) ∧ w.cell? ⟨b, o + 1, none⟩ = some (.int .i64 f.seg) ∧ w.cell? ⟨b, o + 2, none⟩ = some (.int .i64 f.pos) ∧ w.cell? ⟨b, o + 3, none⟩ = some (.int .i64 f.len) ∧ w.cell? ⟨b, o + 4, none⟩ = some (.int .i64 f.bat)
theorem At5.later {w w' : World} {b o K : Nat} {f : EntV} (h : At5 w b o f) (hb : Below K w w') (hK : b < K) : At5 w' b o f :=
  ⟨by rw [hb.cell (p := ⟨b, _, none⟩) hK]; exact h.1, by rw [hb.cell (p := ⟨b, _, none⟩) hK]; exact h.2.1, by rw [hb.cell (p := ⟨b, _, none⟩) hK]; exact h.2.2.1, by rw [hb.cell (p := ⟨b, _, none⟩) hK]; exact h.2.2.2.1, by rw [hb.cell (p := ⟨b, _, none⟩) hK]; exact h.2.2.2.2⟩
theorem ent_at {w : World} {a : Option Addr} {n : Nat} {xs : List EntV} (h : entSh.Row w a n xs) (i : Nat) (hi : i < xs.length) : ∃ b off, a = some ⟨b, off, none⟩ ∧ b < w.heap.size ∧ At5 w b (off + i * 5) (xs[i]) := by
  obtain ⟨b, off, h1, h2, h3⟩ := ent_cells h i hi
  exact ⟨b, off, h1, h2, h3⟩
theorem cells5 {w : World} {B : Nat} {x0 x1 x2 x3 x4 : Value} {ty : TypeId} (h : w.heap[B]? = some (.cells #[x0, x1, x2, x3, x4] ty (0, 0))) :
    w.cell? ⟨B, 0, none⟩ = some x0 ∧ w.cell? ⟨B, 1, none⟩ = some x1 ∧ w.cell? ⟨B, 2, none⟩ = some x2 ∧ w.cell? ⟨B, 3, none⟩ = some x3 ∧ w.cell? ⟨B, 4, none⟩ = some x4 ∧ w.frozen? ⟨B, 0, none⟩ = false ∧ w.frozen? ⟨B, 1, none⟩ = false ∧ w.frozen? ⟨B, 2, none⟩ = false ∧ w.frozen? ⟨B, 3, none⟩ = false ∧ w.frozen? ⟨B, 4, none⟩ = false := by
  have hf : ∀ j, w.frozen? ⟨B, j, none⟩ = false := fun j => by simp [World.frozen?, h]
  refine ⟨?_, ?_, ?_, ?_, ?_, hf 0, hf 1, hf 2, hf 3, hf 4⟩ <;> rw [cell_of_row w B _ _ _ _ h] <;> rfl
/-- Block B is an entry of the call's own. -/
def Blk5 (w : World) (B : Nat) (f : EntV) : Prop := w.heap[B]? = some (.cells #[.string f.key, .int .i64 f.seg, .int .i64 f.pos, .int .i64 f.len, .int .i64 f.bat] 59 (0, 0))
theorem Blk5.new (w : World) (f : EntV) : Blk5 (w.alloc (.cells #[.string f.key, .int .i64 f.seg, .int .i64 f.pos, .int .i64 f.len, .int .i64 f.bat] 59)) w.heap.size f := heap_alloc_new w _
theorem Blk5.lt {w : World} {B : Nat} {f : EntV} (h : Blk5 w B f) : B < w.heap.size := (Array.getElem?_eq_some_iff.1 h).1
theorem Blk5.later {w w' : World} {B K : Nat} {f : EntV} (h : Blk5 w B f) (hb : Below K w w') (hK : B < K) : Blk5 w' B f := (hb.block _ hK).trans h
/-- Five cells of a block above are written. -/
theorem below_set5 {n : Nat} {w w' : World} {B : Nat} (h : Below n w w') (hB : n ≤ B) (v0 v1 v2 v3 v4 : Value) : Below n w (((((w'.setCell ⟨B, 0, none⟩ v0).setCell ⟨B, 1, none⟩ v1).setCell ⟨B, 2, none⟩ v2).setCell ⟨B, 3, none⟩ v3).setCell ⟨B, 4, none⟩ v4) :=
  Below.setCell (Below.setCell (Below.setCell (Below.setCell (Below.setCell h (by exact hB) _) (by exact hB) _) (by exact hB) _) (by exact hB) _) (by exact hB) _
theorem at5_new (w : World) (f : EntV) : At5 (w.alloc (.cells #[.string f.key, .int .i64 f.seg, .int .i64 f.pos, .int .i64 f.len, .int .i64 f.bat] 59)) w.heap.size 0 f := by
  refine ⟨?_, ?_, ?_, ?_, ?_⟩ <;> rw [cell_of_row _ _ _ _ _ _ (heap_alloc_new w _)] <;> rfl

end Go.Proofs.YtphbinkkgmlnmaaGreatDoor
namespace Go.Proofs.YtphbinkkgmlnmaaGreatDoor
open Go.RowKit
open Plain

/-- Does the one text stand ahead of the other? -/
def klt (a b : ByteArray) : Bool := Op.bytesLess a.toList b.toList
theorem blt_lt : ∀ (x y : List UInt8), Op.bytesLess x y = decide (x < y)
  | x, [] => by simp [Op.bytesLess]
  | [], b :: y => by simp [Op.bytesLess]
  | a :: x, b :: y => by
    rw [Op.bytesLess, blt_lt x y]
    simp only [List.cons_lt_cons_iff]
    by_cases h1 : a < b <;> by_cases h2 : a = b <;> by_cases h3 : x < y <;> simp [h1, h2, h3]
theorem klt_iff {a b : ByteArray} : klt a b = true ↔ a.toList < b.toList := by unfold klt; rw [blt_lt, decide_eq_true_iff]
theorem klt_no {a b : ByteArray} : klt a b = false ↔ ¬ a.toList < b.toList := by unfold klt; rw [blt_lt, decide_eq_false_iff_not]
theorem klt_trans {a b c : ByteArray} (h : klt a b = true) (h2 : klt b c = true) : klt a c = true := klt_iff.2 (List.lt_trans (klt_iff.1 h) (klt_iff.1 h2))
theorem klt_asymm {a b : ByteArray} (h : klt a b = true) : klt b a = false := klt_no.2 (List.lt_asymm (klt_iff.1 h))
theorem klt_irrefl (a : ByteArray) : klt a a = false := klt_no.2 (List.lt_irrefl _)
theorem klt_other {a b : ByteArray} (h : klt a b = false) (hn : ¬ b = a) : klt b a = true := by
  rw [klt_no] at h
  rw [klt_iff]
  rcases List.le_iff_lt_or_eq.1 (List.not_lt.1 h) with h1 | h1
  · exact h1
  · exact absurd (toList_inj h1) hn
theorem klt_ne {a b : ByteArray} (h : klt a b = true) : ¬ a = b := fun e => by rw [e, klt_irrefl] at h; cases h
def dropE (xs : List EntV) (key : ByteArray) : List EntV := xs.filter (fun e => decide (¬ e.key = key))
def insE : List EntV → EntV → List EntV
  | [], e => [e]
  | x :: r, e => if klt e.key x.key = true then e :: x :: r else x :: insE r e
def putE (xs : List EntV) (e : EntV) : List EntV := insE (dropE xs e.key) e
def getE (xs : List EntV) (key : ByteArray) : Option EntV := xs.find? (fun e => decide (e.key = key))

theorem dropE_len (xs : List EntV) (key : ByteArray) : (dropE xs key).length ≤ xs.length := List.length_filter_le _ _
theorem dropE_succ_ne (xs : List EntV) (key : ByteArray) (k : Nat) (h : k < xs.length) (hk : ¬ (xs[k]).key = key) : dropE (xs.take (k + 1)) key = dropE (xs.take k) key ++ [xs[k]] := by
  unfold dropE
  rw [List.take_succ_eq_append_getElem h, List.filter_append]
  simp [hk]
theorem dropE_succ_eq (xs : List EntV) (key : ByteArray) (k : Nat) (h : k < xs.length) (hk : (xs[k]).key = key) : dropE (xs.take (k + 1)) key = dropE (xs.take k) key := by
  unfold dropE
  rw [List.take_succ_eq_append_getElem h, List.filter_append]
  simp [hk]
/-- No entry of the list stands behind e. -/
def NoneGt (xs : List EntV) (e : EntV) : Prop := ∀ x, x ∈ xs → klt e.key x.key = false
theorem insE_behind (xs : List EntV) (r : List EntV) (e : EntV) (h : NoneGt xs e) : insE (xs ++ r) e = xs ++ insE r e := by
  induction xs with
  | nil => rfl
  | cons x l ih =>
    have h1 := h x List.mem_cons_self
    rw [List.cons_append, insE, if_neg (by rw [h1]; simp), ih (fun y hy => h y (List.mem_cons_of_mem _ hy)), List.cons_append]
theorem insE_end (xs : List EntV) (e : EntV) (h : NoneGt xs e) : insE xs e = xs ++ [e] := by
  have := insE_behind xs [] e h
  rw [List.append_nil] at this
  exact this
theorem insE_more (xs : List EntV) (r : List EntV) (e : EntV) (h : ∃ x, x ∈ xs ∧ klt e.key x.key = true) : insE (xs ++ r) e = insE xs e ++ r := by
  induction xs with
  | nil => obtain ⟨x, hx, _⟩ := h; simp at hx
  | cons x l ih =>
    rw [List.cons_append, insE, insE]
    by_cases hx : klt e.key x.key = true
    · rw [if_pos hx, if_pos hx]
      rfl
    · rw [if_neg hx, if_neg hx, List.cons_append]
      obtain ⟨y, hy, hg⟩ := h
      rcases List.mem_cons.1 hy with rfl | hy
      · exact absurd hg hx
      · rw [ih ⟨y, hy, hg⟩]
theorem insE_len (xs : List EntV) (e : EntV) : (insE xs e).length = xs.length + 1 := by
  induction xs with
  | nil => rfl
  | cons x l ih =>
    rw [insE]
    split
    · rfl
    · rw [List.length_cons, ih, List.length_cons]
theorem insE_at (xs : List EntV) (e : EntV) (k : Nat) (hk : k < xs.length) (h1 : NoneGt (xs.take k) e) (h2 : klt e.key (xs[k]).key = true) : insE xs e = xs.take k ++ e :: xs.drop k := by
  have h := insE_behind (xs.take k) (xs.drop k) e h1
  rw [List.take_append_drop] at h
  rw [h, List.drop_eq_getElem_cons hk, insE, if_pos h2]

/-- What spec.DirPut holds behind its first k entries. -/
structure PutSt (xs : List EntV) (e : EntV) (k : Nat) (done : Bool) (out : List EntV) : Prop where
  no : done = false → out = dropE (xs.take k) e.key ∧ NoneGt (dropE (xs.take k) e.key) e
  yes : done = true → out = insE (dropE (xs.take k) e.key) e ∧ ∃ x, x ∈ dropE (xs.take k) e.key ∧ klt e.key x.key = true
theorem PutSt.start (xs : List EntV) (e : EntV) : PutSt xs e 0 false [] := ⟨fun _ => ⟨rfl, fun x hx => by simp [dropE] at hx⟩, fun h => by cases h⟩
theorem PutSt.same {xs : List EntV} {e : EntV} {k : Nat} {done : Bool} {out : List EntV} (h : PutSt xs e k done out) (hk : k < xs.length) (he : (xs[k]).key = e.key) : PutSt xs e (k + 1) done out := by
  have hd := dropE_succ_eq xs e.key k hk he
  exact ⟨fun q => by rw [hd]; exact h.no q, fun q => by rw [hd]; exact h.yes q⟩
theorem PutSt.gt {xs : List EntV} {e : EntV} {k : Nat} {out : List EntV} (h : PutSt xs e k false out) (hk : k < xs.length) (he : ¬ (xs[k]).key = e.key) (hg : klt e.key (xs[k]).key = true) : PutSt xs e (k + 1) true (out ++ [e] ++ [xs[k]]) := by
  have hd := dropE_succ_ne xs e.key k hk he
  obtain ⟨h1, h2⟩ := h.no rfl
  refine ⟨fun q => (by cases q), fun _ => ⟨?_, xs[k], ?_, hg⟩⟩
  · rw [hd, insE_behind _ _ _ h2, h1, insE, if_pos hg]
    simp
  · rw [hd]; simp
theorem PutSt.le {xs : List EntV} {e : EntV} {k : Nat} {out : List EntV} (h : PutSt xs e k false out) (hk : k < xs.length) (he : ¬ (xs[k]).key = e.key) (hg : klt e.key (xs[k]).key = false) : PutSt xs e (k + 1) false (out ++ [xs[k]]) := by
  have hd := dropE_succ_ne xs e.key k hk he
  obtain ⟨h1, h2⟩ := h.no rfl
  refine ⟨fun _ => ⟨by rw [hd, h1], fun x hx => ?_⟩, fun q => by cases q⟩
  rw [hd] at hx
  rcases List.mem_append.1 hx with hx | hx
  · exact h2 x hx
  · obtain rfl : x = xs[k] := by simpa using hx
    exact hg
theorem PutSt.on {xs : List EntV} {e : EntV} {k : Nat} {out : List EntV} (h : PutSt xs e k true out) (hk : k < xs.length) (he : ¬ (xs[k]).key = e.key) : PutSt xs e (k + 1) true (out ++ [xs[k]]) := by
  have hd := dropE_succ_ne xs e.key k hk he
  obtain ⟨h1, y, hy, hg⟩ := h.yes rfl
  refine ⟨fun q => (by cases q), fun _ => ⟨?_, y, ?_, hg⟩⟩
  · rw [hd, insE_more _ _ _ ⟨y, hy, hg⟩, h1]
  · rw [hd]; exact List.mem_append_left _ hy
theorem PutSt.end_no {xs : List EntV} {e : EntV} {out : List EntV} (h : PutSt xs e xs.length false out) : putE xs e = out ++ [e] := by
  obtain ⟨h1, h2⟩ := h.no rfl
  rw [List.take_length] at h1 h2
  unfold putE
  rw [insE_end _ _ h2, h1]
theorem PutSt.end_yes {xs : List EntV} {e : EntV} {out : List EntV} (h : PutSt xs e xs.length true out) : putE xs e = out := by
  obtain ⟨h1, _⟩ := h.yes rfl
  rw [List.take_length] at h1
  exact h1.symm
theorem PutSt.len {xs : List EntV} {e : EntV} {k : Nat} {done : Bool} {out : List EntV} (h : PutSt xs e k done out) : out.length ≤ k + 1 := by
  have h1 := dropE_len (xs.take k) e.key
  rw [List.length_take] at h1
  cases done with
  | false => rw [(h.no rfl).1]; omega
  | true => rw [(h.yes rfl).1, insE_len]; omega
theorem getE_none {xs : List EntV} {key : ByteArray} {k : Nat} (hk : k < xs.length) (h : getE (xs.take k) key = none) (hn : ¬ (xs[k]).key = key) : getE (xs.take (k + 1)) key = none := by
  unfold getE at h ⊢
  rw [List.take_succ_eq_append_getElem hk, List.find?_append, h]
  simp [hn]
theorem getE_here {xs : List EntV} {key : ByteArray} {k : Nat} (hk : k < xs.length) (h : getE (xs.take k) key = none) (hn : (xs[k]).key = key) : getE xs key = some (xs[k]) := by
  unfold getE at h ⊢
  have e : xs = xs.take k ++ xs[k] :: xs.drop (k + 1) := by
    rw [← List.drop_eq_getElem_cons hk, List.take_append_drop]
  have h2 : (xs.take k ++ xs[k] :: xs.drop (k + 1)).find? (fun e => decide (e.key = key)) = some (xs[k]) := by
    rw [List.find?_append, h, List.find?_cons_of_pos (by simpa using hn)]
    rfl
  rw [← e] at h2
  exact h2

end Go.Proofs.YtphbinkkgmlnmaaGreatDoor
namespace Go.Proofs.YtphbinkkgmlnmaaGreatDoor
open Go.RowKit
open Plain

/-- What Regroup is handed and answers. -/
structure GroupV where
  dir : List EntV
  last : Int
  code : Int

def entOf (p : PlaceV) : EntV := ⟨p.r.key, p.seg, p.pos, p.len, p.r.batch⟩
def putP (dir : List EntV) (p : PlaceV) : List EntV := if p.r.kind = 2 then dropE dir p.r.key else putE dir (entOf p)
def behindP (dir : List EntV) (own : List PlaceV) : List EntV := own.foldl putP dir
/-- The directory behind a seal or a mark that fits, and the code. -/
def fitG (x : GroupV) (own : List PlaceV) (last : Int) : GroupV := ⟨behindP x.dir own, last, if 20 < (behindP x.dir own).length then 2 else 0⟩
def stepG (pre : List PlaceV) (x : GroupV) (p : PlaceV) : GroupV :=
  if x.code = 0 then
    if p.r.kind = 3 then (if fitsP p.r (ofB pre p.r.batch) = true then fitG x (ofB pre p.r.batch) (max x.last p.r.batch) else ⟨x.dir, max x.last p.r.batch, 0⟩)
    else if p.r.kind = 5 then (if fitsP p.r (keptP pre) = true then fitG x (keptP pre) (max x.last p.r.batch) else ⟨x.dir, max x.last p.r.batch, 1⟩)
    else ⟨x.dir, max x.last p.r.batch, 0⟩
  else x
def regS (s : List PlaceV × GroupV) (p : PlaceV) : List PlaceV × GroupV := (s.1 ++ [p], stepG s.1 s.2 p)
/-- Behind these records. -/
def regL (g : GroupV) (l : List PlaceV) : GroupV := (l.foldl regS ([], g)).2
def endG (x : GroupV) (l : List PlaceV) : GroupV := if x.code = 0 ∧ ¬ keptP l = [] then ⟨x.dir, x.last, 1⟩ else x
def regF (g : GroupV) (l : List PlaceV) : GroupV := endG (regL g l) l

theorem regS_fst (l : List PlaceV) : ∀ s, (l.foldl regS s).1 = s.1 ++ l := by
  induction l with
  | nil => intro s; simp
  | cons p r ih => intro s; rw [List.foldl_cons, ih]; simp [regS]
theorem regL_snoc (g : GroupV) (pre : List PlaceV) (p : PlaceV) : regL g (pre ++ [p]) = stepG pre (regL g pre) p := by
  unfold regL
  rw [List.foldl_append, List.foldl_cons, List.foldl_nil]
  show stepG _ _ p = _
  rw [regS_fst, List.nil_append]
theorem regL_succ (g : GroupV) (l : List PlaceV) (k : Nat) (h : k < l.length) : regL g (l.take (k + 1)) = stepG (l.take k) (regL g (l.take k)) (l[k]) := by rw [take_snoc l k h, regL_snoc]
/-- Where the code is not 0, the rest is not looked at. -/
theorem regL_stuck (g : GroupV) (l : List PlaceV) (k : Nat) (hc : ¬ (regL g (l.take k)).code = 0) : ∀ j, regL g (l.take (k + j)) = regL g (l.take k) := by
  intro j
  induction j with
  | zero => rfl
  | succ j ih =>
    by_cases h : k + j < l.length
    · rw [← Nat.add_assoc, regL_succ g l (k + j) h, ih]
      unfold stepG
      rw [if_neg hc]
    · rw [List.take_of_length_le (by omega), ← ih, List.take_of_length_le (by omega)]
theorem regF_stuck (g : GroupV) (l : List PlaceV) (k : Nat) (x : GroupV) (hx : regL g (l.take k) = x) (hc : ¬ x.code = 0) : regF g l = x := by
  have h := regL_stuck g l k (by rw [hx]; exact hc) l.length
  rw [List.take_of_length_le (by omega), hx] at h
  unfold regF endG
  rw [h, if_neg (fun q => hc q.1)]
theorem regF_end (g : GroupV) (l : List PlaceV) (k : Nat) (x : GroupV) (hk : l.length ≤ k) (hx : regL g (l.take k) = x) : regF g l = endG x l := by
  rw [List.take_of_length_le hk] at hx
  unfold regF
  rw [hx]

theorem putE_len' (xs : List EntV) (p : EntV) : (putE xs p).length ≤ xs.length + 1 := by
  unfold putE
  rw [insE_len]
  have := dropE_len xs p.key
  omega
theorem putP_len (dir : List EntV) (p : PlaceV) : (putP dir p).length ≤ dir.length + 1 := by
  unfold putP
  split
  · have := dropE_len dir p.r.key
    omega
  · exact putE_len' _ _
theorem behindP_len (own : List PlaceV) : ∀ dir, (behindP dir own).length ≤ dir.length + own.length := by
  induction own with
  | nil => intro dir; exact Nat.le_refl _
  | cons p r ih =>
    intro dir
    show (behindP (putP dir p) r).length ≤ _
    have h1 := ih (putP dir p)
    have h2 := putP_len dir p
    rw [List.length_cons]
    omega
theorem behindP_succ (dir : List EntV) (own : List PlaceV) (k : Nat) (h : k < own.length) : behindP dir (own.take (k + 1)) = putP (behindP dir (own.take k)) (own[k]) := by
  unfold behindP
  rw [take_snoc own k h, List.foldl_append]
  rfl
/-- At the head of a round the directory is small, or what it was at first. -/
theorem regL_dir (g : GroupV) (l : List PlaceV) : ∀ k, (regL g (l.take k)).code = 0 → (regL g (l.take k)).dir.length ≤ 20 + g.dir.length := by
  intro k
  induction k with
  | zero => intro _; show g.dir.length ≤ _; omega
  | succ k ih =>
    by_cases h : k < l.length
    · rw [regL_succ g l k h]
      generalize regL g (l.take k) = x at ih ⊢
      intro hc
      have fit : ∀ own last, (fitG x own last).code = 0 → (fitG x own last).dir.length ≤ 20 + g.dir.length := by
        intro own last h
        unfold fitG at h ⊢
        simp only at h ⊢
        split at h
        · cases h
        · omega
      unfold stepG at hc ⊢
      split at hc
      · rename_i h0
        rw [if_pos h0]
        split at hc
        · rename_i h3
          rw [if_pos h3]
          split at hc
          · rename_i hf; rw [if_pos hf]; exact fit _ _ hc
          · rename_i hf; rw [if_neg hf]; exact ih h0
        · rename_i h3
          rw [if_neg h3]
          split at hc
          · rename_i h5
            rw [if_pos h5]
            split at hc
            · rename_i hf; rw [if_pos hf]; exact fit _ _ hc
            · cases hc
          · rename_i h5; rw [if_neg h5]; exact ih h0
      · rename_i h0; exact absurd hc h0
    · rw [List.take_of_length_le (by omega)]
      intro hc
      rw [List.take_of_length_le (by omega)] at ih
      exact ih hc

/-- A record that the law leaves in. -/
def keepS (S : List Int) (p : PlaceV) : Bool := !(decide ((p.r.kind = 1 ∨ p.r.kind = 2) ∧ ¬ p.r.batch ∈ S))
def lessP (S : List Int) (l : List PlaceV) : List PlaceV := l.filter (keepS S)
theorem lessP_snoc (S : List Int) (pre : List PlaceV) (p : PlaceV) : lessP S (pre ++ [p]) = if (p.r.kind = 1 ∨ p.r.kind = 2) ∧ ¬ p.r.batch ∈ S then lessP S pre else lessP S pre ++ [p] := by
  unfold lessP
  rw [List.filter_append]
  split
  · rename_i h
    have : keepS S p = false := by unfold keepS; rw [decide_eq_true h]; rfl
    simp [this]
  · rename_i h
    have : keepS S p = true := by unfold keepS; rw [decide_eq_false h]; rfl
    simp [this]
theorem less_of (S : List Int) (b : Int) (l : List PlaceV) : ∀ k, ofB (lessP S (l.take k)) b = if b ∈ S then ofB (l.take k) b else [] := by
  intro k
  induction k with
  | zero => simp [lessP, ofB]
  | succ k ih =>
    by_cases h : k < l.length
    · rw [take_snoc l k h, lessP_snoc, ofB_snoc]
      generalize l[k] = p
      by_cases hb : b ∈ S
      · rw [if_pos hb] at ih ⊢
        split
        · rename_i hq
          have : ¬ p.r.batch = b := fun e => hq.2 (e ▸ hb)
          unfold ofStep
          rw [if_neg this, ih]
        · rw [ofB_snoc, ih]
      · rw [if_neg hb] at ih ⊢
        split
        · exact ih
        · rename_i hq
          rw [ofB_snoc, ih]
          unfold ofStep
          split
          · rename_i he
            split
            · rfl
            · split
              · rename_i hk
                exact absurd ⟨hk, he ▸ hb⟩ hq
              · rfl
          · rfl
    · rw [List.take_of_length_le (by omega)]
      rw [List.take_of_length_le (by omega)] at ih
      exact ih
theorem less_kept (S : List Int) (l : List PlaceV) : ∀ k, keptP (lessP S (l.take k)) = keptP (l.take k) := by
  intro k
  induction k with
  | zero => rfl
  | succ k ih =>
    by_cases h : k < l.length
    · rw [take_snoc l k h, lessP_snoc, keptP_snoc]
      generalize l[k] = p
      split
      · rename_i hq
        rw [ih]
        unfold kpStep
        rw [if_neg (by rcases hq.1 with e | e <;> rw [e] <;> decide), if_neg (by rcases hq.1 with e | e <;> rw [e] <;> decide)]
      · rw [keptP_snoc, ih]
    · rw [List.take_of_length_le (by omega)]
      rw [List.take_of_length_le (by omega)] at ih
      exact ih
theorem sealF_mono (l : List PlaceV) (k : Nat) : ∀ j b, b ∈ sealF (l.take k) → b ∈ sealF (l.take (k + j)) := by
  intro j
  induction j with
  | zero => intro b h; exact h
  | succ j ih =>
    intro b h
    by_cases hl : k + j < l.length
    · rw [← Nat.add_assoc, sealF_succ l (k + j) hl]
      split
      · exact List.mem_append_left _ (ih b h)
      · exact ih b h
    · have := ih b h
      rw [List.take_of_length_le (by omega)] at this
      rw [List.take_of_length_le (by omega)]
      exact this
theorem sealF_has (l : List PlaceV) (k : Nat) (h : k < l.length) (h3 : (l[k]).r.kind = 3) (hf : fitsP (l[k]).r (ofB (l.take k) (l[k]).r.batch) = true) : (l[k]).r.batch ∈ sealF l := by
  have h1 : (l[k]).r.batch ∈ sealF (l.take (k + 1)) := by
    rw [sealF_succ l k h, if_pos ⟨h3, hf⟩]
    simp
  have h2 := sealF_mono l (k + 1) l.length _ h1
  rw [List.take_of_length_le (by omega)] at h2
  exact h2
/-- No seal of a batch that is not sealed counts 0. -/
def noneZero (S : List Int) (l : List PlaceV) : Prop := ∀ p, p ∈ lessP S l → p.r.kind = 3 → ¬ p.r.batch ∈ S → ¬ p.r.cnt = 0
structure Alike (x y : GroupV) : Prop where
  code : x.code = y.code
  dir : x.dir = y.dir
  last : x.last ≤ y.last
theorem Alike.fit {x y : GroupV} (h : Alike x y) (own : List PlaceV) {a b : Int} (hab : a ≤ b) : Alike (fitG x own a) (fitG y own b) := by
  unfold fitG
  exact ⟨by simp only [h.dir], by simp only [h.dir], hab⟩
theorem less_reg (g : GroupV) (l : List PlaceV) (hz : noneZero (sealF l) l) : ∀ k, Alike (regL g (lessP (sealF l) (l.take k))) (regL g (l.take k)) := by
  intro k
  induction k with
  | zero => exact ⟨rfl, rfl, Int.le_refl _⟩
  | succ k ih =>
    by_cases h : k < l.length
    · have hs := sealF_has l k h
      have hm : l[k] ∈ l := List.getElem_mem h
      have ho := fun b => less_of (sealF l) b l k
      have hk := less_kept (sealF l) l k
      rw [take_snoc l k h, lessP_snoc, regL_snoc]
      generalize hp : l[k] = p at hs hm ⊢
      generalize regL g (l.take k) = y at ih ⊢
      split
      · rename_i hq
        generalize regL g (lessP (sealF l) (l.take k)) = x at ih ⊢
        unfold stepG
        split
        · rw [if_neg (by rcases hq.1 with e | e <;> rw [e] <;> decide), if_neg (by rcases hq.1 with e | e <;> rw [e] <;> decide)]
          rename_i h0
          exact ⟨ih.code.trans h0, ih.dir, Int.le_trans ih.last (Int.le_max_left _ _)⟩
        · exact ih
      · rename_i hq
        have hin : p ∈ lessP (sealF l) l := by
          unfold lessP
          rw [List.mem_filter]
          refine ⟨hm, ?_⟩
          unfold keepS
          rw [decide_eq_false hq]
          rfl
        have hzp := hz p hin
        rw [regL_snoc]
        generalize regL g (lessP (sealF l) (l.take k)) = x at ih ⊢
        have hmax : max x.last p.r.batch ≤ max y.last p.r.batch := by have := ih.last; omega
        have hrest : Alike (⟨x.dir, max x.last p.r.batch, 0⟩ : GroupV) ⟨y.dir, max y.last p.r.batch, 0⟩ := ⟨rfl, ih.dir, hmax⟩
        have hmark : Alike (⟨x.dir, max x.last p.r.batch, 1⟩ : GroupV) ⟨y.dir, max y.last p.r.batch, 1⟩ := ⟨rfl, ih.dir, hmax⟩
        unfold stepG
        rw [hk, ho p.r.batch, ih.code]
        by_cases h0 : y.code = 0
        · rw [if_pos h0, if_pos h0]
          by_cases h3 : p.r.kind = 3
          · rw [if_pos h3, if_pos h3]
            by_cases hb : p.r.batch ∈ sealF l
            · rw [if_pos hb]
              by_cases hf : fitsP p.r (ofB (l.take k) p.r.batch) = true
              · rw [if_pos hf, if_pos hf]; exact ih.fit _ hmax
              · rw [if_neg hf, if_neg hf]; exact hrest
            · rw [if_neg hb]
              have hc := hzp h3 hb
              have h1 : ¬ fitsP p.r [] = true := fun q => hc (of_decide_eq_true q).1
              have h2 : ¬ fitsP p.r (ofB (l.take k) p.r.batch) = true := fun q => hb (hs h3 q)
              rw [if_neg h1, if_neg h2]
              exact hrest
          · rw [if_neg h3, if_neg h3]
            by_cases h5 : p.r.kind = 5
            · rw [if_pos h5, if_pos h5]
              by_cases hf : fitsP p.r (keptP (l.take k)) = true
              · rw [if_pos hf, if_pos hf]; exact ih.fit _ hmax
              · rw [if_neg hf, if_neg hf]; exact hmark
            · rw [if_neg h5, if_neg h5]; exact hrest
        · rw [if_neg h0, if_neg h0]; exact ih
    · rw [List.take_of_length_le (by omega)]
      rw [List.take_of_length_le (by omega)] at ih
      exact ih
/-- What the law asks. -/
theorem less_regF (g : GroupV) (l : List PlaceV) (hz : noneZero (sealF l) l) : Alike (regF g (lessP (sealF l) l)) (regF g l) := by
  have h := less_reg g l hz l.length
  have hk := less_kept (sealF l) l l.length
  rw [List.take_of_length_le (Nat.le_refl _)] at h hk
  unfold regF endG
  rw [hk, h.code]
  split
  · exact ⟨rfl, h.dir, h.last⟩
  · exact h

end Go.Proofs.YtphbinkkgmlnmaaGreatDoor
