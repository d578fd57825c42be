/-
  Entries of a directory in plain words, and rows of them.
-/
import Derived.Test.YtnckdfidehbcaaaGRowC
import Derived.Test.YtnckdfidehbcaaaRecOkI
namespace Go.Proofs.Ytnckdfidehbcaaa
open Go.RowKit
open Plain

/-- An entry: a key, and where its record stands. -/
structure EntV where
  key : ByteArray
  seg : Int
  pos : Int
  len : Int
  bat : Int
theorem EntV.ext' {r q : EntV} (h1 : r.key = q.key) (h2 : r.seg = q.seg) (h3 : r.pos = q.pos) (h4 : r.len = q.len) (h5 : r.bat = q.bat) : r = q := by
  cases r; cases q; simp_all
def entSh : Shape EntV where
  cells := fun r => [.string r.key, .int .i64 r.seg, .int .i64 r.pos, .int .i64 r.len, .int .i64 r.bat]
  k := 5
  len := fun _ => rfl
  one := fun r u h => by
    simp only [List.mem_cons, List.not_mem_nil, or_false] at h
    rcases h with rfl | rfl | rfl | rfl | rfl <;> rfl
  pos := by decide
def zeroE : EntV := ⟨⟨#[]⟩, 0, 0, 0, 0⟩
theorem Try.infoEnt : (Try.prog.info? 26).map (fun i => (i.zero, i.size, i.bytes)) = some (some (.agg #[.string ⟨#[]⟩, .int .i64 0, .int .i64 0, .int .i64 0, .int .i64 0]), 5, 48) := by kernel_rfl

theorem ent_cells {w : World} {a : Option Addr} {n : Nat} {xs : List EntV} (h : entSh.Row w a n xs) (i : Nat) (hi : i < xs.length) : ∃ b off, a = some ⟨b, off, none⟩ ∧ b < w.heap.size ∧
    w.cell? ⟨b, off + i * 5, none⟩ = some (.string (xs[i]).key) ∧ w.cell? ⟨b, off + i * 5 + 1, none⟩ = some (.int .i64 (xs[i]).seg) ∧ w.cell? ⟨b, off + i * 5 + 2, none⟩ = some (.int .i64 (xs[i]).pos) ∧ w.cell? ⟨b, off + i * 5 + 3, none⟩ = some (.int .i64 (xs[i]).len) ∧ w.cell? ⟨b, off + i * 5 + 4, none⟩ = some (.int .i64 (xs[i]).bat) := by
  obtain ⟨b, off, h1, h2, h3⟩ := h.cells i hi
  exact ⟨b, off, h1, h2, h3 0 (by decide), h3 1 (by decide), h3 2 (by decide), h3 3 (by decide), h3 4 (by decide)⟩

/-- 'out = append(out, e)', out a row of entries of the call's own, e in a new block. -/
theorem wpList_app_ent {ops : Array Oper} {rest : List Oper} {o : Oper} {act : Act} {Q : Exit → Act → World → Prop} (hgd : o.guard = none) (s x : Operand)
    (ho : o.op = .call { callee := .builtin .append, args := #[s, x], argTypes := #[24, 24] }) {w : World} {base : Nat} {v : Value} {xs : List EntV} (r : EntV) (hown : entSh.Own 26 w base v xs) (hb : base ≤ w.heap.size) (hn : xs.length ≤ 1099511627775)
    {N : Nat} (hs : act.eval s = v) (hx : act.eval x = .slice (some ⟨N, 0, none⟩) 1 1) (hN : w.heap.size = N)
    (h : ∀ a' n' cap' w', n' = xs.length + 1 → entSh.Own 26 w' base (.slice a' n' cap') (xs ++ [r]) → Below base w w' → wpList Try.prog ops Q rest (act.put o.dst (.slice a' n' cap')) w') :
    wpList Try.prog ops Q (o :: rest) act (w.alloc (.cells #[.string r.key, .int .i64 r.seg, .int .i64 r.pos, .int .i64 r.len, .int .i64 r.bat] 26)) := by
  subst hN
  obtain ⟨i0, hi, hz0, hz1, hz2⟩ := info_parts Try.infoEnt
  have hA : Below w.heap.size w (w.alloc (.cells (entSh.cells r).toArray 26)) := (Below.refl _ _).alloc (Nat.le_refl _) _
  refine entSh.wpList_app (P := Try.prog) hgd s x 24 26 ho Try.underlying24 hi hz0 hz1 hz2 rfl (by decide) (hown.later hA (Nat.le_refl _)) (Nat.le_trans hb hA.size) (Shape.Row.single entSh 26 w r) (by omega) hs hx ?_
  intro a' n' cap' w' hn' ho' hg
  refine h a' n' cap' w' hn' ho' ?_
  refine (hA.mono hb).trans ?_
  exact (Below.refl _ _).grown hg (Nat.le_trans hb hA.size) (fun g hg => (hown.blk g hg).1)

/-- Are two entries the same? -/
def eqE (p q : EntV) : Bool := decide (p.key = q.key ∧ p.seg = q.seg ∧ p.pos = q.pos ∧ p.len = q.len ∧ p.bat = q.bat)
theorem eqE_iff (p q : EntV) : eqE p q = true ↔ p = q := by
  unfold eqE
  rw [decide_eq_true_iff]
  exact ⟨fun h => EntV.ext' h.1 h.2.1 h.2.2.1 h.2.2.2.1 h.2.2.2.2, fun h => by subst h; exact ⟨rfl, rfl, rfl, rfl, rfl⟩⟩
theorem eqE_no {p q : EntV} (h : ¬ p = q) : eqE p q = false := Bool.eq_false_iff.2 (fun e => h ((eqE_iff p q).1 e))

/-- Five cells: an entry. -/
def At5 (w : World) (b o : Nat) (f : EntV) : Prop := w.cell? ⟨b, o, none⟩ = some (.string f.key) ∧ w.cell? ⟨b, o + 1, none⟩ = some (.int .i64 f.seg) ∧ w.cell? ⟨b, o + 2, none⟩ = some (.int .i64 f.pos) ∧ w.cell? ⟨b, o + 3, none⟩ = some (.int .i64 f.len) ∧ w.cell? ⟨b, o + 4, none⟩ = some (.int .i64 f.bat)
theorem At5.later {w w' : World} {b o K : Nat} {f : EntV} (h : At5 w b o f) (hb : Below K w w') (hK : b < K) : At5 w' b o f :=
  ⟨by rw [hb.cell (p := ⟨b, _, none⟩) hK]; exact h.1, by rw [hb.cell (p := ⟨b, _, none⟩) hK]; exact h.2.1, by rw [hb.cell (p := ⟨b, _, none⟩) hK]; exact h.2.2.1, by rw [hb.cell (p := ⟨b, _, none⟩) hK]; exact h.2.2.2.1, by rw [hb.cell (p := ⟨b, _, none⟩) hK]; exact h.2.2.2.2⟩
theorem ent_at {w : World} {a : Option Addr} {n : Nat} {xs : List EntV} (h : entSh.Row w a n xs) (i : Nat) (hi : i < xs.length) : ∃ b off, a = some ⟨b, off, none⟩ ∧ b < w.heap.size ∧ At5 w b (off + i * 5) (xs[i]) := by
  obtain ⟨b, off, h1, h2, h3⟩ := ent_cells h i hi
  exact ⟨b, off, h1, h2, h3⟩
theorem cells5 {w : World} {B : Nat} {x0 x1 x2 x3 x4 : Value} {ty : TypeId} (h : w.heap[B]? = some (.cells #[x0, x1, x2, x3, x4] ty (0, 0))) :
    w.cell? ⟨B, 0, none⟩ = some x0 ∧ w.cell? ⟨B, 1, none⟩ = some x1 ∧ w.cell? ⟨B, 2, none⟩ = some x2 ∧ w.cell? ⟨B, 3, none⟩ = some x3 ∧ w.cell? ⟨B, 4, none⟩ = some x4 ∧ w.frozen? ⟨B, 0, none⟩ = false ∧ w.frozen? ⟨B, 1, none⟩ = false ∧ w.frozen? ⟨B, 2, none⟩ = false ∧ w.frozen? ⟨B, 3, none⟩ = false ∧ w.frozen? ⟨B, 4, none⟩ = false := by
  have hf : ∀ j, w.frozen? ⟨B, j, none⟩ = false := fun j => by simp [World.frozen?, h]
  refine ⟨?_, ?_, ?_, ?_, ?_, hf 0, hf 1, hf 2, hf 3, hf 4⟩ <;> rw [cell_of_row w B _ _ _ _ h] <;> rfl
/-- Block B is an entry of the call's own. -/
def Blk5 (w : World) (B : Nat) (f : EntV) : Prop := w.heap[B]? = some (.cells #[.string f.key, .int .i64 f.seg, .int .i64 f.pos, .int .i64 f.len, .int .i64 f.bat] 26 (0, 0))
theorem Blk5.new (w : World) (f : EntV) : Blk5 (w.alloc (.cells #[.string f.key, .int .i64 f.seg, .int .i64 f.pos, .int .i64 f.len, .int .i64 f.bat] 26)) w.heap.size f := heap_alloc_new w _
theorem Blk5.lt {w : World} {B : Nat} {f : EntV} (h : Blk5 w B f) : B < w.heap.size := (Array.getElem?_eq_some_iff.1 h).1
theorem Blk5.later {w w' : World} {B K : Nat} {f : EntV} (h : Blk5 w B f) (hb : Below K w w') (hK : B < K) : Blk5 w' B f := (hb.block _ hK).trans h
/-- Five cells of a block above are written. -/
theorem below_set5 {n : Nat} {w w' : World} {B : Nat} (h : Below n w w') (hB : n ≤ B) (v0 v1 v2 v3 v4 : Value) : Below n w (((((w'.setCell ⟨B, 0, none⟩ v0).setCell ⟨B, 1, none⟩ v1).setCell ⟨B, 2, none⟩ v2).setCell ⟨B, 3, none⟩ v3).setCell ⟨B, 4, none⟩ v4) :=
  Below.setCell (Below.setCell (Below.setCell (Below.setCell (Below.setCell h (by exact hB) _) (by exact hB) _) (by exact hB) _) (by exact hB) _) (by exact hB) _
theorem at5_new (w : World) (f : EntV) : At5 (w.alloc (.cells #[.string f.key, .int .i64 f.seg, .int .i64 f.pos, .int .i64 f.len, .int .i64 f.bat] 26)) w.heap.size 0 f := by
  refine ⟨?_, ?_, ?_, ?_, ?_⟩ <;> rw [cell_of_row _ _ _ _ _ _ (heap_alloc_new w _)] <;> rfl

end Go.Proofs.Ytnckdfidehbcaaa
