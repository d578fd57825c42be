/-
  spec.SumOf: the sum of records' texts, one behind the other. Places in plain words, and rows of them. Batches in plain words: what a seal and a mark have for their own, whether they fit, which batches are sealed. Regroup in plain words; what holds of it where records of batches that are not sealed are left out. HintOf with no Go in sight: what a merged segment's records say, one by one; and what Regroup of them says. A hint of the law's own. spec.SameDir at any two rows; do a text and a number make this hint? The library's contracts of slices.Sorted, maps.Keys, slices.Sort, slices.IndexFunc and slices.Clone, laid at this seat in plain words. slices.IndexFunc at entries.
-/
import Derived.Test.YtimpokbcfjgdaaaGreatDoorHG10
import Derived.Test.YtimpokbcfjgdaaaGreatDoorHMShowSpec
import Derived.Test.YtimpokbcfjgdaaaGreatDoorHG17
import Derived.Test.YtimpokbcfjgdaaaGreatDoorHG00
import Derived.Maps.AppendAt
import Derived.Test.YtimpokbcfjgdaaaGreatDoorHG05
import Derived.Test.YtimpokbcfjgdaaaGreatDoorHMScanSpec
import Derived.Test.YtimpokbcfjgdaaaGreatDoorHMHintPlain
import Derived.Test.YtimpokbcfjgdaaaGreatDoorHMHintLaw
import Derived.Test.YtimpokbcfjgdaaaGreatDoorHMSameLI
import Derived.Shelf.SlIterI.Nil
import Derived.Shelf.SortM.Plain
import Derived.Shelf.SortM.SortNone
import Derived.Shelf.SlicesQ.IndexFunc
import Derived.Shelf.SlicesE.Clone
import Derived.Test.YtimpokbcfjgdaaaGreatDoorProg
import Derived.Lib.SliceRun
namespace Go.Proofs.YtimpokbcfjgdaaaGreatDoor
open Go.RowKit
open Plain

/-- The texts of records, one behind the other. -/
def cat (xs : List RecV) : ByteArray := xs.foldl (fun s r => s ++ showS r) ⟨#[]⟩
theorem cat_succ (xs : List RecV) (k : Nat) (h : k < xs.length) : cat (xs.take (k + 1)) = cat (xs.take k) ++ showS (xs[k]) := by
  unfold cat
  rw [List.take_succ_eq_append_getElem h, List.foldl_append]
  rfl
theorem show_size' (r : RecV) : (showS r).size ≤ 60 := by
  cases h : recOkB r with
  | false => rw [show_none r h]; exact Nat.zero_le _
  | true =>
    obtain ⟨k, b, key, val, c, s⟩ := r
    have hok : RecOkP k b key.size val.size c s := okN_iff.1 h
    have e : showS ⟨k, b, key, val, c, s⟩ = varS k ++ varS b ++ bodyS k key val c s := if_pos h
    have z1 := varS_size k
    have z2 := varS_size b
    have z3 := textS_size key
    have z4 := textS_size val
    have z5 := totS_size c s
    rw [e, ByteArray.size_append, ByteArray.size_append]
    unfold RecOkP at hok
    unfold bodyS
    split
    · rw [ByteArray.size_append]; omega
    · split
      · omega
      · omega
theorem cat_size (xs : List RecV) (k : Nat) (h : k ≤ xs.length) : (cat (xs.take k)).size ≤ 60 * k := by
  induction k with
  | zero => exact Nat.zero_le _
  | succ k ih =>
    rw [cat_succ xs k (by omega), ByteArray.size_append]
    have := show_size' (xs[k])
    have := ih (by omega)
    omega
theorem rec_cells {w : World} {a : Option Addr} {n : Nat} {xs : List RecV} (h : recSh.Row w a n xs) (i : Nat) (hi : i < xs.length) : ∃ b off, a = some ⟨b, off, none⟩ ∧ b < w.heap.size ∧
    w.cell? ⟨b, off + i * 6, none⟩ = some (.int .i64 (xs[i]).kind) ∧ w.cell? ⟨b, off + i * 6 + 1, none⟩ = some (.int .i64 (xs[i]).batch) ∧ w.cell? ⟨b, off + i * 6 + 2, none⟩ = some (.string (xs[i]).key) ∧ w.cell? ⟨b, off + i * 6 + 3, none⟩ = some (.string (xs[i]).val) ∧ w.cell? ⟨b, off + i * 6 + 4, none⟩ = some (.int .i64 (xs[i]).cnt) ∧ w.cell? ⟨b, off + i * 6 + 5, none⟩ = some (.int .i64 (xs[i]).sum) := by
  obtain ⟨b, off, h1, h2, h3⟩ := h.cells i hi
  exact ⟨b, off, h1, h2, h3 0 (by decide), h3 1 (by decide), h3 2 (by decide), h3 3 (by decide), h3 4 (by decide), h3 5 (by decide)⟩

set_option maxRecDepth 100000 in
set_option maxHeartbeats 2000000 in
theorem specSumOf_any (w : World) (a : Option Addr) (n cap : Nat) (xs : List RecV) (hr : recSh.Row w a n xs) (hn : n ≤ 1048576) (hv : ∀ i, (h : i < xs.length) → (xs[i]).val.size ≤ maxLen) :
    Calls Tryz.prog 57 #[.slice a n cap] w fun e w' => e = .returned (.int .i64 (crcN (cat xs) : Nat)) ∧ Below w.heap.size w w' := by
  have HR := hide hr
  have hlen := hr.len
  have HV := hide hv
  clear hr hv
  go_enter Tryz.func57, Tryz.ntmps57
  go_wp2
  go_loopw [3, 4] (fun v x wr => ∃ k : Nat, k ≤ n ∧ v = .string (cat (xs.take k)) ∧ x = .int .i64 k ∧ Hid (Below w.heap.size w wr)) (fun _ x _ => n - (intOf x).toNat)
  case atStart => exact ⟨0, by omega, rfl, rfl, hide (Below.refl _ _)⟩
  case round =>
    obtain ⟨k, hk, rfl, rfl, HB⟩ := hrel
    have hcs := cat_size xs k (by omega)
    by_cases hlt : k < n
    · have hkx : k < xs.length := by omega
      obtain ⟨b, off, rfl, hbw, c0, c1, c2, c3, c4, c5⟩ := rec_cells (HR.out.later HB.out) k hkx
      have HSH := hide (specShow_any (xs[k]) (HV.out k hkx))
      have h60 := show_size' (xs[k])
      have HC : Hid (cat (xs.take (k + 1)) = cat (xs.take k) ++ showS (xs[k])) := hide (cat_succ xs k hkx)
      have z1 : ¬ 9223372036854775807 < (cat (xs.take k)).size + (showS (xs[k])).size := by omega
      generalize showS (xs[k]) = S at *
      generalize cat (xs.take k) = A at *
      have hk2 : (k : Int) < (n : Int) := by omega
      go_wp2_with fail
      refine (HSH.out _).mono ?_
      rintro e w1 ⟨rfl, hb1⟩
      have HB1 := hide (HB.out.trans (hb1.mono HB.out.size))
      clear hb1 HB HSH c0 c1 c2 c3 c4 c5
      go_wp2
      go_roundw
      case rel => exact ⟨k + 1, by omega, by rw [HC.out], by go_num, HB1⟩
      case measure => first | (simp [intOf]; done) | (simp [intOf]; omega)
    · obtain rfl : k = n := by omega
      have HE : Hid (cat (xs.take k) = cat xs) := hide (by rw [List.take_of_length_le (by omega)])
      have HC := hide (specCrc_ans (cat (xs.take k)) (by omega))
      rw [HE.out] at HC
      go_wp2_with fail
      rw [HE.out]
      refine (HC.out _).mono ?_
      rintro e w1 ⟨rfl, hb1⟩
      have HB1 := hide (HB.out.trans (hb1.mono HB.out.size))
      clear hb1 HB HC
      go_wp2
      go_ret
      exact ⟨rfl, HB1.out⟩

end Go.Proofs.YtimpokbcfjgdaaaGreatDoor
namespace Go.Proofs.YtimpokbcfjgdaaaGreatDoor
open Go.RowKit
open Plain

/-- A record, and where it stands. -/
structure PlaceV where
  seg : Int
  pos : Int
  len : Int
  r : RecV
theorem PlaceV.ext' {p q : PlaceV} (h1 : p.seg = q.seg) (h2 : p.pos = q.pos) (h3 : p.len = q.len) (h4 : p.r = q.r) : p = q := by
  cases p; cases q; simp_all
def plSh : Shape PlaceV where
  cells := fun p => [.int .i64 p.seg, .int .i64 p.pos, .int .i64 p.len, .int .i64 p.r.kind, .int .i64 p.r.batch, .string p.r.key, .string p.r.val, .int .i64 p.r.cnt, .int .i64 p.r.sum]
  k := 9
  len := fun _ => rfl
  one := fun r u h => by
    simp only [List.mem_cons, List.not_mem_nil, or_false] at h
    rcases h with rfl | rfl | rfl | rfl | rfl | rfl | rfl | rfl | rfl <;> rfl
  pos := by decide
def zeroP : PlaceV := ⟨0, 0, 0, ⟨0, 0, ⟨#[]⟩, ⟨#[]⟩, 0, 0⟩⟩
def PlaceV.val (p : PlaceV) : Value := .agg #[.int .i64 p.seg, .int .i64 p.pos, .int .i64 p.len, .int .i64 p.r.kind, .int .i64 p.r.batch, .string p.r.key, .string p.r.val, .int .i64 p.r.cnt, .int .i64 p.r.sum]
theorem Tryz.infoPlace : (Tryz.prog.info? 45).map (fun i => (i.zero, i.size, i.bytes)) = some (some (.agg #[.int .i64 0, .int .i64 0, .int .i64 0, .int .i64 0, .int .i64 0, .string ⟨#[]⟩, .string ⟨#[]⟩, .int .i64 0, .int .i64 0]), 9, 88) := by kernel_rfl

theorem pl_cells {w : World} {a : Option Addr} {n : Nat} {xs : List PlaceV} (h : plSh.Row w a n xs) (i : Nat) (hi : i < xs.length) : ∃ b off, a = some ⟨b, off, none⟩ ∧ b < w.heap.size ∧
    w.cell? ⟨b, off + i * 9, none⟩ = some (.int .i64 (xs[i]).seg) ∧ w.cell? ⟨b, off + i * 9 + 1, none⟩ = some (.int .i64 (xs[i]).pos) ∧ w.cell? ⟨b, off + i * 9 + 2, none⟩ = some (.int .i64 (xs[i]).len) ∧ w.cell? ⟨b, off + i * 9 + 3, none⟩ = some (.int .i64 (xs[i]).r.kind) ∧ w.cell? ⟨b, off + i * 9 + 4, none⟩ = some (.int .i64 (xs[i]).r.batch) ∧ w.cell? ⟨b, off + i * 9 + 5, none⟩ = some (.string (xs[i]).r.key) ∧ w.cell? ⟨b, off + i * 9 + 6, none⟩ = some (.string (xs[i]).r.val) ∧ w.cell? ⟨b, off + i * 9 + 7, none⟩ = some (.int .i64 (xs[i]).r.cnt) ∧ w.cell? ⟨b, off + i * 9 + 8, none⟩ = some (.int .i64 (xs[i]).r.sum) := by
  obtain ⟨b, off, h1, h2, h3⟩ := h.cells i hi
  exact ⟨b, off, h1, h2, h3 0 (by decide), h3 1 (by decide), h3 2 (by decide), h3 3 (by decide), h3 4 (by decide), h3 5 (by decide), h3 6 (by decide), h3 7 (by decide), h3 8 (by decide)⟩

/-- 'out = append(out, p)', out a row of places of the call's own, p in a new block; and where the row now lies. -/
theorem wpList_app_pl_at {ops : Array Oper} {rest : List Oper} {o : Oper} {act : Act} {Q : Exit → Act → World → Prop} (hgd : o.guard = none) (s x : Operand)
    (ho : o.op = .call { callee := .builtin .append, args := #[s, x], argTypes := #[36, 36] }) {w : World} {base : Nat} {v : Value} {xs : List PlaceV} (p : PlaceV) (hown : plSh.Own 45 w base v xs) (hb : base ≤ w.heap.size) (hn : xs.length ≤ 1099511627775)
    {N : Nat} (hs : act.eval s = v) (hx : act.eval x = .slice (some ⟨N, 0, none⟩) 1 1) (hN : w.heap.size = N)
    (h : ∀ a' n' cap' w', n' = xs.length + 1 → plSh.Own 45 w' base (.slice a' n' cap') (xs ++ [p]) → w.grownBy w' v.ownBlock → ((Value.slice a' n' cap').ownBlock = v.ownBlock ∨ ∃ g, (Value.slice a' n' cap').ownBlock = some g ∧ w.heap.size ≤ g) → wpList Tryz.prog ops Q rest (act.put o.dst (.slice a' n' cap')) w') :
    wpList Tryz.prog ops Q (o :: rest) act (w.alloc (.cells #[.int .i64 p.seg, .int .i64 p.pos, .int .i64 p.len, .int .i64 p.r.kind, .int .i64 p.r.batch, .string p.r.key, .string p.r.val, .int .i64 p.r.cnt, .int .i64 p.r.sum] 45)) := by
  subst hN
  obtain ⟨i0, hi, hz0, hz1, hz2⟩ := info_parts Tryz.infoPlace
  have hA : Below w.heap.size w (w.alloc (.cells (plSh.cells p).toArray 45)) := (Below.refl _ _).alloc (Nat.le_refl _) _
  have hgA : w.grownBy (w.alloc (.cells (plSh.cells p).toArray 45)) v.ownBlock := ⟨hA.os, hA.tape, hA.output, hA.size, fun k hk _ => hA.block k hk⟩
  have ho1 : (w.alloc (.cells (plSh.cells p).toArray 45)).ownsRow base 45 9 v xs.length (plSh.flat xs) := hown.later hA (Nat.le_refl _)
  have hmul : (xs.length + 1) * 88 ≤ 140737488355328 := by omega
  refine wpList_append_own_at (P := Tryz.prog) (w.alloc (.cells (plSh.cells p).toArray 45)) hgd s x 36 ho base 45 i0 _ 9 88 Tryz.underlying36 hi hz0 hz1 hz2 rfl (by decide) v xs.length (plSh.flat xs) hs ho1 ⟨w.heap.size, 0, none⟩ 1 1 (plSh.flat [p]) hx rfl (Shape.Row.single plSh 45 w p).src (plSh.flat_one [p]) (by unfold maxLen; omega) hmul (Nat.le_trans hb hA.size) ?_
  intro v' w' ho' hg _ hat
  have hval : ∃ a' cap', v' = .slice a' (xs.length + 1) cap' := by
    rcases ho'.2 with ⟨e, h0⟩ | ⟨g, cap, cur, e, _⟩
    · exact ⟨none, 0, by rw [e, h0]⟩
    · exact ⟨_, _, e⟩
  obtain ⟨a', cap', rfl⟩ := hval
  refine h a' _ cap' w' rfl ?_ (gchain hgA hg) (hat.imp id (fun e => ⟨_, e, hA.size⟩))
  unfold Shape.Own
  rw [List.length_append, plSh.flat_append]
  exact ho'
/-- The same, and no more than that what was there stands. -/
theorem wpList_app_pl {ops : Array Oper} {rest : List Oper} {o : Oper} {act : Act} {Q : Exit → Act → World → Prop} (hgd : o.guard = none) (s x : Operand)
    (ho : o.op = .call { callee := .builtin .append, args := #[s, x], argTypes := #[36, 36] }) {w : World} {base : Nat} {v : Value} {xs : List PlaceV} (p : PlaceV) (hown : plSh.Own 45 w base v xs) (hb : base ≤ w.heap.size) (hn : xs.length ≤ 1099511627775)
    {N : Nat} (hs : act.eval s = v) (hx : act.eval x = .slice (some ⟨N, 0, none⟩) 1 1) (hN : w.heap.size = N)
    (h : ∀ a' n' cap' w', n' = xs.length + 1 → plSh.Own 45 w' base (.slice a' n' cap') (xs ++ [p]) → Below base w w' → wpList Tryz.prog ops Q rest (act.put o.dst (.slice a' n' cap')) w') :
    wpList Tryz.prog ops Q (o :: rest) act (w.alloc (.cells #[.int .i64 p.seg, .int .i64 p.pos, .int .i64 p.len, .int .i64 p.r.kind, .int .i64 p.r.batch, .string p.r.key, .string p.r.val, .int .i64 p.r.cnt, .int .i64 p.r.sum] 45)) :=
  wpList_app_pl_at hgd s x ho p hown hb hn hs hx hN (fun a' n' cap' w' hn' ho' hg _ => h a' n' cap' w' hn' ho' ((Below.refl _ _).grown hg hb (fun g hg => (hown.blk g hg).1)))

theorem cells9 {w : World} {B : Nat} {x0 x1 x2 x3 x4 x5 x6 x7 x8 : Value} {ty : TypeId} (h : w.heap[B]? = some (.cells #[x0, x1, x2, x3, x4, x5, x6, x7, x8] ty (0, 0))) :
    w.cell? ⟨B, 0, none⟩ = some x0 ∧ w.cell? ⟨B, 1, none⟩ = some x1 ∧ w.cell? ⟨B, 2, none⟩ = some x2 ∧ w.cell? ⟨B, 3, none⟩ = some x3 ∧ w.cell? ⟨B, 4, none⟩ = some x4 ∧ w.cell? ⟨B, 5, none⟩ = some x5 ∧ w.cell? ⟨B, 6, none⟩ = some x6 ∧ w.cell? ⟨B, 7, none⟩ = some x7 ∧ w.cell? ⟨B, 8, none⟩ = some x8 := by
  refine ⟨?_, ?_, ?_, ?_, ?_, ?_, ?_, ?_, ?_⟩ <;> rw [cell_of_row w B _ _ _ _ h] <;> rfl
/-- Block B is a place of the call's own. -/
def Blk9 (T : TypeId) (w : World) (B : Nat) (p : PlaceV) : Prop := w.heap[B]? = some (.cells #[.int .i64 p.seg, .int .i64 p.pos, .int .i64 p.len, .int .i64 p.r.kind, .int .i64 p.r.batch, .string p.r.key, .string p.r.val, .int .i64 p.r.cnt, .int .i64 p.r.sum] T (0, 0))
theorem Blk9.new (T : TypeId) (w : World) (p : PlaceV) : Blk9 T (w.alloc (.cells #[.int .i64 p.seg, .int .i64 p.pos, .int .i64 p.len, .int .i64 p.r.kind, .int .i64 p.r.batch, .string p.r.key, .string p.r.val, .int .i64 p.r.cnt, .int .i64 p.r.sum] T)) w.heap.size p := heap_alloc_new w _
theorem Blk9.lt {T : TypeId} {w : World} {B : Nat} {p : PlaceV} (h : Blk9 T w B p) : B < w.heap.size := (Array.getElem?_eq_some_iff.1 h).1
theorem Blk9.later {T : TypeId} {w w' : World} {B K : Nat} {p : PlaceV} (h : Blk9 T w B p) (hb : Below K w w') (hK : B < K) : Blk9 T w' B p := (hb.block _ hK).trans h
theorem Blk9.after {T : TypeId} {w w' : World} {B : Nat} {p : PlaceV} (h : Blk9 T w B p) (hb : Below w.heap.size w w') : Blk9 T w' B p := h.later hb h.lt

end Go.Proofs.YtimpokbcfjgdaaaGreatDoor
namespace Go.Proofs.YtimpokbcfjgdaaaGreatDoor
open Go.RowKit
open Plain

def ofStep (b : Int) (out : List PlaceV) (p : PlaceV) : List PlaceV :=
  if p.r.batch = b then (if p.r.kind = 3 then [] else if p.r.kind = 1 ∨ p.r.kind = 2 then out ++ [p] else out) else out
/-- The records of a batch behind the last seal of it. -/
def ofB (l : List PlaceV) (b : Int) : List PlaceV := l.foldl (ofStep b) []
def kpStep (out : List PlaceV) (p : PlaceV) : List PlaceV := if p.r.kind = 5 then [] else if p.r.kind = 4 then out ++ [p] else out
/-- What is kept behind the last mark. -/
def keptP (l : List PlaceV) : List PlaceV := l.foldl kpStep []
def fitsP (r : RecV) (own : List PlaceV) : Bool := decide (r.cnt = (own.length : Int) ∧ r.sum = ((crcN (cat (own.map PlaceV.r)) : Nat) : Int))
def seS (s : List PlaceV × List Int) (p : PlaceV) : List PlaceV × List Int := (s.1 ++ [p], if p.r.kind = 3 ∧ fitsP p.r (ofB s.1 p.r.batch) = true then s.2 ++ [p.r.batch] else s.2)
/-- The batches of the seals that fit. -/
def sealF (l : List PlaceV) : List Int := (l.foldl seS ([], [])).2

theorem seS_fst (l : List PlaceV) : ∀ s, (l.foldl seS s).1 = s.1 ++ l := by
  induction l with
  | nil => intro s; simp
  | cons p r ih => intro s; rw [List.foldl_cons, ih]; simp [seS]
theorem sealF_snoc (pre : List PlaceV) (p : PlaceV) : sealF (pre ++ [p]) = if p.r.kind = 3 ∧ fitsP p.r (ofB pre p.r.batch) = true then sealF pre ++ [p.r.batch] else sealF pre := by
  unfold sealF
  rw [List.foldl_append, List.foldl_cons, List.foldl_nil]
  show (if _ then _ else _) = _
  rw [seS_fst, List.nil_append]
theorem ofB_snoc (pre : List PlaceV) (p : PlaceV) (b : Int) : ofB (pre ++ [p]) b = ofStep b (ofB pre b) p := by unfold ofB; rw [List.foldl_append]; rfl
theorem keptP_snoc (pre : List PlaceV) (p : PlaceV) : keptP (pre ++ [p]) = kpStep (keptP pre) p := by unfold keptP; rw [List.foldl_append]; rfl
theorem take_snoc (l : List PlaceV) (k : Nat) (h : k < l.length) : l.take (k + 1) = l.take k ++ [l[k]] := List.take_succ_eq_append_getElem h
theorem sealF_succ (l : List PlaceV) (k : Nat) (h : k < l.length) : sealF (l.take (k + 1)) = if (l[k]).r.kind = 3 ∧ fitsP (l[k]).r (ofB (l.take k) (l[k]).r.batch) = true then sealF (l.take k) ++ [(l[k]).r.batch] else sealF (l.take k) := by rw [take_snoc l k h, sealF_snoc]
theorem ofStep_len (b : Int) (out : List PlaceV) (p : PlaceV) : (ofStep b out p).length ≤ out.length + 1 := by
  unfold ofStep
  split
  · split
    · simp
    · split
      · simp
      · omega
  · omega
theorem foldl_len {f : List PlaceV → PlaceV → List PlaceV} (h : ∀ o p, (f o p).length ≤ o.length + 1) (l : List PlaceV) : ∀ o, (l.foldl f o).length ≤ o.length + l.length := by
  induction l with
  | nil => intro o; simp
  | cons p r ih =>
    intro o
    rw [List.foldl_cons, List.length_cons]
    have := ih (f o p)
    have := h o p
    omega
theorem ofB_len (l : List PlaceV) (b : Int) : (ofB l b).length ≤ l.length := by
  have := foldl_len (ofStep_len b) l []
  rw [List.length_nil, Nat.zero_add] at this
  exact this
theorem kpStep_len (out : List PlaceV) (p : PlaceV) : (kpStep out p).length ≤ out.length + 1 := by
  unfold kpStep
  split
  · simp
  · split
    · simp
    · omega
theorem keptP_len (l : List PlaceV) : (keptP l).length ≤ l.length := by
  have := foldl_len kpStep_len l []
  rw [List.length_nil, Nat.zero_add] at this
  exact this
/-- Every record of the one is one of the other. -/
theorem ofB_mem (l : List PlaceV) (b : Int) : ∀ p, p ∈ ofB l b → p ∈ l := by
  have h : ∀ (r o : List PlaceV) (p : PlaceV), p ∈ r.foldl (ofStep b) o → p ∈ o ∨ p ∈ r := by
    intro r
    induction r with
    | nil => intro o p hp; exact .inl hp
    | cons q r ih =>
      intro o p hp
      rcases ih _ _ hp with h1 | h1
      · unfold ofStep at h1
        split at h1
        · split at h1
          · simp at h1
          · split at h1
            · rcases List.mem_append.1 h1 with h2 | h2
              · exact .inl h2
              · obtain rfl : p = q := by simpa using h2
                exact .inr List.mem_cons_self
            · exact .inl h1
        · exact .inl h1
      · exact .inr (List.mem_cons_of_mem _ h1)
  intro p hp
  rcases h l [] p hp with h1 | h1
  · simp at h1
  · exact h1
theorem keptP_mem (l : List PlaceV) : ∀ p, p ∈ keptP l → p ∈ l := by
  have h : ∀ (r o : List PlaceV) (p : PlaceV), p ∈ r.foldl kpStep o → p ∈ o ∨ p ∈ r := by
    intro r
    induction r with
    | nil => intro o p hp; exact .inl hp
    | cons q r ih =>
      intro o p hp
      rcases ih _ _ hp with h1 | h1
      · unfold kpStep at h1
        split at h1
        · simp at h1
        · split at h1
          · rcases List.mem_append.1 h1 with h2 | h2
            · exact .inl h2
            · obtain rfl : p = q := by simpa using h2
              exact .inr List.mem_cons_self
          · exact .inl h1
      · exact .inr (List.mem_cons_of_mem _ h1)
  intro p hp
  rcases h l [] p hp with h1 | h1
  · simp at h1
  · exact h1

end Go.Proofs.YtimpokbcfjgdaaaGreatDoor
namespace Go.Proofs.YtimpokbcfjgdaaaGreatDoor
open Go.RowKit
open Plain

/-- What Regroup is handed and answers. -/
structure GroupV where
  dir : List EntV
  last : Int
  code : Int

def entOf (p : PlaceV) : EntV := ⟨p.r.key, p.seg, p.pos, p.len, p.r.batch⟩
def putP (dir : List EntV) (p : PlaceV) : List EntV := if p.r.kind = 2 then dropE dir p.r.key else putE dir (entOf p)
def behindP (dir : List EntV) (own : List PlaceV) : List EntV := own.foldl putP dir
/-- The directory behind a seal or a mark that fits, and the code. -/
def fitG (x : GroupV) (own : List PlaceV) (last : Int) : GroupV := ⟨behindP x.dir own, last, if 20 < (behindP x.dir own).length then 2 else 0⟩
def stepG (pre : List PlaceV) (x : GroupV) (p : PlaceV) : GroupV :=
  if x.code = 0 then
    if p.r.kind = 3 then (if fitsP p.r (ofB pre p.r.batch) = true then fitG x (ofB pre p.r.batch) (max x.last p.r.batch) else ⟨x.dir, max x.last p.r.batch, 0⟩)
    else if p.r.kind = 5 then (if fitsP p.r (keptP pre) = true then fitG x (keptP pre) (max x.last p.r.batch) else ⟨x.dir, max x.last p.r.batch, 1⟩)
    else ⟨x.dir, max x.last p.r.batch, 0⟩
  else x
def regS (s : List PlaceV × GroupV) (p : PlaceV) : List PlaceV × GroupV := (s.1 ++ [p], stepG s.1 s.2 p)
/-- Behind these records. -/
def regL (g : GroupV) (l : List PlaceV) : GroupV := (l.foldl regS ([], g)).2
def endG (x : GroupV) (l : List PlaceV) : GroupV := if x.code = 0 ∧ ¬ keptP l = [] then ⟨x.dir, x.last, 1⟩ else x
def regF (g : GroupV) (l : List PlaceV) : GroupV := endG (regL g l) l

theorem regS_fst (l : List PlaceV) : ∀ s, (l.foldl regS s).1 = s.1 ++ l := by
  induction l with
  | nil => intro s; simp
  | cons p r ih => intro s; rw [List.foldl_cons, ih]; simp [regS]
theorem regL_snoc (g : GroupV) (pre : List PlaceV) (p : PlaceV) : regL g (pre ++ [p]) = stepG pre (regL g pre) p := by
  unfold regL
  rw [List.foldl_append, List.foldl_cons, List.foldl_nil]
  show stepG _ _ p = _
  rw [regS_fst, List.nil_append]
theorem regL_succ (g : GroupV) (l : List PlaceV) (k : Nat) (h : k < l.length) : regL g (l.take (k + 1)) = stepG (l.take k) (regL g (l.take k)) (l[k]) := by rw [take_snoc l k h, regL_snoc]
/-- Where the code is not 0, the rest is not looked at. -/
theorem regL_stuck (g : GroupV) (l : List PlaceV) (k : Nat) (hc : ¬ (regL g (l.take k)).code = 0) : ∀ j, regL g (l.take (k + j)) = regL g (l.take k) := by
  intro j
  induction j with
  | zero => rfl
  | succ j ih =>
    by_cases h : k + j < l.length
    · rw [← Nat.add_assoc, regL_succ g l (k + j) h, ih]
      unfold stepG
      rw [if_neg hc]
    · rw [List.take_of_length_le (by omega), ← ih, List.take_of_length_le (by omega)]
theorem regF_stuck (g : GroupV) (l : List PlaceV) (k : Nat) (x : GroupV) (hx : regL g (l.take k) = x) (hc : ¬ x.code = 0) : regF g l = x := by
  have h := regL_stuck g l k (by rw [hx]; exact hc) l.length
  rw [List.take_of_length_le (by omega), hx] at h
  unfold regF endG
  rw [h, if_neg (fun q => hc q.1)]
theorem regF_end (g : GroupV) (l : List PlaceV) (k : Nat) (x : GroupV) (hk : l.length ≤ k) (hx : regL g (l.take k) = x) : regF g l = endG x l := by
  rw [List.take_of_length_le hk] at hx
  unfold regF
  rw [hx]

theorem putE_len' (xs : List EntV) (p : EntV) : (putE xs p).length ≤ xs.length + 1 := by
  unfold putE
  rw [insE_len]
  have := dropE_len xs p.key
  omega
theorem putP_len (dir : List EntV) (p : PlaceV) : (putP dir p).length ≤ dir.length + 1 := by
  unfold putP
  split
  · have := dropE_len dir p.r.key
    omega
  · exact putE_len' _ _
theorem behindP_len (own : List PlaceV) : ∀ dir, (behindP dir own).length ≤ dir.length + own.length := by
  induction own with
  | nil => intro dir; exact Nat.le_refl _
  | cons p r ih =>
    intro dir
    show (behindP (putP dir p) r).length ≤ _
    have h1 := ih (putP dir p)
    have h2 := putP_len dir p
    rw [List.length_cons]
    omega
theorem behindP_succ (dir : List EntV) (own : List PlaceV) (k : Nat) (h : k < own.length) : behindP dir (own.take (k + 1)) = putP (behindP dir (own.take k)) (own[k]) := by
  unfold behindP
  rw [take_snoc own k h, List.foldl_append]
  rfl
/-- At the head of a round the directory is small, or what it was at first. -/
theorem regL_dir (g : GroupV) (l : List PlaceV) : ∀ k, (regL g (l.take k)).code = 0 → (regL g (l.take k)).dir.length ≤ 20 + g.dir.length := by
  intro k
  induction k with
  | zero => intro _; show g.dir.length ≤ _; omega
  | succ k ih =>
    by_cases h : k < l.length
    · rw [regL_succ g l k h]
      generalize regL g (l.take k) = x at ih ⊢
      intro hc
      have fit : ∀ own last, (fitG x own last).code = 0 → (fitG x own last).dir.length ≤ 20 + g.dir.length := by
        intro own last h
        unfold fitG at h ⊢
        simp only at h ⊢
        split at h
        · cases h
        · omega
      unfold stepG at hc ⊢
      split at hc
      · rename_i h0
        rw [if_pos h0]
        split at hc
        · rename_i h3
          rw [if_pos h3]
          split at hc
          · rename_i hf; rw [if_pos hf]; exact fit _ _ hc
          · rename_i hf; rw [if_neg hf]; exact ih h0
        · rename_i h3
          rw [if_neg h3]
          split at hc
          · rename_i h5
            rw [if_pos h5]
            split at hc
            · rename_i hf; rw [if_pos hf]; exact fit _ _ hc
            · cases hc
          · rename_i h5; rw [if_neg h5]; exact ih h0
      · rename_i h0; exact absurd hc h0
    · rw [List.take_of_length_le (by omega)]
      intro hc
      rw [List.take_of_length_le (by omega)] at ih
      exact ih hc

/-- A record that the law leaves in. -/
def keepS (S : List Int) (p : PlaceV) : Bool := !(decide ((p.r.kind = 1 ∨ p.r.kind = 2) ∧ ¬ p.r.batch ∈ S))
def lessP (S : List Int) (l : List PlaceV) : List PlaceV := l.filter (keepS S)
theorem lessP_snoc (S : List Int) (pre : List PlaceV) (p : PlaceV) : lessP S (pre ++ [p]) = if (p.r.kind = 1 ∨ p.r.kind = 2) ∧ ¬ p.r.batch ∈ S then lessP S pre else lessP S pre ++ [p] := by
  unfold lessP
  rw [List.filter_append]
  split
  · rename_i h
    have : keepS S p = false := by unfold keepS; rw [decide_eq_true h]; rfl
    simp [this]
  · rename_i h
    have : keepS S p = true := by unfold keepS; rw [decide_eq_false h]; rfl
    simp [this]
theorem less_of (S : List Int) (b : Int) (l : List PlaceV) : ∀ k, ofB (lessP S (l.take k)) b = if b ∈ S then ofB (l.take k) b else [] := by
  intro k
  induction k with
  | zero => simp [lessP, ofB]
  | succ k ih =>
    by_cases h : k < l.length
    · rw [take_snoc l k h, lessP_snoc, ofB_snoc]
      generalize l[k] = p
      by_cases hb : b ∈ S
      · rw [if_pos hb] at ih ⊢
        split
        · rename_i hq
          have : ¬ p.r.batch = b := fun e => hq.2 (e ▸ hb)
          unfold ofStep
          rw [if_neg this, ih]
        · rw [ofB_snoc, ih]
      · rw [if_neg hb] at ih ⊢
        split
        · exact ih
        · rename_i hq
          rw [ofB_snoc, ih]
          unfold ofStep
          split
          · rename_i he
            split
            · rfl
            · split
              · rename_i hk
                exact absurd ⟨hk, he ▸ hb⟩ hq
              · rfl
          · rfl
    · rw [List.take_of_length_le (by omega)]
      rw [List.take_of_length_le (by omega)] at ih
      exact ih
theorem less_kept (S : List Int) (l : List PlaceV) : ∀ k, keptP (lessP S (l.take k)) = keptP (l.take k) := by
  intro k
  induction k with
  | zero => rfl
  | succ k ih =>
    by_cases h : k < l.length
    · rw [take_snoc l k h, lessP_snoc, keptP_snoc]
      generalize l[k] = p
      split
      · rename_i hq
        rw [ih]
        unfold kpStep
        rw [if_neg (by rcases hq.1 with e | e <;> rw [e] <;> decide), if_neg (by rcases hq.1 with e | e <;> rw [e] <;> decide)]
      · rw [keptP_snoc, ih]
    · rw [List.take_of_length_le (by omega)]
      rw [List.take_of_length_le (by omega)] at ih
      exact ih
theorem sealF_mono (l : List PlaceV) (k : Nat) : ∀ j b, b ∈ sealF (l.take k) → b ∈ sealF (l.take (k + j)) := by
  intro j
  induction j with
  | zero => intro b h; exact h
  | succ j ih =>
    intro b h
    by_cases hl : k + j < l.length
    · rw [← Nat.add_assoc, sealF_succ l (k + j) hl]
      split
      · exact List.mem_append_left _ (ih b h)
      · exact ih b h
    · have := ih b h
      rw [List.take_of_length_le (by omega)] at this
      rw [List.take_of_length_le (by omega)]
      exact this
theorem sealF_has (l : List PlaceV) (k : Nat) (h : k < l.length) (h3 : (l[k]).r.kind = 3) (hf : fitsP (l[k]).r (ofB (l.take k) (l[k]).r.batch) = true) : (l[k]).r.batch ∈ sealF l := by
  have h1 : (l[k]).r.batch ∈ sealF (l.take (k + 1)) := by
    rw [sealF_succ l k h, if_pos ⟨h3, hf⟩]
    simp
  have h2 := sealF_mono l (k + 1) l.length _ h1
  rw [List.take_of_length_le (by omega)] at h2
  exact h2
/-- No seal of a batch that is not sealed counts 0. -/
def noneZero (S : List Int) (l : List PlaceV) : Prop := ∀ p, p ∈ lessP S l → p.r.kind = 3 → ¬ p.r.batch ∈ S → ¬ p.r.cnt = 0
structure Alike (x y : GroupV) : Prop where
  code : x.code = y.code
  dir : x.dir = y.dir
  last : x.last ≤ y.last
theorem Alike.fit {x y : GroupV} (h : Alike x y) (own : List PlaceV) {a b : Int} (hab : a ≤ b) : Alike (fitG x own a) (fitG y own b) := by
  unfold fitG
  exact ⟨by simp only [h.dir], by simp only [h.dir], hab⟩
theorem less_reg (g : GroupV) (l : List PlaceV) (hz : noneZero (sealF l) l) : ∀ k, Alike (regL g (lessP (sealF l) (l.take k))) (regL g (l.take k)) := by
  intro k
  induction k with
  | zero => exact ⟨rfl, rfl, Int.le_refl _⟩
  | succ k ih =>
    by_cases h : k < l.length
    · have hs := sealF_has l k h
      have hm : l[k] ∈ l := List.getElem_mem h
      have ho := fun b => less_of (sealF l) b l k
      have hk := less_kept (sealF l) l k
      rw [take_snoc l k h, lessP_snoc, regL_snoc]
      generalize hp : l[k] = p at hs hm ⊢
      generalize regL g (l.take k) = y at ih ⊢
      split
      · rename_i hq
        generalize regL g (lessP (sealF l) (l.take k)) = x at ih ⊢
        unfold stepG
        split
        · rw [if_neg (by rcases hq.1 with e | e <;> rw [e] <;> decide), if_neg (by rcases hq.1 with e | e <;> rw [e] <;> decide)]
          rename_i h0
          exact ⟨ih.code.trans h0, ih.dir, Int.le_trans ih.last (Int.le_max_left _ _)⟩
        · exact ih
      · rename_i hq
        have hin : p ∈ lessP (sealF l) l := by
          unfold lessP
          rw [List.mem_filter]
          refine ⟨hm, ?_⟩
          unfold keepS
          rw [decide_eq_false hq]
          rfl
        have hzp := hz p hin
        rw [regL_snoc]
        generalize regL g (lessP (sealF l) (l.take k)) = x at ih ⊢
        have hmax : max x.last p.r.batch ≤ max y.last p.r.batch := by have := ih.last; omega
        have hrest : Alike (⟨x.dir, max x.last p.r.batch, 0⟩ : GroupV) ⟨y.dir, max y.last p.r.batch, 0⟩ := ⟨rfl, ih.dir, hmax⟩
        have hmark : Alike (⟨x.dir, max x.last p.r.batch, 1⟩ : GroupV) ⟨y.dir, max y.last p.r.batch, 1⟩ := ⟨rfl, ih.dir, hmax⟩
        unfold stepG
        rw [hk, ho p.r.batch, ih.code]
        by_cases h0 : y.code = 0
        · rw [if_pos h0, if_pos h0]
          by_cases h3 : p.r.kind = 3
          · rw [if_pos h3, if_pos h3]
            by_cases hb : p.r.batch ∈ sealF l
            · rw [if_pos hb]
              by_cases hf : fitsP p.r (ofB (l.take k) p.r.batch) = true
              · rw [if_pos hf, if_pos hf]; exact ih.fit _ hmax
              · rw [if_neg hf, if_neg hf]; exact hrest
            · rw [if_neg hb]
              have hc := hzp h3 hb
              have h1 : ¬ fitsP p.r [] = true := fun q => hc (of_decide_eq_true q).1
              have h2 : ¬ fitsP p.r (ofB (l.take k) p.r.batch) = true := fun q => hb (hs h3 q)
              rw [if_neg h1, if_neg h2]
              exact hrest
          · rw [if_neg h3, if_neg h3]
            by_cases h5 : p.r.kind = 5
            · rw [if_pos h5, if_pos h5]
              by_cases hf : fitsP p.r (keptP (l.take k)) = true
              · rw [if_pos hf, if_pos hf]; exact ih.fit _ hmax
              · rw [if_neg hf, if_neg hf]; exact hmark
            · rw [if_neg h5, if_neg h5]; exact hrest
        · rw [if_neg h0, if_neg h0]; exact ih
    · rw [List.take_of_length_le (by omega)]
      rw [List.take_of_length_le (by omega)] at ih
      exact ih
/-- What the law asks. -/
theorem less_regF (g : GroupV) (l : List PlaceV) (hz : noneZero (sealF l) l) : Alike (regF g (lessP (sealF l) l)) (regF g l) := by
  have h := less_reg g l hz l.length
  have hk := less_kept (sealF l) l l.length
  rw [List.take_of_length_le (Nat.le_refl _)] at h hk
  unfold regF endG
  rw [hk, h.code]
  split
  · exact ⟨rfl, h.dir, h.last⟩
  · exact h

end Go.Proofs.YtimpokbcfjgdaaaGreatDoor
namespace Go.Proofs.YtimpokbcfjgdaaaGreatDoor
open Go.RowKit
open Plain

def spotE (id : Int) (p : SpotV) : EntV := ⟨p.r.key, id, (p.pos : Int), (p.len : Int), p.r.batch⟩
def spotP (id : Int) (p : SpotV) : PlaceV := ⟨id, (p.pos : Int), (p.len : Int), p.r⟩
theorem entOf_spot (id : Int) (p : SpotV) : entOf (spotP id p) = spotE id p := rfl
def zeroSp : SpotV := ⟨0, 0, zeroR⟩
def lastSp (L : List SpotV) : SpotV := L.getD (L.length - 1) zeroSp
def initSp (L : List SpotV) : List SpotV := L.take (L.length - 1)
/-- Is record i of a merged segment right, behind the one ahead? -/
def keepAt (L : List SpotV) (mk : Int) (i : Nat) : Bool := decide ((L.getD i zeroSp).r.kind = 4) && (decide ((L.getD i zeroSp).r.batch ≤ mk) && (decide (i = 0) || klt (L.getD (i - 1) zeroSp).r.key (L.getD i zeroSp).r.key))
def fitsM (L : List SpotV) : Bool := decide ((lastSp L).r.cnt = (((initSp L).length : Nat) : Int) ∧ (lastSp L).r.sum = ((crcN (cat ((initSp L).map SpotV.r)) : Nat) : Int))
def headM (id : Int) (n : Nat) (L : List SpotV) (e : Nat) : Bool := decide (e = n ∧ ¬ L = [] ∧ (lastSp L).r.kind = 5 ∧ 1 ≤ id ∧ id ≤ 100000)
def keepsM (L : List SpotV) : Bool := (List.range (L.length - 1)).all (keepAt L (lastSp L).r.batch)
def hofB (id : Int) (n : Nat) (L : List SpotV) (e : Nat) : Bool := headM id n L e && (keepsM L && fitsM L)
def hofV (id : Int) (n : Nat) (L : List SpotV) : HintV := ⟨(n : Int), (lastSp L).r.batch, (initSp L).map (spotE id)⟩
def hofL (id : Int) (n : Nat) (L : List SpotV) (e : Nat) : HintV × Bool := if hofB id n L e then (hofV id n L, true) else (zeroH, false)
def hof (id : Int) (s : ByteArray) : HintV × Bool := hofL id s.size (scanS s).1 (scanS s).2
theorem hof_no {id : Int} {n : Nat} {L : List SpotV} {e : Nat} (h : hofB id n L e = false) : hofL id n L e = (zeroH, false) := by unfold hofL; rw [h]; rfl
theorem hof_yes {id : Int} {n : Nat} {L : List SpotV} {e : Nat} (h : hofB id n L e = true) : hofL id n L e = (hofV id n L, true) := by unfold hofL; rw [h]; rfl
theorem hof_head {id : Int} {n : Nat} {L : List SpotV} {e : Nat} (h : headM id n L e = false) : hofL id n L e = (zeroH, false) := hof_no (by unfold hofB; rw [h]; rfl)
theorem keeps_no {L : List SpotV} {i : Nat} (hi : i < L.length - 1) (h : keepAt L (lastSp L).r.batch i = false) : keepsM L = false := by
  unfold keepsM
  rw [List.all_eq_false]
  exact ⟨i, by simpa using hi, by rw [h]; simp⟩
theorem keeps_yes {L : List SpotV} (h : ∀ i, i < L.length - 1 → keepAt L (lastSp L).r.batch i = true) : keepsM L = true := by
  unfold keepsM
  rw [List.all_eq_true]
  intro i hi
  exact h i (by simpa using hi)
theorem keeps_at {L : List SpotV} (h : keepsM L = true) (i : Nat) (hi : i < L.length - 1) : keepAt L (lastSp L).r.batch i = true := by
  unfold keepsM at h
  exact List.all_eq_true.1 h i (by simpa using hi)
theorem spD {L : List SpotV} {i : Nat} (h : i < L.length) : L.getD i zeroSp = L[i] := by simp [List.getD, h]

/-! ### The records of a scan are right -/
theorem rr_right (u : ByteArray) (h : (rr u).2 = true) : recOkB (rr u).1 = true := by
  rcases rr_RR u with ⟨_, h1, _⟩ | ⟨h1, _⟩
  · exact h1
  · rw [h1] at h; cases h
theorem scanF_right (s : ByteArray) (f : Nat) : ∀ p, ∀ x ∈ (scanF s f p).1, recOkB x.r = true := by
  induction f with
  | zero => intro p x hx; cases hx
  | succ f ih =>
    intro p x hx
    by_cases hp : p < s.size
    · by_cases h : (uf (s.extract p s.size)).2 = 0 ∨ (rr (uf (s.extract p s.size)).1).2 = false
      · rw [scanF_stop s _ p h] at hx; cases hx
      · have h1 : ¬ (uf (s.extract p s.size)).2 = 0 := fun q => h (.inl q)
        have h2 : (rr (uf (s.extract p s.size)).1).2 = true := by
          cases q : (rr (uf (s.extract p s.size)).1).2 with
          | true => rfl
          | false => exact absurd (.inr q) h
        rw [scanF_go s f p hp h1 h2] at hx
        rcases List.mem_cons.1 hx with rfl | hx
        · exact rr_right _ h2
        · exact ih _ x hx
    · rw [scanF_end s _ p hp] at hx; cases hx
theorem scanS_right (s : ByteArray) : ∀ x ∈ (scanS s).1, recOkB x.r = true := scanF_right s _ 0
theorem scanF_len (s : ByteArray) (f : Nat) : ∀ p, (scanF s f p).1.length ≤ f := by
  induction f with
  | zero => intro p; exact Nat.le_refl _
  | succ f ih =>
    intro p
    by_cases hp : p < s.size
    · by_cases h : (uf (s.extract p s.size)).2 = 0 ∨ (rr (uf (s.extract p s.size)).1).2 = false
      · rw [scanF_stop s _ p h]; exact Nat.zero_le _
      · have h1 : ¬ (uf (s.extract p s.size)).2 = 0 := fun q => h (.inl q)
        have h2 : (rr (uf (s.extract p s.size)).1).2 = true := by
          cases q : (rr (uf (s.extract p s.size)).1).2 with
          | true => rfl
          | false => exact absurd (.inr q) h
        rw [scanF_go s f p hp h1 h2, List.length_cons]
        have := ih (p + (uf (s.extract p s.size)).2)
        omega
    · rw [scanF_end s _ p hp]; exact Nat.zero_le _
theorem scanS_len' (s : ByteArray) : (scanS s).1.length ≤ s.size := scanF_len s _ 0
theorem rec_bd {r : RecV} (h : recOkB r = true) : r.key.size ≤ 8 ∧ r.val.size ≤ 24 ∧ 0 ≤ r.batch ∧ r.batch ≤ 1000000 ∧ r.cnt ≤ 20 := by
  have h := okN_iff.1 h
  unfold RecOkP at h
  omega

/-! ### Putting into a directory, one behind the other -/
def putAll (xs : List EntV) : List EntV := xs.foldl putE []
theorem putAll_snoc (xs : List EntV) (e : EntV) : putAll (xs ++ [e]) = putE (putAll xs) e := by unfold putAll; rw [List.foldl_append]; rfl
theorem rise_putE {xs : List EntV} (h : RiseE xs) (e : EntV) : RiseE (putE xs e) := by
  unfold putE
  refine rise_insE ?_ (fun x hx => (mem_dropE.1 hx).2)
  unfold dropE
  exact List.Pairwise.filter _ h
theorem rise_fold (xs : List EntV) : ∀ d, RiseE d → RiseE (xs.foldl putE d) := by
  induction xs with
  | nil => intro d h; exact h
  | cons x r ih => intro d h; exact ih _ (rise_putE h x)
theorem putAll_rise (xs : List EntV) : RiseE (putAll xs) := rise_fold xs [] List.Pairwise.nil
theorem putE_behind {xs : List EntV} {e : EntV} (h : ∀ x ∈ xs, klt x.key e.key = true) : putE xs e = xs ++ [e] := by
  unfold putE
  rw [dropE_self (fun x hx => klt_ne (h x hx)), insE_end _ _ (fun x hx => klt_asymm (h x hx))]
theorem putAll_take {xs : List EntV} (h : RiseE xs) : ∀ k, putAll (xs.take k) = xs.take k := by
  intro k
  induction k with
  | zero => rfl
  | succ k ih =>
    by_cases hk : k < xs.length
    · rw [List.take_succ_eq_append_getElem hk, putAll_snoc, ih]
      refine putE_behind (fun x hx => ?_)
      obtain ⟨i, hi, rfl⟩ := List.mem_iff_getElem.1 hx
      rw [List.length_take] at hi
      rw [List.getElem_take]
      exact List.pairwise_iff_getElem.1 h i k (by omega) hk (by omega)
    · rw [List.take_of_length_le (by omega)]
      rw [List.take_of_length_le (by omega)] at ih
      exact ih
theorem putAll_of {xs : List EntV} (h : RiseE xs) : putAll xs = xs := by
  have := putAll_take h xs.length
  rwa [List.take_length] at this
theorem adj_rise {xs : List EntV} (step : ∀ i, (hi : i + 1 < xs.length) → klt (xs[i]).key (xs[i + 1]).key = true) : RiseE xs := by
  have far : ∀ k i, (hi : i + k + 1 < xs.length) → klt (xs[i]).key (xs[i + k + 1]).key = true := by
    intro k
    induction k with
    | zero => intro i hi; exact step i hi
    | succ k ih => intro i hi; exact klt_trans (ih i (by omega)) (step (i + k + 1) hi)
  unfold RiseE
  rw [List.pairwise_iff_getElem]
  intro i j hi hj hij
  obtain ⟨k, rfl⟩ : ∃ k, j = i + k + 1 := ⟨j - i - 1, by omega⟩
  exact far k i hj

/-! ### Regroup of kept records and their mark -/
def maxB (l : List PlaceV) : Int := l.foldl (fun a p => max a p.r.batch) 0
theorem maxB_snoc (l : List PlaceV) (p : PlaceV) : maxB (l ++ [p]) = max (maxB l) p.r.batch := by unfold maxB; rw [List.foldl_append]; rfl
def zeroG : GroupV := ⟨[], 0, 0⟩
theorem kept_take (l : List PlaceV) (h : ∀ p ∈ l, p.r.kind = 4) : ∀ k, keptP (l.take k) = l.take k ∧ regL zeroG (l.take k) = ⟨[], maxB (l.take k), 0⟩ := by
  intro k
  induction k with
  | zero => exact ⟨rfl, rfl⟩
  | succ k ih =>
    by_cases hk : k < l.length
    · have h4 := h _ (List.getElem_mem hk)
      rw [take_snoc l k hk, keptP_snoc, regL_snoc, maxB_snoc, ih.1, ih.2]
      unfold kpStep stepG
      rw [if_neg (by rw [h4]; decide), if_pos h4, if_pos rfl, if_neg (by rw [h4]; decide), if_neg (by rw [h4]; decide)]
      exact ⟨rfl, rfl⟩
    · rw [List.take_of_length_le (by omega)]
      rw [List.take_of_length_le (by omega)] at ih
      exact ih
theorem kept_all (l : List PlaceV) (h : ∀ p ∈ l, p.r.kind = 4) : keptP l = l ∧ regL zeroG l = ⟨[], maxB l, 0⟩ := by
  have := kept_take l h l.length
  rwa [List.take_length] at this
theorem reg_merged (l : List PlaceV) (m : PlaceV) (h : ∀ p ∈ l, p.r.kind = 4) (hm : m.r.kind = 5) : regF zeroG (l ++ [m]) = if fitsP m.r l = true then fitG ⟨[], maxB l, 0⟩ l (max (maxB l) m.r.batch) else ⟨[], max (maxB l) m.r.batch, 1⟩ := by
  obtain ⟨h1, h2⟩ := kept_all l h
  unfold regF
  rw [regL_snoc, h2]
  have hk : keptP (l ++ [m]) = [] := by rw [keptP_snoc]; unfold kpStep; rw [if_pos hm]
  unfold endG
  rw [hk, if_neg (fun q => q.2 rfl)]
  unfold stepG
  rw [if_pos rfl, if_neg (by rw [hm]; decide), if_pos hm, h1]
theorem behind_put (l : List PlaceV) (h : ∀ p ∈ l, p.r.kind = 4) : ∀ d, behindP d l = (l.map entOf).foldl putE d := by
  induction l with
  | nil => intro d; rfl
  | cons p r ih =>
    intro d
    have h4 := h p List.mem_cons_self
    show behindP (putP d p) r = _
    rw [ih (fun q hq => h q (List.mem_cons_of_mem _ hq))]
    unfold putP
    rw [if_neg (by rw [h4]; decide)]
    rfl
theorem max_le {l : List PlaceV} {b : Int} (hb : 0 ≤ b) : maxB l ≤ b ↔ ∀ p ∈ l, p.r.batch ≤ b := by
  have key : ∀ (l : List PlaceV) (a : Int), l.foldl (fun a p => max a p.r.batch) a ≤ b ↔ a ≤ b ∧ ∀ p ∈ l, p.r.batch ≤ b := by
    intro l
    induction l with
    | nil => intro a; simp
    | cons q r ih =>
      intro a
      rw [List.foldl_cons, ih, List.forall_mem_cons]
      constructor
      · rintro ⟨h1, h2⟩; exact ⟨by omega, by omega, h2⟩
      · rintro ⟨h1, h2, h3⟩; exact ⟨by omega, h3⟩
  unfold maxB
  rw [key]
  exact ⟨fun h => h.2, fun h => ⟨hb, h⟩⟩
theorem last_split {L : List SpotV} (h : ¬ L = []) : L = initSp L ++ [lastSp L] := by
  have hl : 0 < L.length := List.length_pos_iff.2 h
  have h1 : L.length - 1 < L.length := by omega
  unfold initSp lastSp
  rw [spD h1, ← List.take_succ_eq_append_getElem h1, show L.length - 1 + 1 = L.length by omega, List.take_length]
theorem init_len (L : List SpotV) : (initSp L).length = L.length - 1 := by unfold initSp; rw [List.length_take]; omega
theorem init_get {L : List SpotV} {i : Nat} (hi : i < (initSp L).length) : (initSp L)[i] = L.getD i zeroSp := by
  have h := init_len L
  have e : (initSp L)[i]? = L[i]? := by unfold initSp; rw [List.getElem?_take_of_lt (by omega)]
  rw [List.getElem?_eq_getElem hi, List.getElem?_eq_getElem (by omega)] at e
  rw [spD (by omega)]
  exact Option.some.inj e
/-- All but the last are kept ones, the last is a mark. -/
def markedM (L : List SpotV) : Bool := decide ((∀ p ∈ initSp L, p.r.kind = 4) ∧ ¬ L = [] ∧ (lastSp L).r.kind = 5)
theorem keep_kind {L : List SpotV} (h : keepsM L = true) : ∀ p ∈ initSp L, p.r.kind = 4 := by
  intro p hp
  obtain ⟨i, hi, rfl⟩ := List.mem_iff_getElem.1 hp
  have hl := init_len L
  have := keeps_at h i (by omega)
  unfold keepAt at this
  rw [Bool.and_eq_true] at this
  rw [init_get hi]
  exact of_decide_eq_true this.1
theorem map_spotP (id : Int) (l : List SpotV) : (l.map (spotP id)).map PlaceV.r = l.map SpotV.r := by rw [List.map_map]; rfl
theorem map_entOf (id : Int) (l : List SpotV) : (l.map (spotP id)).map entOf = l.map (spotE id) := by rw [List.map_map]; rfl
/-- What Regroup's answer tells of a merged segment. -/
theorem group_says (id : Int) (L : List SpotV) (hr : ∀ p ∈ L, recOkB p.r = true) (hm : markedM L = true) :
    ((regF zeroG (L.map (spotP id))).code = 0 ∧ (regF zeroG (L.map (spotP id))).last = (lastSp L).r.batch ∧ (regF zeroG (L.map (spotP id))).dir = (initSp L).map (spotE id)) ↔ (keepsM L && fitsM L) = true := by
  obtain ⟨hk, hne, h5⟩ := of_decide_eq_true hm
  have hsp : L.map (spotP id) = (initSp L).map (spotP id) ++ [spotP id (lastSp L)] := by
    conv => lhs; rw [last_split hne]
    rw [List.map_append]
    rfl
  have hk4 : ∀ p ∈ (initSp L).map (spotP id), p.r.kind = 4 := fun p hp => by
    obtain ⟨q, hq, rfl⟩ := List.mem_map.1 hp
    exact hk q hq
  have hmem : lastSp L ∈ L := by
    have h : lastSp L ∈ initSp L ++ [lastSp L] := by simp
    rwa [← last_split hne] at h
  have hmb := rec_bd (hr _ hmem)
  have hfit : fitsP (spotP id (lastSp L)).r ((initSp L).map (spotP id)) = fitsM L := by
    unfold fitsP fitsM
    rw [List.length_map, map_spotP]
    rfl
  have hil := init_len L
  rw [hsp, reg_merged _ _ hk4 h5, hfit]
  have hbeh : behindP [] ((initSp L).map (spotP id)) = putAll ((initSp L).map (spotE id)) := by rw [behind_put _ hk4, map_entOf]; rfl
  have hbat : (spotP id (lastSp L)).r.batch = (lastSp L).r.batch := rfl
  have hmx : max (maxB ((initSp L).map (spotP id))) (lastSp L).r.batch = (lastSp L).r.batch ↔ ∀ p ∈ initSp L, p.r.batch ≤ (lastSp L).r.batch := by
    have h1 := max_le (l := (initSp L).map (spotP id)) hmb.2.2.1
    constructor
    · intro h p hp
      exact h1.1 (by omega) (spotP id p) (List.mem_map.2 ⟨p, hp, rfl⟩)
    · intro h
      have := h1.2 (fun q hq => by
        obtain ⟨p, hp, rfl⟩ := List.mem_map.1 hq
        exact h p hp)
      omega
  have hadj : RiseE ((initSp L).map (spotE id)) ↔ ∀ i, i + 1 < (initSp L).length → klt (L.getD i zeroSp).r.key (L.getD (i + 1) zeroSp).r.key = true := by
    constructor
    · intro h i hi
      have h2 := List.pairwise_iff_getElem.1 h i (i + 1) (by rw [List.length_map]; omega) (by rw [List.length_map]; exact hi) (by omega)
      rw [List.getElem_map, List.getElem_map, init_get (by omega), init_get hi] at h2
      exact h2
    · intro h
      refine adj_rise (fun i hi => ?_)
      rw [List.length_map] at hi
      rw [List.getElem_map, List.getElem_map, init_get (by omega), init_get hi]
      exact h i hi
  have hkp : keepsM L = true ↔ (∀ p ∈ initSp L, p.r.batch ≤ (lastSp L).r.batch) ∧ RiseE ((initSp L).map (spotE id)) := by
    rw [hadj]
    constructor
    · intro h
      refine ⟨fun p hp => ?_, fun i hi => ?_⟩
      · obtain ⟨i, hi, rfl⟩ := List.mem_iff_getElem.1 hp
        have := keeps_at h i (by omega)
        unfold keepAt at this
        rw [Bool.and_eq_true, Bool.and_eq_true] at this
        rw [init_get hi]
        exact of_decide_eq_true this.2.1
      · have := keeps_at h (i + 1) (by omega)
        unfold keepAt at this
        rw [Bool.and_eq_true, Bool.and_eq_true, Bool.or_eq_true] at this
        rcases this.2.2 with q | q
        · simp at q
        · exact q
    · rintro ⟨h1, h2⟩
      refine keeps_yes (fun i hi => ?_)
      have hi2 : i < (initSp L).length := by omega
      have hm := List.getElem_mem hi2
      have e := init_get hi2
      unfold keepAt
      rw [Bool.and_eq_true, Bool.and_eq_true, Bool.or_eq_true, ← e]
      refine ⟨decide_eq_true (hk _ hm), decide_eq_true (h1 _ hm), ?_⟩
      by_cases h0 : i = 0
      · exact .inl (decide_eq_true h0)
      · refine .inr ?_
        have := h2 (i - 1) (by omega)
        rw [show i - 1 + 1 = i by omega, ← e] at this
        exact this
  cases hf : fitsM L with
  | false =>
    rw [if_neg (by simp)]
    constructor
    · rintro ⟨h1, _⟩; cases h1
    · intro h; rw [Bool.and_false] at h; cases h
  | true =>
    rw [if_pos rfl, Bool.and_true, hkp]
    have hcnt : (initSp L).length ≤ 20 := by
      have h := of_decide_eq_true (show fitsM L = true from hf)
      omega
    unfold fitG
    simp only [hbeh, hbat]
    constructor
    · rintro ⟨h1, h2, h3⟩
      exact ⟨hmx.1 h2, by rw [← h3]; exact putAll_rise _⟩
    · rintro ⟨h1, h2⟩
      rw [putAll_of h2, if_neg (by rw [List.length_map]; omega)]
      exact ⟨rfl, hmx.2 h1, rfl⟩

end Go.Proofs.YtimpokbcfjgdaaaGreatDoor
namespace Go.Proofs.YtimpokbcfjgdaaaGreatDoor
open Go.RowKit
open Plain

/-- Block B holds a hint of the law's own; its entries lie in a row from block lo on, ahead of B; what was there in w is untouched. -/
structure HOwn (w : World) (lo B : Nat) (x m : Int) (a : Option Addr) (n cap : Nat) (zs : List EntV) (W : World) : Prop where
  row : W.heap[B]? = some (.cells #[.int .i64 x, .int .i64 m, .slice a n cap] 26 (0, 0))
  own : entSh.Own 71 W lo (.slice a n cap) zs
  top : ∀ g, (Value.slice a n cap).ownBlock = some g → g < B
  bel : Below w.heap.size w W
  low : w.heap.size ≤ lo
  pos : w.heap.size ≤ B
theorem HOwn.later {w : World} {lo B : Nat} {x m : Int} {a : Option Addr} {n cap : Nat} {zs : List EntV} {W W' : World} (h : HOwn w lo B x m a n cap zs W) (hb : Below W.heap.size W W') : HOwn w lo B x m a n cap zs W' :=
  ⟨(hb.block _ (lt_of_block h.row)).trans h.row, h.own.later hb (Nat.le_refl _), h.top, h.bel.trans (hb.mono h.bel.size), h.low, h.pos⟩
theorem HOwn.new {w W : World} {lo : Nat} (x m : Int) {a : Option Addr} {n cap : Nat} {zs : List EntV} (h : entSh.Own 71 W lo (.slice a n cap) zs) (hb : Below w.heap.size w W) (hl : w.heap.size ≤ lo) : HOwn w lo W.heap.size x m a n cap zs (W.alloc (.cells #[.int .i64 x, .int .i64 m, .slice a n cap] 26)) :=
  ⟨heap_alloc_new W _, h.later (al1 W _) (Nat.le_refl _), fun g hg => (h.blk g hg).2, hb.alloc hb.size _, hl, hb.size⟩
/-- Another row is written, behind this hint. -/
theorem HOwn.other {w : World} {lo B : Nat} {x m : Int} {a : Option Addr} {n cap : Nat} {zs : List EntV} {W W' : World} {r : Option Nat} (h : HOwn w lo B x m a n cap zs W) (hg : W.grownBy W' r) (hr : ∀ g, r = some g → B < g) : HOwn w lo B x m a n cap zs W' := by
  have hB := lt_of_block h.row
  have hp := h.pos
  refine ⟨(hg.block _ hB (fun e => by have := hr _ e.symm; omega)).trans h.row, ⟨h.own.1, ?_⟩, h.top, h.bel.grown hg h.bel.size (fun g e => by have h1 := hr g e; omega), h.low, h.pos⟩
  rcases h.own.2 with h1 | ⟨g, c, cur, e, hbg, hg1, h2⟩
  · exact .inl h1
  · have ht := h.top g (by rw [e]; rfl)
    exact .inr ⟨g, c, cur, e, hbg, (hg.block g (lt_of_block hg1) (fun e2 => by have := hr g e2.symm; omega)).trans hg1, h2⟩
theorem HOwn.written {w : World} {lo B : Nat} {x m : Int} {a : Option Addr} {n cap : Nat} {zs ys : List EntV} {W W' : World} (h : HOwn w lo B x m a n cap zs W) (hg : W.grownBy W' (Value.slice a n cap).ownBlock) (ho : entSh.Own 71 W' lo (.slice a n cap) ys) : HOwn w lo B x m a n cap ys W' := by
  refine ⟨(hg.block _ (lt_of_block h.row) (fun e => by have := h.top _ e.symm; omega)).trans h.row, ho, h.top, h.bel.grown hg h.bel.size (fun g e => Nat.le_trans h.low (h.own.blk g e).1), h.low, h.pos⟩
theorem HOwn.cells {w : World} {lo B : Nat} {x m : Int} {a : Option Addr} {n cap : Nat} {zs : List EntV} {W : World} (h : HOwn w lo B x m a n cap zs W) : W.cell? ⟨B, 0, none⟩ = some (.int .i64 x) ∧ W.cell? ⟨B, 1, none⟩ = some (.int .i64 m) ∧ W.cell? ⟨B, 2, none⟩ = some (.slice a n cap) := by
  obtain ⟨h1, h2, h3, -⟩ := cells3h h.row
  exact ⟨h1, h2, h3⟩

end Go.Proofs.YtimpokbcfjgdaaaGreatDoor
namespace Go.Proofs.YtimpokbcfjgdaaaGreatDoor
open Go.RowKit
open Plain

attribute [local go_sem] ent_neq ent_guard

set_option maxRecDepth 100000 in
set_option maxHeartbeats 4000000 in
theorem specSameDir_any (w : World) (a b : Option Addr) (n m cap cap' : Nat) (fs gs : List EntV) (ha : entSh.Row w a n fs) (hb : entSh.Row w b m gs) (hn : n ≤ 1099511627776) (hm : m ≤ 1099511627776) :
    Calls Tryz.prog 11 #[.slice a n cap, .slice b m cap'] w fun e w' => e = .returned (.bool (sameE fs gs)) ∧ Below w.heap.size w w' := by
  have hfn := ha.len
  have hgm := hb.len
  have HA := hide ha
  have HG := hide hb
  clear ha hb
  by_cases hnm : n = m
  · subst hnm
    go_enter Tryz.func11, Tryz.ntmps11
    go_wp2
    go_loopw [5] (fun i wr => ∃ k : Nat, k ≤ n ∧ i = .int .i64 k ∧ Hid (fs.take k = gs.take k) ∧ Hid (Below w.heap.size w wr)) (fun i _ => n - (intOf i).toNat)
    case atStart => exact ⟨0, by omega, rfl, hide (by simp), hide (Below.refl _ _)⟩
    case round =>
      obtain ⟨k, hk, rfl, HE, HB⟩ := hrel
      by_cases hlt : k < n
      · have h1 : k < fs.length := by omega
        have h2 : k < gs.length := by omega
        obtain ⟨b1, o1, rfl, hb1, e0, e1, e2, e3, e4⟩ := ent_cells (HA.out.later HB.out) k h1
        obtain ⟨b2, o2, rfl, hb2, g0, g1, g2, g3, g4⟩ := ent_cells (HG.out.later HB.out) k h2
        have hk2 : (k : Int) < (n : Int) := by omega
        have HE2 : Hid (fs.take (k + 1) = gs.take (k + 1) ↔ fs[k] = gs[k]) := hide (by
          rw [List.take_succ_eq_append_getElem h1, List.take_succ_eq_append_getElem h2, HE.out]
          constructor
          · intro h
            simpa using List.append_cancel_left h
          · intro h
            rw [h])
        obtain ⟨z, hz⟩ : ∃ z, fs[k] = z := ⟨_, rfl⟩
        obtain ⟨y, hy⟩ : ∃ y, gs[k] = y := ⟨_, rfl⟩
        rw [hz] at e0 e1 e2 e3 e4 HE2
        rw [hy] at g0 g1 g2 g3 g4 HE2
        have hne := ent_neq z y
        clear hz hy
        cases hxy : eqE z y with
        | true =>
          have HE3 := hide (HE2.out.2 ((eqE_iff _ _).1 hxy))
          clear HE2 HE
          go_wp2
          go_region
          go_wp2
          go_roundw
          case rel => exact ⟨k + 1, by omega, by go_num, HE3, hide HB.out.drew⟩
          case measure => first | (simp [intOf]; done) | (simp [intOf]; omega)
        | false =>
          have HF := hide (sameE_no (fs := fs) (gs := gs) (fun h => by
            have := HE2.out.1 (by rw [h])
            rw [(eqE_iff z y).2 this] at hxy
            cases hxy))
          clear HE2 HE
          go_wp2
          go_region
          go_wp2
          go_ret
          exact ⟨by rw [HF.out]; rfl, HB.out.drew⟩
      · obtain rfl : k = n := by omega
        have HV : Hid (sameE fs gs = true) := hide ((sameE_iff _ _).2 (by
          have h := HE.out
          rw [List.take_of_length_le (by omega), List.take_of_length_le (by omega)] at h
          exact h))
        clear HE
        go_wp2
        go_ret
        exact ⟨by rw [HV.out]; rfl, HB.out⟩
  · have HF := hide (sameE_no (fs := fs) (gs := gs) (fun h => hnm (by rw [← hfn, ← hgm, h])))
    have t0 : ((n : Int) != (m : Int)) = true := by simp; omega
    go_enter Tryz.func11, Tryz.ntmps11
    go_wp2
    go_ret
    exact ⟨by rw [HF.out]; rfl, Below.refl _ _⟩

/-- Is the answer of HintOf this hint? -/
def fitsB (q : HintV × Bool) (h : HintV) : Bool := q.2 && (decide (q.1.size = h.size) && (decide (q.1.mark = h.mark) && sameE q.1.list h.list))

end Go.Proofs.YtimpokbcfjgdaaaGreatDoor
namespace Go.Proofs
open Go.Shelf
def Tryz.laysKeys_ren : Go.Shelf.Ren := ⟨fun | 7 => 133 | 10 => 142 | n => n, fun | 23 => 179 | 26 => 3 | 3 => 71 | 28 => 190 | 0 => 0 | 27 => 189 | 33 => 85 | 4 => 4 | n => n, fun | n => n⟩
theorem Tryz.laysKeys : Go.Proofs.SlLaysZI.n7 Tryz.prog Tryz.laysKeys_ren := {
  mixed := by kernel_rfl
  f7 := ⟨Tryz.f133.name, by decide, Tryz.func133.trans (congrArg some (by kernel_rfl))⟩
  f10 := ⟨Tryz.f142.name, by decide, Tryz.func142.trans (congrArg some (by kernel_rfl))⟩
  t0 := Tryz.underlying0
  a0 := Tryz.isAgg0
  z0 := Tryz.sizeOf0
  v0 := Tryz.zeroValue0
  t4 := Tryz.underlying4
  a4 := Tryz.isAgg4
  z4 := Tryz.sizeOf4
  v4 := Tryz.zeroValue4
  t23 := Tryz.underlying179
  a23 := Tryz.isAgg179
  z23 := Tryz.sizeOf179
  v23 := Tryz.zeroValue179
  t26 := Tryz.underlying3
  a26 := Tryz.isAgg3
  z26 := Tryz.sizeOf3
  v26 := Tryz.zeroValue3
  t27 := Tryz.underlying189
  a27 := Tryz.isAgg189
  z27 := Tryz.sizeOf189
  v27 := Tryz.zeroValue189
  t28 := Tryz.underlying190
  a28 := Tryz.isAgg190
  z28 := Tryz.sizeOf190
  v28 := Tryz.zeroValue190
  t33 := Tryz.underlying85
  a33 := Tryz.isAgg85
  z33 := Tryz.sizeOf85
  v33 := Tryz.zeroValue85 }
def Tryz.laysSorted_ren : Go.Shelf.Ren := ⟨fun | 6 => 132 | 8 => 140 | 9 => 141 | 11 => 147 | 13 => 149 | 12 => 148 | 23 => 160 | 24 => 161 | 14 => 151 | 15 => 152 | 16 => 153 | 17 => 154 | 18 => 155 | 19 => 156 | 20 => 157 | 21 => 158 | 22 => 159 | 25 => 162 | 26 => 163 | 27 => 164 | 28 => 165 | 29 => 166 | 30 => 167 | 31 => 168 | n => n, fun | 26 => 3 | 28 => 190 | 24 => 84 | 0 => 0 | 3 => 3 | 37 => 108 | 48 => 109 | 50 => 222 | 4 => 4 | 40 => 214 | 39 => 213 | 45 => 112 | 5 => 5 | 9 => 9 | 51 => 223 | 55 => 227 | 57 => 229 | 58 => 136 | 33 => 85 | n => n, fun | n => n⟩
theorem Tryz.laysSorted : Go.Proofs.SlLaysZI.n6 Tryz.prog Tryz.laysSorted_ren := {
  mixed := by kernel_rfl
  f6 := ⟨Tryz.f132.name, by decide, Tryz.func132.trans (congrArg some (by kernel_rfl))⟩
  f8 := ⟨Tryz.f140.name, by decide, Tryz.func140.trans (congrArg some (by kernel_rfl))⟩
  f11 := ⟨Tryz.f147.name, by decide, Tryz.func147.trans (congrArg some (by kernel_rfl))⟩
  t0 := Tryz.underlying0
  a0 := Tryz.isAgg0
  z0 := Tryz.sizeOf0
  v0 := Tryz.zeroValue0
  t24 := Tryz.underlying84
  a24 := Tryz.isAgg84
  z24 := Tryz.sizeOf84
  v24 := Tryz.zeroValue84
  t26 := Tryz.underlying3
  a26 := Tryz.isAgg3
  z26 := Tryz.sizeOf3
  v26 := Tryz.zeroValue3
  t28 := Tryz.underlying190
  a28 := Tryz.isAgg190
  z28 := Tryz.sizeOf190
  v28 := Tryz.zeroValue190
  i26 := by kernel_rfl }
def Tryz.laysSort_ren : Go.Shelf.Ren := ⟨fun | 5 => 141 | 8 => 149 | 7 => 148 | 19 => 160 | 20 => 161 | 10 => 151 | 11 => 152 | 12 => 153 | 13 => 154 | 14 => 155 | 15 => 156 | 16 => 157 | 17 => 158 | 18 => 159 | 30 => 162 | 31 => 163 | 32 => 164 | 33 => 165 | 34 => 166 | 35 => 167 | 40 => 168 | n => n, fun | 23 => 84 | 25 => 3 | 3 => 3 | 32 => 108 | 22 => 84 | 0 => 0 | 44 => 109 | 46 => 222 | 4 => 4 | 36 => 214 | 35 => 213 | 41 => 112 | 5 => 5 | 9 => 9 | 53 => 223 | 57 => 227 | 63 => 229 | 64 => 136 | n => n, fun | n => n⟩
theorem Tryz.laysSort : Go.Proofs.SlLaysM.n5 Tryz.prog Tryz.laysSort_ren := {
  mixed := by kernel_rfl
  f5 := ⟨Tryz.f141.name, by decide, Tryz.func141.trans (congrArg some (by kernel_rfl))⟩
  f7 := ⟨Tryz.f148.name, by decide, Tryz.func148.trans (congrArg some (by kernel_rfl))⟩
  f8 := Tryz.func149.trans (congrArg some (by kernel_rfl))
  f10 := ⟨Tryz.f151.name, by decide, Tryz.func151.trans (congrArg some (by kernel_rfl))⟩
  f11 := ⟨Tryz.f152.name, by decide, Tryz.func152.trans (congrArg some (by kernel_rfl))⟩
  f12 := ⟨Tryz.f153.name, by decide, Tryz.func153.trans (congrArg some (by kernel_rfl))⟩
  f13 := ⟨Tryz.f154.name, by decide, Tryz.func154.trans (congrArg some (by kernel_rfl))⟩
  f14 := ⟨Tryz.f155.name, by decide, Tryz.func155.trans (congrArg some (by kernel_rfl))⟩
  f15 := ⟨Tryz.f156.name, by decide, Tryz.func156.trans (congrArg some (by kernel_rfl))⟩
  f16 := ⟨Tryz.f157.name, by decide, Tryz.func157.trans (congrArg some (by kernel_rfl))⟩
  f17 := ⟨Tryz.f158.name, by decide, Tryz.func158.trans (congrArg some (by kernel_rfl))⟩
  f18 := ⟨Tryz.f159.name, by decide, Tryz.func159.trans (congrArg some (by kernel_rfl))⟩
  f19 := Tryz.func160.trans (congrArg some (by kernel_rfl))
  f20 := Tryz.func161.trans (congrArg some (by kernel_rfl))
  f30 := ⟨Tryz.f162.name, by decide, Tryz.func162.trans (congrArg some (by kernel_rfl))⟩
  f31 := Tryz.func163.trans (congrArg some (by kernel_rfl))
  f32 := Tryz.func164.trans (congrArg some (by kernel_rfl))
  f33 := ⟨Tryz.f165.name, by decide, Tryz.func165.trans (congrArg some (by kernel_rfl))⟩
  f34 := ⟨Tryz.f166.name, by decide, Tryz.func166.trans (congrArg some (by kernel_rfl))⟩
  f35 := ⟨Tryz.f167.name, by decide, Tryz.func167.trans (congrArg some (by kernel_rfl))⟩
  f40 := ⟨Tryz.f168.name, by decide, Tryz.func168.trans (congrArg some (by kernel_rfl))⟩
  t0 := Tryz.underlying0
  a0 := Tryz.isAgg0
  z0 := Tryz.sizeOf0
  v0 := Tryz.zeroValue0
  t3 := Tryz.underlying3
  a3 := Tryz.isAgg3
  z3 := Tryz.sizeOf3
  v3 := Tryz.zeroValue3
  t4 := Tryz.underlying4
  a4 := Tryz.isAgg4
  z4 := Tryz.sizeOf4
  v4 := Tryz.zeroValue4
  t5 := Tryz.underlying5
  a5 := Tryz.isAgg5
  z5 := Tryz.sizeOf5
  v5 := Tryz.zeroValue5
  t9 := Tryz.underlying9
  a9 := Tryz.isAgg9
  z9 := Tryz.sizeOf9
  v9 := Tryz.zeroValue9
  t22 := Tryz.underlying84
  a22 := Tryz.isAgg84
  z22 := Tryz.sizeOf84
  v22 := Tryz.zeroValue84
  t23 := Tryz.underlying84
  a23 := Tryz.isAgg84
  z23 := Tryz.sizeOf84
  v23 := Tryz.zeroValue84
  t25 := Tryz.underlying3
  a25 := Tryz.isAgg3
  z25 := Tryz.sizeOf3
  v25 := Tryz.zeroValue3
  t32 := Tryz.underlying108
  a32 := Tryz.isAgg108
  z32 := Tryz.sizeOf108
  v32 := Tryz.zeroValue108
  t35 := Tryz.underlying213
  a35 := Tryz.isAgg213
  z35 := Tryz.sizeOf213
  v35 := Tryz.zeroValue213
  t36 := Tryz.underlying214
  a36 := Tryz.isAgg214
  z36 := Tryz.sizeOf214
  v36 := Tryz.zeroValue214
  t41 := Tryz.underlying112
  a41 := Tryz.isAgg112
  z41 := Tryz.sizeOf112
  v41 := Tryz.zeroValue112
  t44 := Tryz.underlying109
  a44 := Tryz.isAgg109
  z44 := Tryz.sizeOf109
  v44 := Tryz.zeroValue109
  t46 := Tryz.underlying222
  a46 := Tryz.isAgg222
  z46 := Tryz.sizeOf222
  v46 := Tryz.zeroValue222
  t53 := Tryz.underlying223
  a53 := Tryz.isAgg223
  z53 := Tryz.sizeOf223
  v53 := Tryz.zeroValue223
  t57 := Tryz.underlying227
  a57 := Tryz.isAgg227
  z57 := Tryz.sizeOf227
  v57 := Tryz.zeroValue227
  t63 := Tryz.underlying229
  a63 := Tryz.isAgg229
  z63 := Tryz.sizeOf229
  v63 := Tryz.zeroValue229
  t64 := Tryz.underlying136
  a64 := Tryz.isAgg136
  z64 := Tryz.sizeOf136
  v64 := Tryz.zeroValue136 }
def Tryz.laysIdx_ren : Go.Shelf.Ren := ⟨fun | 6 => 124 | n => n, fun | 22 => 24 | 23 => 71 | 25 => 165 | 3 => 3 | 0 => 0 | 4 => 4 | n => n, fun | n => n⟩
theorem Tryz.laysIdx : Go.Proofs.SlLaysH0.n6 Tryz.prog Tryz.laysIdx_ren := {
  mixed := by kernel_rfl
  f6 := ⟨Tryz.f124.name, by decide, Tryz.func124.trans (congrArg some (by kernel_rfl))⟩
  t0 := Tryz.underlying0
  a0 := Tryz.isAgg0
  z0 := Tryz.sizeOf0
  v0 := Tryz.zeroValue0
  t3 := Tryz.underlying3
  a3 := Tryz.isAgg3
  z3 := Tryz.sizeOf3
  v3 := Tryz.zeroValue3
  t4 := Tryz.underlying4
  a4 := Tryz.isAgg4
  z4 := Tryz.sizeOf4
  v4 := Tryz.zeroValue4
  t22 := Tryz.underlying24
  a22 := Tryz.isAgg24
  z22 := Tryz.sizeOf24
  v22 := Tryz.zeroValue24
  t25 := Tryz.underlying165
  a25 := Tryz.isAgg165
  z25 := Tryz.sizeOf165
  v25 := Tryz.zeroValue165 }
def Tryz.laysIdxS_ren : Go.Shelf.Ren := ⟨fun | 6 => 82 | n => n, fun | 22 => 37 | 23 => 43 | 25 => 127 | 3 => 3 | 0 => 0 | 4 => 4 | n => n, fun | n => n⟩
theorem Tryz.laysIdxS : Go.Proofs.SlLaysH0.n6 Tryz.prog Tryz.laysIdxS_ren := {
  mixed := by kernel_rfl
  f6 := ⟨Tryz.f82.name, by decide, Tryz.func82.trans (congrArg some (by kernel_rfl))⟩
  t0 := Tryz.underlying0
  a0 := Tryz.isAgg0
  z0 := Tryz.sizeOf0
  v0 := Tryz.zeroValue0
  t3 := Tryz.underlying3
  a3 := Tryz.isAgg3
  z3 := Tryz.sizeOf3
  v3 := Tryz.zeroValue3
  t4 := Tryz.underlying4
  a4 := Tryz.isAgg4
  z4 := Tryz.sizeOf4
  v4 := Tryz.zeroValue4
  t22 := Tryz.underlying37
  a22 := Tryz.isAgg37
  z22 := Tryz.sizeOf37
  v22 := Tryz.zeroValue37
  t25 := Tryz.underlying127
  a25 := Tryz.isAgg127
  z25 := Tryz.sizeOf127
  v25 := Tryz.zeroValue127 }
def Tryz.laysClone_ren : Go.Shelf.Ren := ⟨fun | 41 => 85 | n => n, fun | 22 => 24 | 23 => 71 | 4 => 4 | n => n, fun | n => n⟩
theorem Tryz.laysClone : Go.Proofs.SlLaysE0.n41 Tryz.prog Tryz.laysClone_ren := {
  mixed := by kernel_rfl
  f41 := ⟨Tryz.f85.name, by decide, Tryz.func85.trans (congrArg some (by kernel_rfl))⟩
  t4 := Tryz.underlying4
  a4 := Tryz.isAgg4
  z4 := Tryz.sizeOf4
  v4 := Tryz.zeroValue4
  t22 := Tryz.underlying24
  a22 := Tryz.isAgg24
  z22 := Tryz.sizeOf24
  v22 := Tryz.zeroValue24 }
end Go.Proofs
namespace Go.Proofs.YtimpokbcfjgdaaaGreatDoor
open Go.RowKit Go.Shelf Go.Lib
open Plain

/-- Where the first one stands of which p holds, or -1. -/
theorem idxFrom_is {α : Type} (p : α → Bool) (x : α) : ∀ (l : List α) (i : Nat), (idxByFrom (fun _ y => p y) x l i = -1 ∧ ∀ y, y ∈ l → p y = false) ∨ ∃ k, ∃ h : k < l.length, idxByFrom (fun _ y => p y) x l i = ((i + k : Nat) : Int) ∧ p (l[k]) = true ∧ ∀ y, y ∈ l.take k → p y = false
  | [], i => .inl ⟨rfl, fun y h => by simp at h⟩
  | z :: l, i => by
    by_cases hz : p z = true
    · refine .inr ⟨0, by simp, ?_, hz, fun y h => by simp at h⟩
      rw [idxByFrom, if_pos hz, Nat.add_zero]
    · have hz' : p z = false := by simpa using hz
      have e : idxByFrom (fun _ y => p y) x (z :: l) i = idxByFrom (fun _ y => p y) x l (i + 1) := by rw [idxByFrom, if_neg hz]
      rcases idxFrom_is p x l (i + 1) with ⟨h1, h2⟩ | ⟨k, hk, h1, h2, h3⟩
      · refine .inl ⟨by rw [e, h1], fun y hy => ?_⟩
        rcases List.mem_cons.1 hy with rfl | hy
        · exact hz'
        · exact h2 y hy
      · refine .inr ⟨k + 1, by simpa using hk, by rw [e, h1]; congr 1; omega, by simpa using h2, fun y hy => ?_⟩
        rw [List.take_succ_cons] at hy
        rcases List.mem_cons.1 hy with rfl | hy
        · exact hz'
        · exact h3 y hy

/-- slices.IndexFunc at a row of entries. -/
theorem idx_any (p : EntV → Bool) (g : Nat) (lb : Array Value) (eg : ∀ args w, (callFunc g args).run Tryz.prog w = .ok (.enter g args) w) (b off n c : Nat) (xs : List EntV) (w : World) (hr : entSh.Row w (some ⟨b, off, none⟩) n xs) (hb : b < w.heap.size) (hn : n ≤ 9223372036854775807)
    (hp : PredBelow Tryz.prog g lb (fun x => .agg (entSh.cells x).toArray) p w) :
    Calls Tryz.prog 124 #[.slice (some ⟨b, off, none⟩) n c, .func (.func g) #[] lb] w fun e w' => (∃ r : Int, e = .returned (.int .i64 r) ∧ ((r = -1 ∧ ∀ y, y ∈ xs → p y = false) ∨ ∃ k, ∃ h : k < xs.length, r = (k : Int) ∧ p (xs[k]) = true ∧ ∀ y, y ∈ xs.take k → p y = false)) ∧ Below w.heap.size w w' := by
  letI : Inhabited EntV := ⟨zeroE⟩
  have hcon := AnyQ.slices_IndexFunc Tryz.laysIdx 5 Tryz.isAgg71 Tryz.sizeOf71 entSh.cells (fun _ => rfl) p g lb eg b off n c xs w hp (by rw [hr.len]; exact Nat.le_refl _) hn hb (fun j hj i v hi => by
    obtain ⟨b', off', q0, -, h3⟩ := hr.cells j hj
    simp only [Option.some.injEq, Addr.mk.injEq] at q0
    obtain ⟨rfl, rfl, -⟩ := q0
    have e : xs[j]! = xs[j] := by simp [hj]
    rw [e] at hi
    have hi5 : i < 5 := by
      have := (List.getElem?_eq_some_iff.1 hi).1
      rw [entSh.len] at this
      exact this
    exact (h3 i hi5).trans hi)
  change Calls Tryz.prog 124 _ _ _ at hcon
  refine hcon.mono ?_
  rintro e w' ⟨rfl, hb'⟩
  refine ⟨⟨_, rfl, ?_⟩, hb'⟩
  rw [List.take_of_length_le (by rw [hr.len]; exact Nat.le_refl _)]
  unfold idxBy
  rcases idxFrom_is p default xs 0 with ⟨h1, h2⟩ | ⟨k, hk, h1, h2, h3⟩
  · exact .inl ⟨h1, h2⟩
  · exact .inr ⟨k, hk, by rw [h1, Nat.zero_add], h2, h3⟩

end Go.Proofs.YtimpokbcfjgdaaaGreatDoor
