/-
  spec.l7Live and spec.l7Any: a list of segments that is drawn.
-/
import Derived.Test.YthnealhaleccpaaGreatDoorG06
import Derived.Test.YthnealhaleccpaaGreatDoorG08
import Derived.Test.YthnealhaleccpaaGreatDoorMTakeLive
namespace Go.Proofs.YthnealhaleccpaaGreatDoor
open Go.RowKit Go.Maps
open Plain

theorem IOwn.grownB {w w' : World} {base B : Nat} {v : Value} {zs : List Int} (h : IOwn w base v zs) (hg : w.grownBy w' (some B)) (hB : B < base) : IOwn w' base v zs := by
  refine World.ownsRow.kept h hg ?_
  cases e : v.ownBlock with
  | none => exact .inl rfl
  | some g => exact .inr (fun q => by injection q with q; have := (h.blk g e).1; omega)
theorem IOwn.setNe {w : World} {base : Nat} {v : Value} {zs : List Int} (h : IOwn w base v zs) (p : Addr) (u : Value) (hp : v.ownBlock ≠ some p.block) : IOwn (w.setCell p u) base v zs := by
  refine ⟨h.1, ?_⟩
  rcases h.2 with h | ⟨g, c, cur, e, hbg, hg, h1⟩
  · exact .inl h
  · refine .inr ⟨g, c, cur, e, hbg, ?_, h1⟩
    rw [Below.heap_setCell w p u g (by intro q; apply hp; rw [e, ← q]; rfl)]
    exact hg
theorem IOwn.blkNe {w : World} {base : Nat} {v : Value} {zs : List Int} (h : IOwn w base v zs) {b : Nat} {cs : Array Value} {t : TypeId} (hb : w.heap[b]? = some (.cells cs t (0, 0))) (ht : t ≠ 3) : v.ownBlock ≠ some b := by
  intro e
  rcases h.2 with ⟨rfl, _⟩ | ⟨g, c, cur, rfl, _, hg, _⟩
  · cases e
  · simp only [Value.ownBlock, Option.some.injEq] at e
    subst e
    rw [hg] at hb
    simp only [Option.some.injEq, Obj.cells.injEq] at hb
    exact ht hb.2.1.symm

/-- A list under way in block V, its numbers in a row of the call's own, the answer's block at the call's first. -/
structure LMid (w wr : World) (B : Nat) (a : Option Addr) (len cap : Nat) (zs : List Int) (V : Nat) (x : Int) (a' : Option Addr) (k cap' : Nat) (ts : List Int) : Prop where
  cur : CurX wr B a len cap zs
  gro : w.grownBy wr (some B)
  res : wr.heap[w.heap.size]? = some (.cells #[.int .i64 0, .slice none 0 0] 26 (0, 0))
  row : wr.heap[V]? = some (.cells #[.int .i64 x, .slice a' k cap'] 26 (0, 0))
  own : IOwn wr (w.heap.size + 1) (.slice a' k cap') ts
  lo : w.heap.size < V
  hB : B < w.heap.size
section
variable {w wr wr' : World} {B : Nat} {a : Option Addr} {len cap : Nat} {zs : List Int} {V : Nat} {x : Int} {a' : Option Addr} {k cap' : Nat} {ts : List Int}
theorem LMid.grown (h : LMid w wr B a len cap zs V x a' k cap' ts) (hg : wr.grownBy wr' (some B)) (hc : CurX wr' B a len cap zs) : LMid w wr' B a len cap zs V x a' k cap' ts where
  cur := hc
  gro := grown_trans h.gro hg
  res := (hg.block _ (lt_of_block h.res) (fun e => by injection e with e; have := h.hB; omega)).trans h.res
  row := (hg.block _ (lt_of_block h.row) (fun e => by injection e with e; have := h.hB; have := h.lo; omega)).trans h.row
  own := h.own.grownB hg (by have := h.hB; omega)
  lo := h.lo
  hB := h.hB
theorem LMid.later (h : LMid w wr B a len cap zs V x a' k cap' ts) (hb : Below wr.heap.size wr wr') : LMid w wr' B a len cap zs V x a' k cap' ts :=
  h.grown (below_grown (some B) hb) (h.cur.below hb h.cur.lt)
theorem LMid.num (h : LMid w wr B a len cap zs V x a' k cap' ts) (y : Int) : LMid w (wr.setCell ⟨V, 0, none⟩ (.int .i64 y)) B a len cap zs V y a' k cap' ts where
  cur := h.cur.set _ _ (by have := h.hB; have := h.lo; dsimp only; omega)
  gro := grown_setA h.gro _ (by have := h.lo; dsimp only; omega) _
  res := by rw [Below.heap_setCell _ _ _ _ (by have := h.lo; dsimp only; omega)]; exact h.res
  row := by rw [setCell_eq_setRow wr V 0 _ _ _ _ h.row]; exact setRow_heap wr V _ _ _ _ h.row
  own := h.own.setNe _ _ (h.own.blkNe h.row (by decide))
  lo := h.lo
  hB := h.hB
theorem LMid.emptied (h : LMid w wr B a len cap zs V x a' k cap' ts) : LMid w (wr.setCell ⟨V, 1, none⟩ (.slice none 0 0)) B a len cap zs V x none 0 0 [] where
  cur := h.cur.set _ _ (by have := h.hB; have := h.lo; dsimp only; omega)
  gro := grown_setA h.gro _ (by have := h.lo; dsimp only; omega) _
  res := by rw [Below.heap_setCell _ _ _ _ (by have := h.lo; dsimp only; omega)]; exact h.res
  row := by rw [setCell_eq_setRow wr V 1 _ _ _ _ h.row]; exact setRow_heap wr V _ _ _ _ h.row
  own := World.ownsRow_nil _ _ _ _
  lo := h.lo
  hB := h.hB
theorem LMid.app {W2 : World} {z : Int} {v' : Value} (h : LMid w wr B a len cap zs V x a' k cap' ts) (ho : W2.ownsRow (w.heap.size + 1) 3 1 v' (k + 1) (ts.map (Value.int .i64) ++ [.int .i64 z])) (hg : (wr.alloc (.cells #[.int .i64 z] 3)).grownBy W2 (Value.slice a' k cap').ownBlock) :
    (∃ a2 cap2, v' = .slice a2 (k + 1) cap2) ∧ W2.heap[V]? = some (.cells #[.int .i64 x, .slice a' k cap'] 26 (0, 0)) ∧ ∀ a2 cap2, v' = .slice a2 (k + 1) cap2 → LMid w (W2.setCell ⟨V, 1, none⟩ v') B a len cap zs V x a2 (k + 1) cap2 (ts ++ [z]) := by
  have hl := h.lo
  have hB := h.hB
  have hb : Below wr.heap.size wr (wr.alloc (.cells #[.int .i64 z] 3)) := (Below.refl _ _).alloc (Nat.le_refl _) _
  have h0 := h.later hb
  have r2 : W2.heap[V]? = some (.cells #[.int .i64 x, .slice a' k cap'] 26 (0, 0)) := (hg.block V (lt_of_block h0.row) (fun e => h0.own.blkNe h0.row (by decide) e.symm)).trans h0.row
  have hlw := lt_of_block h0.row
  have hbW : Below w.heap.size (wr.alloc (.cells #[.int .i64 z] 3)) W2 := (Below.refl _ _).grown hg (by omega) (fun g e => by have := (World.ownsRow.lt h0.own g e).1; omega)
  refine ⟨?_, r2, ?_⟩
  · rcases ho.2 with ⟨_, h0⟩ | ⟨g, c, cur, e, _⟩
    · omega
    · exact ⟨_, _, e⟩
  · rintro a2 cap2 rfl
    have hsz : (ts ++ [z]).length = k + 1 := by rw [List.length_append, h.own.len]; rfl
    have h2 : IOwn W2 (w.heap.size + 1) (.slice a2 (k + 1) cap2) (ts ++ [z]) := by
      unfold IOwn
      rw [hsz, List.map_append]
      exact ho
    exact { cur := (h0.cur.below hbW hB).set _ _ (by dsimp only; omega), gro := grown_setA (grown_below h0.gro hbW) _ (by dsimp only; omega) _, res := by
              rw [Below.heap_setCell _ _ _ _ (by dsimp only; omega)]
              exact (hg.block _ (lt_of_block h0.res) (fun e => by have := (World.ownsRow.lt h0.own _ e.symm).1; omega)).trans h0.res, row := by rw [setCell_eq_setRow W2 V 1 _ _ _ _ r2]; exact setRow_heap W2 V _ _ _ _ r2, own := h2.setNe _ _ (h2.blkNe r2 (by decide)), lo := hl, hB := hB }
/-- The answer is put into its block. -/
theorem LMid.done (h : LMid w wr B a len cap zs V x a' k cap' ts) (u v : Value) : IOwn ((wr.setCell ⟨w.heap.size, 0, none⟩ u).setCell ⟨w.heap.size, 1, none⟩ v) (w.heap.size + 1) (.slice a' k cap') ts ∧ CurX ((wr.setCell ⟨w.heap.size, 0, none⟩ u).setCell ⟨w.heap.size, 1, none⟩ v) B a len cap zs ∧ w.grownBy ((wr.setCell ⟨w.heap.size, 0, none⟩ u).setCell ⟨w.heap.size, 1, none⟩ v) (some B) := by
  have hB := h.hB
  have hn := h.own.blkNe h.res (by decide)
  exact ⟨(h.own.setNe _ _ hn).setNe _ _ hn, (h.cur.set _ _ (by dsimp only; omega)).set _ _ (by dsimp only; omega), grown_setA (grown_setA h.gro _ (by dsimp only; omega) _) _ (by dsimp only; omega) _⟩
end

set_option maxRecDepth 100000 in
set_option maxHeartbeats 4000000 in
theorem live7_any (w : World) (B : Nat) (a : Option Addr) (len cap : Nat) (zs : List Int) (hc : CurX w B a len cap zs) :
    Calls Tryz.prog 42 #[.pointer (some ⟨B, 0, none⟩)] w fun e w' => (∃ x b m capb ts, e = .returned (.agg #[.int .i64 x, .slice b m capb]) ∧ 1 ≤ m ∧ m ≤ 4 ∧ IOwn w' (w.heap.size + 1) (.slice b m capb) ts) ∧ CurX w' B a len cap zs ∧ w.grownBy w' (some B) := by
  have hB := hc.lt
  obtain ⟨W, hW⟩ : ∃ W, W = (w.alloc (.cells #[.int .i64 0, .slice none 0 0] 26)).alloc (.cells #[.int .i64 0, .slice none 0 0] 26) := ⟨_, rfl⟩
  have hA := news2 w (.cells #[.int .i64 0, .slice none 0 0] 26) (.cells #[.int .i64 0, .slice none 0 0] 26)
  rw [← hW] at hA
  have HD : Hid (LMid w W B a len cap zs (w.heap.size + 1) 0 none 0 0 []) := hide
    ⟨hc.below hA.2.1 hB, below_grown _ hA.2.1, hA.2.2.1, hA.2.2.2, World.ownsRow_nil _ _ _ _, by omega, hB⟩
  obtain ⟨st, hst⟩ := HD.out.cur
  have HST := hide hst
  clear hA hc hst
  go_enter Tryz.func42, Tryz.ntmps42
  go_wp2_with fail
  rw [← hW]
  clear hW
  refine (below_any 4 W B a len cap zs st HST.out).mono ?_
  rintro e w1 ⟨rfl, hc1, hg1⟩
  have hl := lV_bd zs 4 st (by omega)
  have HD1 := hide (HD.out.grown hg1 ⟨_, hc1⟩)
  obtain ⟨N, hN⟩ : ∃ N : Nat, (1 : Int) + lV zs 4 st = (N : Int) := ⟨(1 + lV zs 4 st).toNat, by omega⟩
  have hN1 : 1 ≤ N ∧ N ≤ 4 := by omega
  have hw1 : IntKind.i64.wrap (1 + lV zs 4 st) = (N : Int) := by rw [IntKind.wrap_i64]; omega
  clear hc1 hg1 HST HD hN hl
  generalize lV zs 4 st = z0 at *
  go_wp2
  go_loopw [4, 5] (fun y v wr => ∃ (j : Nat) (t : Int) (a' : Option Addr) (k cap' : Nat) (ts : List Int), k + j = N ∧ (0 ≤ t ∧ t ≤ 3 * (k : Int)) ∧ y = .int .i64 t ∧ v = .int .i64 j ∧ Hid (LMid w wr B a len cap zs (w.heap.size + 1) 0 a' k cap' ts)) (fun _ v _ => (intOf v).toNat)
  case atStart => exact ⟨N, 0, none, 0, 0, [], by omega, by omega, rfl, rfl, HD1⟩
  case round =>
    clear HD1
    obtain ⟨j, t, a', k, cap', ts, hkj, ht, rfl, rfl, HD⟩ := hrel
    obtain ⟨st2, hst2⟩ := HD.out.cur
    have HST := hide hst2
    clear hst2 hw1
    have hwa : IntKind.i64.wrap (t + 1) = t + 1 := by rw [IntKind.wrap_i64]; omega
    by_cases hj : 0 < j
    · go_wp2_with fail
      refine (below_any 3 wr B a len cap zs st2 HST.out).mono ?_
      rintro e w2 ⟨rfl, hc2, hg2⟩
      have hl := lV_bd zs 3 st2 (by omega)
      have HD2 := hide (HD.out.grown hg2 ⟨_, hc2⟩)
      clear hc2 hg2 HST HD
      generalize lV zs 3 st2 = z at *
      have hwb : IntKind.i64.wrap (t + 1 + z) = t + 1 + z := by rw [IntKind.wrap_i64]; omega
      have HS3 : Hid (w.heap.size + 1 ≤ w2.heap.size) := hide (lt_of_block HD2.out.res)
      have HLN := hide HD2.out.own.len
      obtain ⟨y, hy⟩ : ∃ y, t + 1 + z = y := ⟨_, rfl⟩
      have hy2 : 0 ≤ y ∧ y ≤ 3 * ((k + 1 : Nat) : Int) := by omega
      rw [hy] at hwb
      have HO3 : Hid ((w2.alloc (.cells #[.int .i64 y] 3)).ownsRow (w.heap.size + 1) 3 1 (.slice a' k cap') k (ts.map (Value.int .i64))) := hide (by
        have h := HD2.out.own.later ((Below.refl w2.heap.size w2).alloc (Nat.le_refl _) (.cells #[.int .i64 y] 3)) (Nat.le_refl _)
        unfold IOwn at h
        rw [HLN.out] at h
        exact h)
      obtain ⟨p0, p1, -, -⟩ := cells2 HD2.out.row
      have hk4 : k ≤ 4 := by omega
      clear ht hl
      go_wp2_with (at_builtin; refine wpList_app_i64 rfl (.tmp 20) (.tmp 22) rfl y HO3.out HS3.out (by omega) rfl rfl ?_; intro v' w5 ho5 hg5; have HP := hide (HD2.out.app ho5 hg5); clear ho5 hg5; obtain ⟨a2, cap2, rfl⟩ := HP.out.1; have HD6 := hide (HP.out.2.2 a2 cap2 rfl); obtain ⟨x0, x1, f0, f1⟩ := cells2 HP.out.2.1; clear HP)
      clear HO3 HS3 HLN HD2 p0 p1
      go_roundw
      case rel => exact ⟨j - 1, y, a2, k + 1, cap2, ts ++ [y], by omega, hy2, rfl, by rw [show ((j - 1 : Nat) : Int) = (j : Int) - 1 by omega], HD6⟩
      case measure => first | (simp [intOf]; done) | (simp [intOf]; omega)
    · obtain rfl : j = 0 := by omega
      go_wp2_with fail
      refine (below_any 3 wr B a len cap zs st2 HST.out).mono ?_
      rintro e w2 ⟨rfl, hc2, hg2⟩
      have hl := lV_bd zs 3 st2 (by omega)
      have HD2 := hide (HD.out.grown hg2 ⟨_, hc2⟩)
      clear hc2 hg2 HST HD
      generalize lV zs 3 st2 = z at *
      have hwb : IntKind.i64.wrap (t + 1 + z) = t + 1 + z := by rw [IntKind.wrap_i64]; omega
      obtain ⟨p0, p1, q0, q1⟩ := cells2 HD2.out.row
      obtain ⟨r0, r1, f0, f1⟩ := cells2 HD2.out.res
      have HEND := hide ((HD2.out.num (t + 1 + z)).done (.int .i64 (t + 1 + z)) (.slice a' k cap'))
      have hkN : 1 ≤ k ∧ k ≤ 4 := by omega
      go_wp2
      refine bodyPost_ret (v := .agg #[.int .i64 (t + 1 + z), .slice a' k cap']) (by simp [results, Tryz.results42, go_sem, *]) rfl ⟨⟨_, _, _, _, ts, rfl, hkN.1, hkN.2, HEND.out.1⟩, HEND.out.2⟩

end Go.Proofs.YthnealhaleccpaaGreatDoor
