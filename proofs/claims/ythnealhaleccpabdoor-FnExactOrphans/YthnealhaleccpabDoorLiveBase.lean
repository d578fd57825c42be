/-
  A list of segments in the world: the struct's block, and the laws' szLive, toLive and eqLive.
-/
import Derived.Test.YthnealhaleccpabDoorIntBase
import Derived.Test.YthnealhaleccpabDoorLiveV
import Derived.Test.YthnealhaleccpabDoorIn
import Derived.Laws.StructEq
namespace Go.Proofs.YthnealhaleccpabDoor
open Go.RowKit
open Plain

/-- Block B holds a list of segments, whose numbers lie where they may be read; what was there in w is untouched. -/
structure LvAt (w : World) (B : Nat) (T : TypeId) (x : Int) (a : Option Addr) (n cap : Nat) (zs : List Int) (W : World) : Prop where
  row : W.heap[B]? = some (.cells #[.int .i64 x, .slice a n cap] T (0, 0))
  ids : IRow W 0 a n zs
  bel : Below w.heap.size w W
theorem LvAt.later {w : World} {B : Nat} {T : TypeId} {x : Int} {a : Option Addr} {n cap : Nat} {zs : List Int} {W W' : World} (h : LvAt w B T x a n cap zs W) (hb : Below W.heap.size W W') : LvAt w B T x a n cap zs W' :=
  ⟨(hb.block _ (by
    rcases Nat.lt_or_ge B W.heap.size with h' | h'
    · exact h'
    · have := h.row; rw [Array.getElem?_eq_none h'] at this; cases this)).trans h.row, h.ids.later hb (Nat.le_refl _), h.bel.trans (hb.mono h.bel.size)⟩
theorem LvAt.cells {w : World} {B : Nat} {T : TypeId} {x : Int} {a : Option Addr} {n cap : Nat} {zs : List Int} {W : World} (h : LvAt w B T x a n cap zs W) : W.cell? ⟨B, 0, none⟩ = some (.int .i64 x) ∧ W.cell? ⟨B, 1, none⟩ = some (.slice a n cap) := by
  refine ⟨?_, ?_⟩ <;> (rw [cell_of_row W B _ _ _ _ h.row]; rfl)
theorem LvAt.free {w : World} {B : Nat} {T : TypeId} {x : Int} {a : Option Addr} {n cap : Nat} {zs : List Int} {W : World} (h : LvAt w B T x a n cap zs W) (j : Nat) : W.frozen? ⟨B, j, none⟩ = false := by simp [World.frozen?, h.row]
theorem LvAt.new {w : World} (T : TypeId) (x : Int) {a : Option Addr} {n : Nat} (cap : Nat) {zs : List Int} (h : IRow w 0 a n zs) : LvAt w w.heap.size T x a n cap zs (w.alloc (.cells #[.int .i64 x, .slice a n cap] T)) :=
  ⟨heap_alloc_new w _, h.later ((Below.refl _ w).alloc (Nat.le_refl _) _) (Nat.le_refl _), (Below.refl _ w).alloc (Nat.le_refl _) _⟩

set_option maxHeartbeats 400000 in
theorem szIntS_any (w : World) (a : Option Addr) (n cap : Nat) (l : Int) (hn : n ≤ 9223372036854775807) (h0 : -1 ≤ l) (h1 : l ≤ 1048576) :
    Calls Tryd.prog 27 #[.slice a n cap, .int .i64 l] w fun e w' => e = .returned (.int .i64 (if l < (n : Int) then -1 else l - (n : Int))) ∧ w = w' := by
  by_cases h : l < (n : Int)
  · have t0 : decide (l - (n : Int) < 0) = true := by simp; omega
    rw [if_pos h]
    clear h
    go_enter Tryd.func27, Tryd.ntmps27
    go_wp2
    go_ret
    exact ⟨rfl, rfl⟩
  · have t0 : decide (l - (n : Int) < 0) = false := by simp; omega
    rw [if_neg h]
    clear h
    go_enter Tryd.func27, Tryd.ntmps27
    go_wp2
    go_ret
    exact ⟨rfl, rfl⟩

set_option maxRecDepth 100000 in
set_option maxHeartbeats 1000000 in
theorem szLive_any (w : World) (x : Int) (a : Option Addr) (n cap : Nat) (l : Int) (hn : n ≤ 9223372036854775807) (h0 : 0 ≤ l) (h1 : l ≤ 1048576) :
    Calls Tryd.prog 8 #[.agg #[.int .i64 x, .slice a n cap], .int .i64 l] w fun e w' => e = .returned (.int .i64 (if l < (n : Int) then -1 else l - (n : Int))) ∧ Below w.heap.size w w' := by
  have HS := hide (fun W => szIntS_any W a n cap l hn (by omega) h1)
  by_cases h : l < (n : Int)
  · rw [if_pos h] at HS ⊢
    clear h
    go_enter Tryd.func8, Tryd.ntmps8
    go_wp2_with fail
    refine (HS.out _).mono ?_
    rintro e w1 ⟨rfl, rfl⟩
    go_wp2
    go_ret
    exact ⟨rfl, (Below.refl _ w).alloc (Nat.le_refl _) _⟩
  · rw [if_neg h] at HS ⊢
    obtain ⟨d, hd⟩ : ∃ d, l - (n : Int) = d := ⟨_, rfl⟩
    have t0 : decide (d < 0) = false := by simp; omega
    rw [hd] at HS ⊢
    clear h hd
    go_enter Tryd.func8, Tryd.ntmps8
    go_wp2_with fail
    refine (HS.out _).mono ?_
    rintro e w1 ⟨rfl, rfl⟩
    go_wp2
    go_ret
    exact ⟨rfl, (Below.refl _ w).alloc (Nat.le_refl _) _⟩

theorem size_al (w : World) (o : Obj) : (w.alloc o).heap.size = w.heap.size + 1 := by simp
theorem cells2 {w : World} {B : Nat} {x0 x1 : Value} {ty : TypeId} (h : w.heap[B]? = some (.cells #[x0, x1] ty (0, 0))) :
    w.cell? ⟨B, 0, none⟩ = some x0 ∧ w.cell? ⟨B, 1, none⟩ = some x1 ∧ w.frozen? ⟨B, 0, none⟩ = false ∧ w.frozen? ⟨B, 1, none⟩ = false := by
  have hf : ∀ j, w.frozen? ⟨B, j, none⟩ = false := fun j => by simp [World.frozen?, h]
  refine ⟨?_, ?_, hf 0, hf 1⟩ <;> rw [cell_of_row w B _ _ _ _ h] <;> rfl
theorem IOwn.setCell {w : World} {base : Nat} {v : Value} {zs : List Int} (h : IOwn w base v zs) (p : Addr) (u : Value) (hp : p.block < base) : IOwn (w.setCell p u) base v zs := by
  refine ⟨h.1, ?_⟩
  rcases h.2 with h | ⟨g, c, cur, e, hbg, hg, h1⟩
  · exact .inl h
  · exact .inr ⟨g, c, cur, e, hbg, by rw [Below.heap_setCell w p u g (by omega)]; exact hg, h1⟩
/-- Two, three new blocks. -/
theorem news2 (w : World) (o0 o1 : Obj) : ((w.alloc o0).alloc o1).heap.size = w.heap.size + 2 ∧ Below w.heap.size w ((w.alloc o0).alloc o1) ∧
    ((w.alloc o0).alloc o1).heap[w.heap.size]? = some o0 ∧ ((w.alloc o0).alloc o1).heap[w.heap.size + 1]? = some o1 := by
  refine ⟨by simp, ((Below.refl _ w).alloc (Nat.le_refl _) _).alloc (by simp) _, ?_, ?_⟩
  · rw [Below.heap_alloc _ _ _ (by rw [size_al]; omega)]
    exact heap_alloc_new w o0
  · have := heap_alloc_new (w.alloc o0) o1
    rw [size_al] at this
    exact this
theorem news3 (w : World) (o0 o1 o2 : Obj) : (((w.alloc o0).alloc o1).alloc o2).heap.size = w.heap.size + 3 ∧ Below w.heap.size w (((w.alloc o0).alloc o1).alloc o2) ∧
    (((w.alloc o0).alloc o1).alloc o2).heap[w.heap.size]? = some o0 ∧ (((w.alloc o0).alloc o1).alloc o2).heap[w.heap.size + 1]? = some o1 ∧ (((w.alloc o0).alloc o1).alloc o2).heap[w.heap.size + 1 + 1]? = some o2 := by
  obtain ⟨h1, h2, h3, h4⟩ := news2 w o0 o1
  refine ⟨by simp, h2.alloc (by simp; omega) _, ?_, ?_, ?_⟩
  · rw [Below.heap_alloc _ _ _ (by omega)]
    exact h3
  · rw [Below.heap_alloc _ _ _ (by omega)]
    exact h4
  · have := heap_alloc_new ((w.alloc o0).alloc o1) o2
    rw [size_al, size_al] at this
    exact this

set_option maxRecDepth 100000 in
set_option maxHeartbeats 1000000 in
theorem toLive_any (w : World) (x : Int) (a : Option Addr) (n cap : Nat) (zs : List Int) (hr : IRow w 0 a n zs) (hn : n ≤ 1048576) :
    Calls Tryd.prog 11 #[.agg #[.int .i64 x, .slice a n cap]] w fun e w' => (∃ g, e = .returned (.agg #[.int .i64 x, .slice (some ⟨g, 0, none⟩) n n]) ∧ IOwn w' w.heap.size (.slice (some ⟨g, 0, none⟩) n n) zs) ∧ Below w.heap.size w w' := by
  obtain ⟨W, hW⟩ : ∃ W, W = ((w.alloc (.cells #[.int .i64 x, .slice a n cap] 30)).alloc (.cells #[.int .i64 0, .slice none 0 0] 39)).alloc (.cells #[.int .i64 x, .slice none 0 0] 39) := ⟨_, rfl⟩
  have hA := news3 w (.cells #[.int .i64 x, .slice a n cap] 30) (.cells #[.int .i64 0, .slice none 0 0] 39) (.cells #[.int .i64 x, .slice none 0 0] 39)
  rw [← hW] at hA
  have HS := hide hA.1
  have HB0 := hide hA.2.1
  have HC0 := hide hA.2.2.1
  have HC1 := hide hA.2.2.2.1
  have HC2 := hide hA.2.2.2.2
  clear hA
  have HR := hide (hr.later HB0.out (Nat.le_refl _))
  clear hr
  go_enter Tryd.func11, Tryd.ntmps11
  go_wp2_with fail
  rw [← hW]
  clear hW
  refine (toIntS_any W a n cap zs HR.out hn).mono ?_
  rintro e w2 ⟨rfl, ho2, hb2⟩
  obtain ⟨g, hg⟩ : ∃ g, W.heap.size = g := ⟨_, rfl⟩
  have hgs : g = w.heap.size + 3 := by rw [← hg]; exact HS.out
  have d0 := cells2 ((hb2.block _ (by have := HS.out; omega)).trans HC0.out)
  have d1 := cells2 ((hb2.block _ (by have := HS.out; omega)).trans HC1.out)
  have d2 := cells2 ((hb2.block _ (by have := HS.out; omega)).trans HC2.out)
  have HB2 := hide (HB0.out.trans (hb2.mono HB0.out.size))
  rw [hg] at ho2
  have HO2 := hide ho2
  clear hb2 ho2 HC0 HC1 HC2 HS HB0 HR
  obtain ⟨a0, a1, -, -⟩ := d0
  obtain ⟨b0, b1, k0, k1⟩ := d1
  obtain ⟨c0, c1, l0, l1⟩ := d2
  have hlt : w.heap.size ≤ g := by omega
  go_wp2
  refine bodyPost_ret (v := .agg #[.int .i64 x, .slice (some ⟨w.heap.size + 3, 0, none⟩) n n]) (by simp [results, Tryd.results11, go_sem, *]) rfl ⟨⟨w.heap.size + 3, rfl, ?_⟩, ?_⟩
  · rw [← hgs]
    refine IOwn.mono ?_ hlt
    iterate 3 (refine IOwn.setCell ?_ _ _ (by simp; omega))
    exact HO2.out
  · iterate 3 (refine Below.setCell ?_ (by dsimp only; omega) _)
    exact HB2.out

set_option maxRecDepth 100000 in
set_option maxHeartbeats 1000000 in
theorem eqLive_same (w : World) (x : Int) (a b : Option Addr) (n cap cap' : Nat) (zs : List Int) (ha : IRow w 0 a n zs) (hb : IRow w 0 b n zs) (hn : n ≤ 1048576) :
    Calls Tryd.prog 15 #[.agg #[.int .i64 x, .slice a n cap], .agg #[.int .i64 x, .slice b n cap']] w fun e w' => e = .returned (.bool true) ∧ Below w.heap.size w w' := by
  obtain ⟨W, hW⟩ : ∃ W, W = (w.alloc (.cells #[.int .i64 x, .slice a n cap] 39)).alloc (.cells #[.int .i64 x, .slice b n cap'] 39) := ⟨_, rfl⟩
  have hA := news2 w (.cells #[.int .i64 x, .slice a n cap] 39) (.cells #[.int .i64 x, .slice b n cap'] 39)
  rw [← hW] at hA
  have HB0 := hide hA.2.1
  have HA := hide (ha.later HB0.out (Nat.le_refl _))
  have HG := hide (hb.later HB0.out (Nat.le_refl _))
  obtain ⟨a0, a1, -, -⟩ := cells2 hA.2.2.1
  obtain ⟨b0, b1, -, -⟩ := cells2 hA.2.2.2
  clear ha hb hA
  go_enter Tryd.func15, Tryd.ntmps15
  go_wp2_with fail
  rw [← hW]
  clear hW
  refine (eqIntS_same W a b n cap cap' zs HA.out HG.out (by omega)).mono ?_
  rintro e w2 ⟨rfl, hb2⟩
  have HB2 := hide (HB0.out.trans (hb2.mono HB0.out.size))
  clear a0 a1 b0 b1 hb2
  go_wp2
  go_ret
  exact ⟨rfl, HB2.out⟩

end Go.Proofs.YthnealhaleccpabDoor
