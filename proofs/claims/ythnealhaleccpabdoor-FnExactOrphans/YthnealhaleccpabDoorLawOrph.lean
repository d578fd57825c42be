/-
  The walk of the exact law of Orphans.
-/
import Derived.Test.YthnealhaleccpabDoorStrMark
import Derived.Test.YthnealhaleccpabDoorLiveMark
import Derived.Test.YthnealhaleccpabDoorOrphImpl
import Derived.Test.YthnealhaleccpabDoorLawBase
import Derived.Test.YthnealhaleccpabDoorToDisk
import Derived.Deep.RegionHeld3
namespace Go.Proofs.YthnealhaleccpabDoor
open Go.RowKit
open Plain

/-- Block B holds a list of the law's own; its numbers lie in a row from block lo on, ahead of B; what was there in w is untouched. -/
structure LOwn (w : World) (lo B : Nat) (x : Int) (a : Option Addr) (n cap : Nat) (zs : List Int) (W : World) : Prop where
  row : W.heap[B]? = some (.cells #[.int .i64 x, .slice a n cap] 39 (0, 0))
  own : IOwn W lo (.slice a n cap) zs
  top : ∀ g, (Value.slice a n cap).ownBlock = some g → g < B
theorem LOwn.later {w : World} {lo B : Nat} {x : Int} {a : Option Addr} {n cap : Nat} {zs : List Int} {W W' : World} (h : LOwn w lo B x a n cap zs W) (hb : Below W.heap.size W W') : LOwn w lo B x a n cap zs W' :=
  ⟨(hb.block _ (lt_of_block h.row)).trans h.row, h.own.later hb (Nat.le_refl _), h.top⟩
theorem LOwn.new {w W : World} {lo : Nat} (x : Int) {a : Option Addr} {n cap : Nat} {zs : List Int} (h : IOwn W lo (.slice a n cap) zs) : LOwn w lo W.heap.size x a n cap zs (W.alloc (.cells #[.int .i64 x, .slice a n cap] 39)) :=
  ⟨heap_alloc_new W _, h.later (al1 W _) (Nat.le_refl _), fun g hg => (World.ownsRow.lt h g hg).2⟩
theorem LOwn.other {w : World} {lo B : Nat} {x : Int} {a : Option Addr} {n cap : Nat} {zs : List Int} {W W' : World} {r : Option Nat} (h : LOwn w lo B x a n cap zs W) (hg : W.grownBy W' r) (hB : r ≠ some B) (hr : ∀ g, (Value.slice a n cap).ownBlock = some g → r ≠ some g) : LOwn w lo B x a n cap zs W' := by
  refine ⟨(hg.block _ (lt_of_block h.row) (fun e => hB e.symm)).trans h.row, World.ownsRow.kept h.own hg ?_, h.top⟩
  cases e : (Value.slice a n cap).ownBlock with
  | none => exact .inl rfl
  | some g => exact .inr (fun q => hr g e q.symm)
theorem LOwn.written {w : World} {lo B : Nat} {x : Int} {a : Option Addr} {n cap : Nat} {zs ys : List Int} {W W' : World} (h : LOwn w lo B x a n cap zs W) (hg : W.grownBy W' (Value.slice a n cap).ownBlock) (ho : IOwn W' lo (.slice a n cap) ys) : LOwn w lo B x a n cap ys W' :=
  ⟨(hg.block _ (lt_of_block h.row) (fun e => by have := h.top _ e.symm; omega)).trans h.row, ho, h.top⟩
theorem LOwn.cells {w : World} {lo B : Nat} {x : Int} {a : Option Addr} {n cap : Nat} {zs : List Int} {W : World} (h : LOwn w lo B x a n cap zs W) : W.cell? ⟨B, 0, none⟩ = some (.int .i64 x) ∧ W.cell? ⟨B, 1, none⟩ = some (.slice a n cap) := by
  obtain ⟨h1, h2, -, -⟩ := cells2 h.row
  exact ⟨h1, h2⟩
theorem TOwn.other {W W' : World} {lo : Nat} {v : Value} {zs : List ByteArray} {r : Option Nat} (h : TOwn W lo v zs) (hg : W.grownBy W' r) (hr : ∀ g, v.ownBlock = some g → r ≠ some g) : TOwn W' lo v zs := by
  refine World.ownsRow.kept h hg ?_
  cases e : v.ownBlock with
  | none => exact .inl rfl
  | some g => exact .inr (fun q => hr g e q.symm)

/-- The law's two arguments in their blocks. -/
structure OBx (w : World) (a : Option Addr) (n cap : Nat) (c u : Int) (d : Bool) (fs : List FileV) (x : Int) (b : Option Addr) (m capb : Nat) (zs : List Int) (W : World) : Prop where
  dsk : W.heap[w.heap.size]? = some (.cells #[.slice a n cap, .int .i64 c, .int .i64 u, .bool d] 27 (0, 0))
  row : FRow W 0 a n fs
  liv : W.heap[w.heap.size + 1]? = some (.cells #[.int .i64 x, .slice b m capb] 30 (0, 0))
  ids : IRow W 0 b m zs
  bel : Below w.heap.size w W
theorem OBx.later {w : World} {a : Option Addr} {n cap : Nat} {c u : Int} {d : Bool} {fs : List FileV} {x : Int} {b : Option Addr} {m capb : Nat} {zs : List Int} {W W' : World} (h : OBx w a n cap c u d fs x b m capb zs W) (hb : Below W.heap.size W W') : OBx w a n cap c u d fs x b m capb zs W' :=
  ⟨(hb.block _ (lt_of_block h.dsk)).trans h.dsk, h.row.later hb (Nat.le_refl _), (hb.block _ (lt_of_block h.liv)).trans h.liv, h.ids.later hb (Nat.le_refl _), h.bel.trans (hb.mono h.bel.size)⟩
theorem OBx.grown {w : World} {a : Option Addr} {n cap : Nat} {c u : Int} {d : Bool} {fs : List FileV} {x : Int} {b : Option Addr} {m capb : Nat} {zs : List Int} {W W' : World} {r : Option Nat} (h : OBx w a n cap c u d fs x b m capb zs W) (h0 : FRow w 0 a n fs) (h1 : IRow w 0 b m zs) (hg : W.grownBy W' r) (hr : ∀ g, r = some g → w.heap.size + 1 < g) : OBx w a n cap c u d fs x b m capb zs W' := by
  have hb : Below w.heap.size w W' := h.bel.grown hg h.bel.size (fun g e => by have := hr g e; omega)
  exact ⟨(hg.block _ (lt_of_block h.dsk) (fun e => by have := hr _ e.symm; omega)).trans h.dsk, h0.later hb (Nat.le_refl _), (hg.block _ (lt_of_block h.liv) (fun e => by have := hr _ e.symm; omega)).trans h.liv, h1.later hb (Nat.le_refl _), hb⟩
theorem OBx.cells {w : World} {a : Option Addr} {n cap : Nat} {c u : Int} {d : Bool} {fs : List FileV} {x : Int} {b : Option Addr} {m capb : Nat} {zs : List Int} {W : World} (h : OBx w a n cap c u d fs x b m capb zs W) :
    W.cell? ⟨w.heap.size, 0, none⟩ = some (.slice a n cap) ∧ W.cell? ⟨w.heap.size, 1, none⟩ = some (.int .i64 c) ∧ W.cell? ⟨w.heap.size, 2, none⟩ = some (.int .i64 u) ∧ W.cell? ⟨w.heap.size, 3, none⟩ = some (.bool d) ∧ W.cell? ⟨w.heap.size + 1, 0, none⟩ = some (.int .i64 x) ∧ W.cell? ⟨w.heap.size + 1, 1, none⟩ = some (.slice b m capb) := by
  obtain ⟨h1, h2, h3, h4, -⟩ := cells4 h.dsk
  obtain ⟨k1, k2, -⟩ := cells2 h.liv
  exact ⟨h1, h2, h3, h4, k1, k2⟩

/-- What the law holds behind impl's first answer. -/
structure GO (P : World → Prop) (w : World) (l1 l2 B0 l3 B1 l4 n5 : Nat) (a5 : Option Addr) (c5 : Nat) (L0 : List ByteArray) (g0 n : Nat) (c u : Int) (d : Bool) (x : Int) (g1 m : Nat) (a8 : Option Addr) (c8 : Nat) (fs : List FileV) (zs : List Int) (L : List ByteArray) (W : World) : Prop where
  p : P W
  w0 : TOwn W l1 (.slice a5 n5 c5) L0
  w0t : ∀ g, (Value.slice a5 n5 c5).ownBlock = some g → g < l2
  x0 : DVar W B0 l2 (some ⟨g0, 0, none⟩) n n c u d fs
  x1 : LOwn w l3 B1 x (some ⟨g1, 0, none⟩) m m zs W
  go : TOwn W l4 (.slice a8 n5 c8) L
  ord : w.heap.size + 1 < l1 ∧ l1 ≤ l2 ∧ l2 ≤ B0 ∧ B0 < l3 ∧ l3 ≤ B1 ∧ B1 < l4
section
variable {P : World → Prop} {w : World} {l1 l2 B0 l3 B1 l4 n5 : Nat} {a5 : Option Addr} {c5 : Nat} {L0 : List ByteArray} {g0 n : Nat} {c u : Int} {d : Bool} {x : Int} {g1 m : Nat} {a8 : Option Addr} {c8 : Nat} {fs gs : List FileV} {zs ys : List Int} {L M : List ByteArray} {W W' : World}
theorem GO.later (hP : ∀ W W', P W → Below W.heap.size W W' → P W') (h : GO P w l1 l2 B0 l3 B1 l4 n5 a5 c5 L0 g0 n c u d x g1 m a8 c8 fs zs L W) (hb : Below W.heap.size W W') : GO P w l1 l2 B0 l3 B1 l4 n5 a5 c5 L0 g0 n c u d x g1 m a8 c8 fs zs L W' :=
  ⟨hP _ _ h.p hb, h.w0.later hb (Nat.le_refl _), h.w0t, h.x0.later hb, h.x1.later hb, h.go.later hb (Nat.le_refl _), h.ord⟩
theorem GO.markD (hP : ∀ W W' r, P W → W.grownBy W' r → (∀ g, r = some g → w.heap.size + 1 < g) → P W') (h : GO P w l1 l2 B0 l3 B1 l4 n5 a5 c5 L0 g0 n c u d x g1 m a8 c8 fs zs L W) (ho : FOwn W' l2 (.slice (some ⟨g0, 0, none⟩) n n) gs) (hg : W.grownBy W' (Value.slice (some ⟨g0, 0, none⟩) n n).ownBlock) : GO P w l1 l2 B0 l3 B1 l4 n5 a5 c5 L0 g0 n c u d x g1 m a8 c8 gs zs L W' := by
  have hb := h.x0.blk
  have ho' := h.ord
  refine ⟨hP _ _ _ h.p hg (fun g e => by have := (hb g e).1; omega), h.w0.other hg (fun g e q => by have h1 := h.w0t g e; have h2 := (hb g q).1; omega), h.w0t, h.x0.written hg ho, h.x1.other hg (fun q => by have := (hb _ q).2; omega) (fun g e q => by have h1 := (World.ownsRow.lt h.x1.own g e).1; have h2 := (hb g q).2; omega), h.go.other hg (fun g e q => by have h1 := (World.ownsRow.lt h.go g e).1; have h2 := (hb g q).2; omega), h.ord⟩
theorem GO.markL (hP : ∀ W W' r, P W → W.grownBy W' r → (∀ g, r = some g → w.heap.size + 1 < g) → P W') (h : GO P w l1 l2 B0 l3 B1 l4 n5 a5 c5 L0 g0 n c u d x g1 m a8 c8 fs zs L W) (ho : IOwn W' l3 (.slice (some ⟨g1, 0, none⟩) m m) ys) (hg : W.grownBy W' (Value.slice (some ⟨g1, 0, none⟩) m m).ownBlock) : GO P w l1 l2 B0 l3 B1 l4 n5 a5 c5 L0 g0 n c u d x g1 m a8 c8 fs ys L W' := by
  have hb : ∀ g, (Value.slice (some ⟨g1, 0, none⟩) m m).ownBlock = some g → l3 ≤ g ∧ g < B1 := fun g e => ⟨(World.ownsRow.lt h.x1.own g e).1, h.x1.top g e⟩
  have ho' := h.ord
  refine ⟨hP _ _ _ h.p hg (fun g e => by have := (hb g e).1; omega), h.w0.other hg (fun g e q => by have h1 := h.w0t g e; have h2 := (hb g q).1; omega), h.w0t, h.x0.other hg (fun q => by have := (hb _ q).1; omega) (fun g e q => by have h1 := (h.x0.blk g e).2; have h2 := (hb g q).1; omega), h.x1.written hg ho, h.go.other hg (fun g e q => by have h1 := (World.ownsRow.lt h.go g e).1; have h2 := (hb g q).2; omega), h.ord⟩
theorem GO.markG (hP : ∀ W W' r, P W → W.grownBy W' r → (∀ g, r = some g → w.heap.size + 1 < g) → P W') (h : GO P w l1 l2 B0 l3 B1 l4 n5 a5 c5 L0 g0 n c u d x g1 m a8 c8 fs zs L W) (ho : TOwn W' l4 (.slice a8 n5 c8) M) (hg : W.grownBy W' (Value.slice a8 n5 c8).ownBlock) : GO P w l1 l2 B0 l3 B1 l4 n5 a5 c5 L0 g0 n c u d x g1 m a8 c8 fs zs M W' := by
  have hb : ∀ g, (Value.slice a8 n5 c8).ownBlock = some g → l4 ≤ g := fun g e => (World.ownsRow.lt h.go g e).1
  have ho' := h.ord
  refine ⟨hP _ _ _ h.p hg (fun g e => by have := hb g e; omega), h.w0.other hg (fun g e q => by have h1 := h.w0t g e; have h2 := hb g q; omega), h.w0t, h.x0.other hg (fun q => by have := hb _ q; omega) (fun g e q => by have h1 := (h.x0.blk g e).2; have h2 := hb g q; omega), h.x1.other hg (fun q => by have := hb _ q; omega) (fun g e q => by have h1 := h.x1.top g e; have h2 := hb g q; omega), ho, h.ord⟩
theorem GO.cells (h : GO P w l1 l2 B0 l3 B1 l4 n5 a5 c5 L0 g0 n c u d x g1 m a8 c8 fs zs L W) : W.cell? ⟨B0, 0, none⟩ = some (.slice (some ⟨g0, 0, none⟩) n n) ∧ W.cell? ⟨B0, 1, none⟩ = some (.int .i64 c) ∧ W.cell? ⟨B0, 2, none⟩ = some (.int .i64 u) ∧ W.cell? ⟨B0, 3, none⟩ = some (.bool d) ∧ W.cell? ⟨B1, 0, none⟩ = some (.int .i64 x) ∧ W.cell? ⟨B1, 1, none⟩ = some (.slice (some ⟨g1, 0, none⟩) m m) := by
  obtain ⟨h1, h2, h3, h4⟩ := h.x0.cells
  obtain ⟨k1, k2⟩ := h.x1.cells
  exact ⟨h1, h2, h3, h4, k1, k2⟩
end

set_option maxRecDepth 100000 in
set_option maxHeartbeats 8000000 in
theorem lawOrph_walk (w : World) (a : Option Addr) (n cap : Nat) (fs : List FileV) (hr : FRow w 0 a n fs) (hf : Fits fs) (hl : n ≤ maxLen) (c u : Int) (d : Bool) (x : Int) (b : Option Addr) (m capb : Nat) (zs : List Int) (hi : IRow w 0 b m zs) (hm : m ≤ 9223372036854775807) (htab : Tab w) (hsyn : Syn w) :
    Calls Tryd.prog 4 #[.agg #[.slice a n cap, .int .i64 c, .int .i64 u, .bool d], .agg #[.int .i64 x, .slice b m capb]] w fun e w' => e = .returned (.bool true) ∧ Below w.heap.size w w' := by
  obtain ⟨W, hW⟩ : ∃ W, W = (w.alloc (.cells #[.slice a n cap, .int .i64 c, .int .i64 u, .bool d] 27)).alloc (.cells #[.int .i64 x, .slice b m capb] 30) := ⟨_, rfl⟩
  have hA := news2 w (.cells #[.slice a n cap, .int .i64 c, .int .i64 u, .bool d] 27) (.cells #[.int .i64 x, .slice b m capb] 30)
  rw [← hW] at hA
  have hA' : OBx w a n cap c u d fs x b m capb zs W := ⟨hA.2.2.1, hr.later hA.2.1 (Nat.le_refl _), hA.2.2.2, hi.later hA.2.1 (Nat.le_refl _), hA.2.1⟩
  obtain ⟨P, hP⟩ : ∃ P : World → Prop, P = OBx w a n cap c u d fs x b m capb zs := ⟨_, rfl⟩
  have HA : Hid (P W) := hide (by rw [hP]; exact hA')
  have HPL : Hid (∀ W W', P W → Below W.heap.size W W' → P W') := hide (by rw [hP]; exact fun _ _ h hb => h.later hb)
  have HPG : Hid (∀ W W' r, P W → W.grownBy W' r → (∀ g, r = some g → w.heap.size + 1 < g) → P W') := hide (by rw [hP]; exact fun _ _ _ h hg hx => h.grown hr hi hg hx)
  have HPB : Hid (∀ W, P W → Below w.heap.size w W ∧ w.heap.size + 1 < W.heap.size) := hide (by rw [hP]; exact fun _ h => ⟨h.bel, lt_of_block h.liv⟩)
  have HPC : Hid (∀ W', P W' → W'.cell? ⟨w.heap.size, 0, none⟩ = some (.slice a n cap) ∧ W'.cell? ⟨w.heap.size, 1, none⟩ = some (.int .i64 c) ∧ W'.cell? ⟨w.heap.size, 2, none⟩ = some (.int .i64 u) ∧ W'.cell? ⟨w.heap.size, 3, none⟩ = some (.bool d) ∧ W'.cell? ⟨w.heap.size + 1, 0, none⟩ = some (.int .i64 x) ∧ W'.cell? ⟨w.heap.size + 1, 1, none⟩ = some (.slice b m capb) ∧ Hid (P W')) := hide (by
    rw [hP]
    intro W' h
    obtain ⟨h1, h2, h3, h4, h5, h6⟩ := h.cells
    exact ⟨h1, h2, h3, h4, h5, h6, hide h⟩)
  have HTA : Hid (∀ W', n ≤ 1048576 → P W' → Calls Tryd.prog 10 #[.agg #[.slice a n cap, .int .i64 c, .int .i64 u, .bool d]] W' fun e w' => (∃ g, e = .returned (.agg #[.slice (some ⟨g, 0, none⟩) n n, .int .i64 c, .int .i64 u, .bool d]) ∧ FOwn w' W'.heap.size (.slice (some ⟨g, 0, none⟩) n n) fs) ∧ Below W'.heap.size W' w') := hide (by rw [hP]; exact fun W' h1 h => toDisk_any W' a n cap fs h.row h1 c u d)
  have HTV : Hid (∀ W', m ≤ 1048576 → P W' → Calls Tryd.prog 11 #[.agg #[.int .i64 x, .slice b m capb]] W' fun e w' => (∃ g, e = .returned (.agg #[.int .i64 x, .slice (some ⟨g, 0, none⟩) m m]) ∧ IOwn w' W'.heap.size (.slice (some ⟨g, 0, none⟩) m m) zs) ∧ Below W'.heap.size W' w') := hide (by rw [hP]; exact fun W' h1 h => toLive_any W' x b m capb zs h.ids h1)
  have HSD := hide (szDisk_any W a n cap fs hA'.row hf hl c u d 1048576 (by omega) (by omega))
  have HTB := hide htab
  have HSY := hide hsyn
  clear hA hA' hP hr hi htab hsyn hf hl
  go_enter Tryd.func4, Tryd.ntmps4
  go_wp2_with fail
  rw [← hW]
  clear hW
  refine HSD.out.mono ?_
  rintro e w1 ⟨rfl, hb1⟩
  have HA1 := hide (HPL.out W w1 HA.out hb1)
  clear HA HSD hb1
  by_cases hsz : n + szFs fs ≤ 1048576
  · rw [lessR_yes (by omega)]
    obtain ⟨L0, hL0⟩ : ∃ L0 : Int, (1048576 : Int) - ((n + szFs fs : Nat) : Int) = L0 ∧ 0 ≤ L0 ∧ L0 ≤ 1048576 := ⟨_, rfl, by omega, by omega⟩
    rw [hL0.1]
    have hL := hL0.2
    have hn : n ≤ 1048576 := by omega
    have hzf : szFs fs ≤ 1048576 := by omega
    clear hL0 hsz
    have d0 : decide (L0 < 0) = false := by simp; omega
    obtain ⟨y0, y1, y2, y3, y4, y5, -⟩ := HPC.out w1 HA1.out
    go_wp2_with fail
    clear y0 y1 y2 y3 y4 y5
    refine (szLive_any w1 x b m capb L0 hm hL.1 hL.2).mono ?_
    rintro e w2 ⟨rfl, hb2⟩
    have HA2 := hide (HPL.out w1 w2 HA1.out hb2)
    clear HA1 hb2
    by_cases hs2 : L0 < (m : Int)
    · rw [if_pos hs2]
      have HB := hide (HPB.out w2 HA2.out).1
      go_wp2
      go_ret
      exact ⟨rfl, HB.out⟩
    · rw [if_neg hs2]
      obtain ⟨L1, hL1⟩ : ∃ L1 : Int, L0 - (m : Int) = L1 ∧ 0 ≤ L1 := ⟨_, rfl, by omega⟩
      rw [hL1.1]
      have hL1' := hL1.2
      have hm2 : m ≤ 1048576 := by omega
      clear hL1 hs2
      have d1 : decide (L1 < 0) = false := by simp; omega
      obtain ⟨L, hLL⟩ : ∃ L, orphS fs c u zs = L := ⟨_, rfl⟩
      have hlL : L.length ≤ 1048576 := by
        rw [← hLL]
        unfold orphS
        split
        · rename_i q
          have h1 := ok_len q
          have h2 := orphL_len fs zs
          omega
        · simp
      have HSO : Hid (∀ W' g1 g2, FRow W' 0 (some ⟨g1, 0, none⟩) n fs → IRow W' 0 (some ⟨g2, 0, none⟩) m zs → Calls Tryd.prog 9 #[.agg #[.slice (some ⟨g1, 0, none⟩) n n, .int .i64 c, .int .i64 u, .bool d], .agg #[.int .i64 x, .slice (some ⟨g2, 0, none⟩) m m]] W' fun e w' => (∃ a' n' c', e = .returned (.slice a' n' c') ∧ TOwn w' W'.heap.size (.slice a' n' c') L) ∧ Below W'.heap.size W' w') := hide (fun W' g1 g2 h1 h2 => by rw [← hLL]; exact specOrph_any W' _ n n fs h1 hzf hn c u d x _ m m zs h2 hm2)
      have HIO : Hid (∀ W' g1 g2, P W' → FRow W' 0 (some ⟨g1, 0, none⟩) n fs → IRow W' 0 (some ⟨g2, 0, none⟩) m zs → Calls Tryd.prog 12 #[.agg #[.slice (some ⟨g1, 0, none⟩) n n, .int .i64 c, .int .i64 u, .bool d], .agg #[.int .i64 x, .slice (some ⟨g2, 0, none⟩) m m]] W' fun e w' => (∃ a' n' c', e = .returned (.slice a' n' c') ∧ TOwn w' W'.heap.size (.slice a' n' c') L) ∧ Below W'.heap.size W' w') := hide (fun W' g1 g2 hp h1 h2 => by rw [← hLL]; exact implOrph_any W' _ n n fs h1 hzf hn c u d x _ m m zs h2 hm2 (HTB.out.later (HPB.out _ hp).1) (HSY.out.later (HPB.out _ hp).1))
      clear hLL HTB HSY
      have S2 := HPC.out w2.drew (HPL.out w2 w2.drew HA2.out (Below.refl _ _).drew)
      go_wp2
      first
        | (go_region_held3 (fun W' => W'.cell? ⟨w.heap.size, 0, none⟩ = some (.slice a n cap) ∧ W'.cell? ⟨w.heap.size, 1, none⟩ = some (.int .i64 c) ∧ W'.cell? ⟨w.heap.size, 2, none⟩ = some (.int .i64 u) ∧ W'.cell? ⟨w.heap.size, 3, none⟩ = some (.bool d) ∧ W'.cell? ⟨w.heap.size + 1, 0, none⟩ = some (.int .i64 x) ∧ W'.cell? ⟨w.heap.size + 1, 1, none⟩ = some (.slice b m capb) ∧ Hid (P W')) (assumption) (first
            | (go_at_call 10; refine (HTA.out w2.drew hn S2.2.2.2.2.2.2.out).mono ?_; rintro e w3 ⟨⟨g3, rfl, ho3⟩, hb3⟩; have hk3 := HPL.out _ _ S2.2.2.2.2.2.2.out hb3; have hS3 := HPC.out w3 hk3; have HR3 := hide ho3.row0; clear ho3 hb3)
            | (go_at_call 11; refine (HTV.out w3 hm2 hk3).mono ?_; rintro e w4 ⟨⟨g4, rfl, ho4⟩, hb4⟩; have hk4 := HPL.out _ _ hk3 hb4; have hS4 := HPC.out w4 hk4; have HR4 := hide (And.intro (HR3.out.later hb4 (Nat.le_refl _)) ho4.row); clear ho4 hb4)
            | (go_at_call 9; refine (HSO.out w4 g3 g4 HR4.out.1 HR4.out.2).mono ?_; rintro e w5 ⟨⟨a5, n5, c5, rfl, ho5⟩, hb5⟩; have hk5 := HPL.out _ _ hk4 hb5; have HO5 := hide ho5; have hS5 := HPC.out w5 hk5; have HZ5 := hide hb5.size; clear hb5 ho5)))
        | fail
      have H5 : Hid (P w5 ∧ TOwn w5 w4.heap.size (.slice a5 n5 c5) L ∧ w.heap.size + 1 < w4.heap.size ∧ w4.heap.size ≤ w5.heap.size) := hide ⟨hk5, HO5.out, (HPB.out w4 hk4).2, HZ5.out⟩
      obtain ⟨l1, hl1⟩ : ∃ l, w4.heap.size = l := ⟨_, rfl⟩
      rw [hl1] at H5
      clear hS5 hk5 HO5 HZ5 hS4 hk4 HR4 hS3 hk3 HR3 S2 HA2 HSO hl1
      obtain ⟨y0, y1, y2, y3, y4, y5, -⟩ := HPC.out w5 H5.out.1
      go_wp2_with fail
      clear y0 y1 y2 y3 y4 y5
      refine (HTA.out w5 hn H5.out.1).mono ?_
      rintro e w6 ⟨⟨g6, rfl, ho6⟩, hb6⟩
      have hp6 := HPL.out _ _ H5.out.1 hb6
      obtain ⟨X6, hX6⟩ : ∃ X, X = w6.alloc (.cells #[.slice (some ⟨g6, 0, none⟩) n n, .int .i64 c, .int .i64 u, .bool d] 37) := ⟨_, rfl⟩
      have hbX : Below w6.heap.size w6 X6 := by rw [hX6]; exact al1 w6 _
      have HK6 : Hid (P X6 ∧ TOwn X6 l1 (.slice a5 n5 c5) L ∧ DVar X6 w6.heap.size w5.heap.size (some ⟨g6, 0, none⟩) n n c u d fs ∧ w6.heap.size < X6.heap.size) := hide ⟨HPL.out _ _ hp6 hbX, (H5.out.2.1.later hb6 (Nat.le_refl _)).later hbX (Nat.le_refl _), by rw [hX6]; exact DVar.new (w0 := w6) ho6 (Nat.le_refl _), by rw [hX6]; simp⟩
      have HS6 : Hid ((∀ g, (Value.slice a5 n5 c5).ownBlock = some g → g < w5.heap.size) ∧ w.heap.size + 1 < l1 ∧ l1 ≤ w5.heap.size ∧ w5.heap.size ≤ w6.heap.size) := hide ⟨fun g e => (World.ownsRow.lt H5.out.2.1 g e).2, H5.out.2.2.1, H5.out.2.2.2, hb6.size⟩
      have y := HPC.out X6 HK6.out.1
      rw [hX6] at y
      obtain ⟨y0, y1, y2, y3, y4, y5, -⟩ := y
      clear H5 hp6 hbX ho6 hb6
      go_wp2_with fail
      clear y0 y1 y2 y3 y4 y5
      rw [← hX6]
      clear hX6
      obtain ⟨l2, hl2⟩ : ∃ l, w5.heap.size = l := ⟨_, rfl⟩
      obtain ⟨B0, hB0⟩ : ∃ l, w6.heap.size = l := ⟨_, rfl⟩
      rw [hl2, hB0] at HK6 HS6
      rw [hB0]
      clear hl2 hB0
      refine (HTV.out X6 hm2 HK6.out.1).mono ?_
      rintro e w7 ⟨⟨g7, rfl, ho7⟩, hb7⟩
      obtain ⟨X7, hX7⟩ : ∃ X, X = w7.alloc (.cells #[.int .i64 x, .slice (some ⟨g7, 0, none⟩) m m] 39) := ⟨_, rfl⟩
      have hbX : Below w7.heap.size w7 X7 := by rw [hX7]; exact al1 w7 _
      have HK7 : Hid (P X7 ∧ TOwn X7 l1 (.slice a5 n5 c5) L ∧ DVar X7 B0 l2 (some ⟨g6, 0, none⟩) n n c u d fs ∧ LOwn w X6.heap.size w7.heap.size x (some ⟨g7, 0, none⟩) m m zs X7 ∧ B0 < X6.heap.size ∧ X6.heap.size ≤ w7.heap.size ∧ w7.heap.size < X7.heap.size) := hide ⟨HPL.out _ _ (HPL.out _ _ HK6.out.1 hb7) hbX, (HK6.out.2.1.later hb7 (Nat.le_refl _)).later hbX (Nat.le_refl _), (HK6.out.2.2.1.later hb7).later hbX, by rw [hX7]; exact LOwn.new x ho7, HK6.out.2.2.2, hb7.size, by rw [hX7]; simp⟩
      have y := HPC.out X7 HK7.out.1
      have v := HK7.out.2.2.1.cells
      have z := HK7.out.2.2.2.1.cells
      rw [hX7] at y v z
      obtain ⟨y0, y1, y2, y3, y4, y5, -⟩ := y
      obtain ⟨v0, v1, v2, v3⟩ := v
      obtain ⟨z0, z1⟩ := z
      clear HK6 hbX ho7 hb7
      go_wp2_with fail
      clear y0 y1 y2 y3 y4 y5 v0 v1 v2 v3 z0 z1
      rw [← hX7]
      clear hX7
      obtain ⟨l3, hl3⟩ : ∃ l, X6.heap.size = l := ⟨_, rfl⟩
      obtain ⟨B1, hB1⟩ : ∃ l, w7.heap.size = l := ⟨_, rfl⟩
      rw [hl3, hB1] at HK7
      rw [hB1]
      clear hl3 hB1
      refine (HIO.out X7 g6 g7 HK7.out.1 HK7.out.2.2.1.own.row0 HK7.out.2.2.2.1.own.row).mono ?_
      rintro e w8 ⟨⟨a8, n8, c8, rfl, ho8⟩, hb8⟩
      have hl5 := HK7.out.2.1.len
      obtain rfl : n8 = n5 := by have := ho8.len; omega
      have hn5 : n8 ≤ 1048576 := by omega
      have HQ8' : GO P w l1 l2 B0 l3 B1 X7.heap.size n8 a5 c5 L g6 n c u d x g7 m a8 c8 fs zs L w8 := ⟨HPL.out _ _ HK7.out.1 hb8, HK7.out.2.1.later hb8 (Nat.le_refl _), HS6.out.1, HK7.out.2.2.1.later hb8, HK7.out.2.2.2.1.later hb8, ho8, ⟨HS6.out.2.1, HS6.out.2.2.1, HS6.out.2.2.2, HK7.out.2.2.2.2.1, HK7.out.2.2.2.2.2.1, HK7.out.2.2.2.2.2.2⟩⟩
      obtain ⟨l4, hl4⟩ : ∃ l, X7.heap.size = l := ⟨_, rfl⟩
      rw [hl4] at HQ8'
      obtain ⟨Q, hQ⟩ : ∃ Q : List FileV → List Int → List ByteArray → World → Prop, Q = GO P w l1 l2 B0 l3 B1 l4 n8 a5 c5 L g6 n c u d x g7 m a8 c8 := ⟨_, rfl⟩
      have HQ8 : Hid (Q fs zs L w8) := hide (by rw [hQ]; exact HQ8')
      have HQL : Hid (∀ fs zs M W W', Q fs zs M W → Below W.heap.size W W' → Q fs zs M W') := hide (by rw [hQ]; exact fun _ _ _ _ _ h hb => h.later HPL.out hb)
      have HQP : Hid (∀ fs zs M W, Q fs zs M W → P W) := hide (by rw [hQ]; exact fun _ _ _ _ h => h.p)
      have HQ0 : Hid (∀ fs zs M W, Q fs zs M W → TRow W 0 a5 n8 L) := hide (by rw [hQ]; exact fun _ _ _ _ h => h.w0.row)
      have HQG : Hid (∀ fs zs M W, Q fs zs M W → TOwn W l4 (.slice a8 n8 c8) M) := hide (by rw [hQ]; exact fun _ _ _ _ h => h.go)
      have HQD : Hid (∀ fs zs M W, Q fs zs M W → FOwn W l2 (.slice (some ⟨g6, 0, none⟩) n n) fs) := hide (by rw [hQ]; exact fun _ _ _ _ h => h.x0.own)
      have HQV : Hid (∀ fs zs M W, Q fs zs M W → IOwn W l3 (.slice (some ⟨g7, 0, none⟩) m m) zs) := hide (by rw [hQ]; exact fun _ _ _ _ h => h.x1.own)
      have HMD : Hid (∀ fs gs zs M W W', Q fs zs M W → FOwn W' l2 (.slice (some ⟨g6, 0, none⟩) n n) gs → W.grownBy W' (Value.slice (some ⟨g6, 0, none⟩) n n).ownBlock → Q gs zs M W') := hide (by rw [hQ]; exact fun _ _ _ _ _ _ h ho hg => h.markD HPG.out ho hg)
      have HML : Hid (∀ fs zs ys M W W', Q fs zs M W → IOwn W' l3 (.slice (some ⟨g7, 0, none⟩) m m) ys → W.grownBy W' (Value.slice (some ⟨g7, 0, none⟩) m m).ownBlock → Q fs ys M W') := hide (by rw [hQ]; exact fun _ _ _ _ _ _ h ho hg => h.markL HPG.out ho hg)
      have HMG : Hid (∀ fs zs M N W W', Q fs zs M W → TOwn W' l4 (.slice a8 n8 c8) N → W.grownBy W' (Value.slice a8 n8 c8).ownBlock → Q fs zs N W') := hide (by rw [hQ]; exact fun _ _ _ _ _ _ h ho hg => h.markG HPG.out ho hg)
      have HQC : Hid (∀ fs zs M W', Q fs zs M W' → W'.cell? ⟨B0, 0, none⟩ = some (.slice (some ⟨g6, 0, none⟩) n n) ∧ W'.cell? ⟨B0, 1, none⟩ = some (.int .i64 c) ∧ W'.cell? ⟨B0, 2, none⟩ = some (.int .i64 u) ∧ W'.cell? ⟨B0, 3, none⟩ = some (.bool d) ∧ W'.cell? ⟨B1, 0, none⟩ = some (.int .i64 x) ∧ W'.cell? ⟨B1, 1, none⟩ = some (.slice (some ⟨g7, 0, none⟩) m m) ∧ W'.cell? ⟨w.heap.size, 0, none⟩ = some (.slice a n cap) ∧ W'.cell? ⟨w.heap.size, 1, none⟩ = some (.int .i64 c) ∧ W'.cell? ⟨w.heap.size, 2, none⟩ = some (.int .i64 u) ∧ W'.cell? ⟨w.heap.size, 3, none⟩ = some (.bool d) ∧ W'.cell? ⟨w.heap.size + 1, 0, none⟩ = some (.int .i64 x) ∧ W'.cell? ⟨w.heap.size + 1, 1, none⟩ = some (.slice b m capb) ∧ Hid (Q fs zs M W')) := hide (by
        rw [hQ]
        intro fs zs M W' h
        obtain ⟨h1, h2, h3, h4, h5, h6⟩ := h.cells
        obtain ⟨k1, k2, k3, k4, k5, k6, -⟩ := HPC.out W' h.p
        exact ⟨h1, h2, h3, h4, h5, h6, k1, k2, k3, k4, k5, k6, hide h⟩)
      clear hQ HQ8' hl4 HK7 HS6 ho8 hb8 hl5
      go_wp2_with fail
      refine (eqStringS_same w8 a8 a5 n8 c8 c5 L (HQG.out _ _ _ _ HQ8.out).row (HQ0.out _ _ _ _ HQ8.out) (by omega)).mono ?_
      rintro e w9 ⟨rfl, hb9⟩
      have HQ9 := hide (HQL.out _ _ _ _ _ HQ8.out hb9)
      clear HQ8 hb9
      have HED : Hid (∀ W' g, Q fs zs L W' → FRow W' 0 (some ⟨g, 0, none⟩) n fs → Calls Tryd.prog 14 #[.agg #[.slice (some ⟨g6, 0, none⟩) n n, .int .i64 c, .int .i64 u, .bool d], .agg #[.slice (some ⟨g, 0, none⟩) n n, .int .i64 c, .int .i64 u, .bool d]] W' fun e w' => e = .returned (.bool true) ∧ Below W'.heap.size W' w') := hide (fun W' g h hr => by
        have h5 := eqDisk_any W' (some ⟨g6, 0, none⟩) (some ⟨g, 0, none⟩) n n n n fs fs (HQD.out _ _ _ _ h).row0 hr (by omega) (by omega) c u c u d d
        rw [eqDB_self] at h5
        exact h5)
      have HEL : Hid (∀ W' g, Q fs zs L W' → IRow W' 0 (some ⟨g, 0, none⟩) m zs → Calls Tryd.prog 15 #[.agg #[.int .i64 x, .slice (some ⟨g7, 0, none⟩) m m], .agg #[.int .i64 x, .slice (some ⟨g, 0, none⟩) m m]] W' fun e w' => e = .returned (.bool true) ∧ Below W'.heap.size W' w') := hide (fun W' g h hr => eqLive_same W' x _ _ m m m zs (HQV.out _ _ _ _ h).row hr hm2)
      have S9 := HQC.out _ _ _ w9.drew (HQL.out _ _ _ w9 w9.drew HQ9.out (Below.refl _ _).drew)
      go_wp2
      first
        | (go_region_held3 (fun W' => W'.cell? ⟨B0, 0, none⟩ = some (.slice (some ⟨g6, 0, none⟩) n n) ∧ W'.cell? ⟨B0, 1, none⟩ = some (.int .i64 c) ∧ W'.cell? ⟨B0, 2, none⟩ = some (.int .i64 u) ∧ W'.cell? ⟨B0, 3, none⟩ = some (.bool d) ∧ W'.cell? ⟨B1, 0, none⟩ = some (.int .i64 x) ∧ W'.cell? ⟨B1, 1, none⟩ = some (.slice (some ⟨g7, 0, none⟩) m m) ∧ W'.cell? ⟨w.heap.size, 0, none⟩ = some (.slice a n cap) ∧ W'.cell? ⟨w.heap.size, 1, none⟩ = some (.int .i64 c) ∧ W'.cell? ⟨w.heap.size, 2, none⟩ = some (.int .i64 u) ∧ W'.cell? ⟨w.heap.size, 3, none⟩ = some (.bool d) ∧ W'.cell? ⟨w.heap.size + 1, 0, none⟩ = some (.int .i64 x) ∧ W'.cell? ⟨w.heap.size + 1, 1, none⟩ = some (.slice b m capb) ∧ Hid (Q fs zs L W')) (assumption) (first
            | (go_at_call 10; refine (HTA.out w9.drew hn (HQP.out _ _ _ _ S9.2.2.2.2.2.2.2.2.2.2.2.2.out)).mono ?_; rintro e w10 ⟨⟨g10, rfl, ho10⟩, hb10⟩; have hk10 := HQL.out _ _ _ _ _ S9.2.2.2.2.2.2.2.2.2.2.2.2.out hb10; have hS10 := HQC.out _ _ _ w10 hk10; have HR10 := hide ho10.row0; clear ho10 hb10)
            | (go_at_call 14; refine (HED.out w10 g10 hk10 HR10.out).mono ?_; rintro e w11 ⟨rfl, hb11⟩; have hk11 := HQL.out _ _ _ _ _ hk10 hb11; have hS11 := HQC.out _ _ _ w11 hk11; clear hb11)))
        | fail
      have HQ11 := hide hk11
      clear hS11 hk11 hS10 hk10 HR10 S9 HQ9 HED
      have S11 := HQC.out _ _ _ w11.drew (HQL.out _ _ _ w11 w11.drew HQ11.out (Below.refl _ _).drew)
      go_wp2
      first
        | (go_region_held3 (fun W' => W'.cell? ⟨B0, 0, none⟩ = some (.slice (some ⟨g6, 0, none⟩) n n) ∧ W'.cell? ⟨B0, 1, none⟩ = some (.int .i64 c) ∧ W'.cell? ⟨B0, 2, none⟩ = some (.int .i64 u) ∧ W'.cell? ⟨B0, 3, none⟩ = some (.bool d) ∧ W'.cell? ⟨B1, 0, none⟩ = some (.int .i64 x) ∧ W'.cell? ⟨B1, 1, none⟩ = some (.slice (some ⟨g7, 0, none⟩) m m) ∧ W'.cell? ⟨w.heap.size, 0, none⟩ = some (.slice a n cap) ∧ W'.cell? ⟨w.heap.size, 1, none⟩ = some (.int .i64 c) ∧ W'.cell? ⟨w.heap.size, 2, none⟩ = some (.int .i64 u) ∧ W'.cell? ⟨w.heap.size, 3, none⟩ = some (.bool d) ∧ W'.cell? ⟨w.heap.size + 1, 0, none⟩ = some (.int .i64 x) ∧ W'.cell? ⟨w.heap.size + 1, 1, none⟩ = some (.slice b m capb) ∧ Hid (Q fs zs L W')) (assumption) (first
            | (go_at_call 11; refine (HTV.out w11.drew hm2 (HQP.out _ _ _ _ S11.2.2.2.2.2.2.2.2.2.2.2.2.out)).mono ?_; rintro e w12 ⟨⟨g12, rfl, ho12⟩, hb12⟩; have hk12 := HQL.out _ _ _ _ _ S11.2.2.2.2.2.2.2.2.2.2.2.2.out hb12; have hS12 := HQC.out _ _ _ w12 hk12; have HR12 := hide ho12.row; clear ho12 hb12)
            | (go_at_call 15; refine (HEL.out w12 g12 hk12 HR12.out).mono ?_; rintro e w13 ⟨rfl, hb13⟩; have hk13 := HQL.out _ _ _ _ _ hk12 hb13; have hS13 := HQC.out _ _ _ w13 hk13; clear hb13)))
        | fail
      have HQ13 := hide hk13
      clear hS13 hk13 hS12 hk12 HR12 S11 HQ11 HEL
      obtain ⟨y0, y1, y2, y3, y4, y5, -⟩ := HQC.out _ _ _ w13 HQ13.out
      go_wp2_with fail
      clear y0 y1 y2 y3 y4 y5
      refine (markDisk_any w13 l2 (some ⟨g6, 0, none⟩) n n fs (HQD.out _ _ _ _ HQ13.out) (by omega) 1 (by omega) (by omega) c u d).mono ?_
      rintro e w14 ⟨rfl, ho14, hg14⟩
      have HQ14 := hide (HMD.out _ _ _ _ _ _ HQ13.out ho14 hg14)
      clear ho14 hg14 HQ13 HMD HQD
      obtain ⟨k1, hk1⟩ : ∃ k, 1 + 3 * n = k := ⟨_, rfl⟩
      have hk1b : k1 ≤ 8388608 := by omega
      rw [hk1]
      clear hk1
      obtain ⟨y0, y1, y2, y3, y4, y5, -⟩ := HQC.out _ _ _ w14 HQ14.out
      go_wp2_with fail
      clear y0 y1 y2 y3 y4 y5
      refine (markLive_any w14 l3 x (some ⟨g7, 0, none⟩) m m zs hm2 k1 (by omega) (HQV.out _ _ _ _ HQ14.out)).mono ?_
      rintro e w15 ⟨rfl, ho15, hg15⟩
      have HQ15 := hide (HML.out _ _ _ _ _ _ HQ14.out ho15 hg15)
      clear ho15 hg15 HQ14 HML HQV
      obtain ⟨k2, hk2⟩ : ∃ k, k1 + m = k := ⟨_, rfl⟩
      have hk2b : k2 ≤ 16777216 := by omega
      have t2 : decide ((k2 : Int) < 0) = false := by first | (simp; done) | (simp; omega)
      rw [hk2]
      clear hk2
      generalize marked n 1 = fs2 at *
      generalize upI m k1 = zs2 at *
      go_wp2_with fail
      refine (eqStringS_same w15 a8 a5 n8 c8 c5 L (HQG.out _ _ _ _ HQ15.out).row (HQ0.out _ _ _ _ HQ15.out) (by omega)).mono ?_
      rintro e w16 ⟨rfl, hb16⟩
      have HQ16 := hide (HQL.out _ _ _ _ _ HQ15.out hb16)
      clear HQ15 hb16 t2 hk2b hk1b
      go_wp2_with fail
      refine (markStringS_any w16 l4 a8 n8 c8 L (HQG.out _ _ _ _ HQ16.out) (by omega) 1 (by omega) (by omega)).mono ?_
      rintro e w17 ⟨rfl, ho17, hg17⟩
      have HQ17 := hide (HMG.out _ _ _ _ _ _ HQ16.out ho17 hg17)
      clear ho17 hg17 HQ16 HMG
      have HHE := hide (fun W (h : TRow W 0 a8 n8 (upS n8 1)) => heldStringS_any W a8 n8 c8 (by omega) 1 (by omega) (by omega) h)
      obtain ⟨t, ht⟩ : ∃ t : Int, ((1 + n8 : Nat) : Int) = t := ⟨_, rfl⟩
      have t1 : decide (t < 0) = false := by simp; omega
      have t2 : (t != t) = false := by simp
      rw [ht] at HHE ⊢
      clear ht
      go_wp2_with fail
      refine (HHE.out w17 (HQG.out _ _ _ _ HQ17.out).row).mono ?_
      rintro e w18 ⟨rfl, hb18⟩
      have HQ18 := hide (HQL.out _ _ _ _ _ HQ17.out hb18)
      clear HQ17 hb18
      have S18 := HQC.out _ _ _ w18.drew (HQL.out _ _ _ w18 w18.drew HQ18.out (Below.refl _ _).drew)
      go_wp2
      first
        | (go_region_held3 (fun W' => W'.cell? ⟨B0, 0, none⟩ = some (.slice (some ⟨g6, 0, none⟩) n n) ∧ W'.cell? ⟨B0, 1, none⟩ = some (.int .i64 c) ∧ W'.cell? ⟨B0, 2, none⟩ = some (.int .i64 u) ∧ W'.cell? ⟨B0, 3, none⟩ = some (.bool d) ∧ W'.cell? ⟨B1, 0, none⟩ = some (.int .i64 x) ∧ W'.cell? ⟨B1, 1, none⟩ = some (.slice (some ⟨g7, 0, none⟩) m m) ∧ W'.cell? ⟨w.heap.size, 0, none⟩ = some (.slice a n cap) ∧ W'.cell? ⟨w.heap.size, 1, none⟩ = some (.int .i64 c) ∧ W'.cell? ⟨w.heap.size, 2, none⟩ = some (.int .i64 u) ∧ W'.cell? ⟨w.heap.size, 3, none⟩ = some (.bool d) ∧ W'.cell? ⟨w.heap.size + 1, 0, none⟩ = some (.int .i64 x) ∧ W'.cell? ⟨w.heap.size + 1, 1, none⟩ = some (.slice b m capb) ∧ Hid (Q fs2 zs2 (upS n8 1) W')) (assumption) (first
            | (go_at_call 10; refine (HTA.out w18.drew hn (HQP.out _ _ _ _ S18.2.2.2.2.2.2.2.2.2.2.2.2.out)).mono ?_; rintro e w19 ⟨⟨g19, rfl, ho19⟩, hb19⟩; have hk19 := HQL.out _ _ _ _ _ S18.2.2.2.2.2.2.2.2.2.2.2.2.out hb19; have hS19 := HQC.out _ _ _ w19 hk19; have HR19 := hide ho19.row0; clear ho19 hb19)
            | (go_at_call 11; refine (HTV.out w19 hm2 (HQP.out _ _ _ _ hk19)).mono ?_; rintro e w20 ⟨⟨g20, rfl, ho20⟩, hb20⟩; have hk20 := HQL.out _ _ _ _ _ hk19 hb20; have hS20 := HQC.out _ _ _ w20 hk20; have HR20 := hide (And.intro (HR19.out.later hb20 (Nat.le_refl _)) ho20.row); clear ho20 hb20)
            | (go_at_call 12; refine (HIO.out w20 g19 g20 (HQP.out _ _ _ _ hk20) HR20.out.1 HR20.out.2).mono ?_; rintro e w21 ⟨⟨a21, n21, c21, rfl, ho21⟩, hb21⟩; have hk21 := HQL.out _ _ _ _ _ hk20 hb21; have HO21 := hide ho21; have hS21 := HQC.out _ _ _ w21 hk21; clear hb21 ho21)))
        | fail
      have HQ21 := hide hk21
      have hl8 := (HQ0.out _ _ _ _ hk21).len
      obtain rfl : n21 = n8 := by have := HO21.out.len; omega
      clear hS21 hk21 hS20 hk20 HR20 hS19 hk19 HR19 S18 HQ18 hl8
      go_wp2_with fail
      refine (eqStringS_same w21 a21 a5 n21 c21 c5 L HO21.out.row (HQ0.out _ _ _ _ HQ21.out) (by omega)).mono ?_
      rintro e w22 ⟨rfl, hb22⟩
      have HQ22 := hide (HQL.out _ _ _ _ _ HQ21.out hb22)
      clear HQ21 hb22 HO21
      go_wp2_with fail
      refine (HHE.out w22 (HQG.out _ _ _ _ HQ22.out).row).mono ?_
      rintro e w23 ⟨rfl, hb23⟩
      have HB23 := hide (HPB.out _ (HQP.out _ _ _ _ (HQL.out _ _ _ _ _ HQ22.out hb23))).1
      clear HQ22 hb23 HHE
      go_wp2
      go_ret
      exact ⟨rfl, HB23.out⟩
  · rw [lessR_no (by omega)]
    have HB := hide (HPB.out w1 HA1.out).1
    go_wp2
    go_ret
    exact ⟨rfl, HB.out⟩

end Go.Proofs.YthnealhaleccpabDoor
