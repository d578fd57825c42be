/-
  The walk of FnExactSameDisk.
-/
import Derived.Test.YtnckdfidehbcaaaSameImpl
import Derived.Test.YtnckdfidehbcaaaSzDisk
import Derived.Test.YtnckdfidehbcaaaToDisk
import Derived.Deep.RegionHeld3
namespace Go.Proofs.Ytnckdfidehbcaaa
open Go.RowKit
open Plain

theorem lt_of_blk {w : World} {b : Nat} {o : Obj} (h : w.heap[b]? = some o) : b < w.heap.size := (Array.getElem?_eq_some_iff.1 h).1
theorem FOwn.row00 {w : World} {base : Nat} {a : Option Addr} {n cap : Nat} {fs : List FileV} (h : FOwn w base (.slice a n cap) fs) : FRow w 0 a n fs where
  len := h.row.len
  cells := fun i hi => by
    obtain ⟨b, off, h1, _, h3⟩ := h.row.cells i hi
    exact ⟨b, off, h1, Nat.zero_le _, h3⟩
/-- A disk in a block b, its type's number t. -/
structure DIn (v : World) (t : TypeId) (b : Nat) (a : Option Addr) (n cap : Nat) (c u : Int) (d : Bool) (fs : List FileV) : Prop where
  cell : v.heap[b]? = some (.cells #[.slice a n cap, .int .i64 c, .int .i64 u, .bool d] t (0, 0))
  row : FRow v 0 a n fs
theorem DIn.later {v v' : World} {t : TypeId} {b : Nat} {a : Option Addr} {n cap : Nat} {c u : Int} {d : Bool} {fs : List FileV} (h : DIn v t b a n cap c u d fs) (hb : Below v.heap.size v v') : DIn v' t b a n cap c u d fs :=
  ⟨(hb.block _ (lt_of_blk h.cell)).trans h.cell, h.row.later hb (Nat.le_refl _)⟩
theorem DIn.cells {v : World} {t : TypeId} {b : Nat} {a : Option Addr} {n cap : Nat} {c u : Int} {d : Bool} {fs : List FileV} (h : DIn v t b a n cap c u d fs) :
    v.cell? ⟨b, 0, none⟩ = some (.slice a n cap) ∧ v.cell? ⟨b, 1, none⟩ = some (.int .i64 c) ∧ v.cell? ⟨b, 2, none⟩ = some (.int .i64 u) ∧ v.cell? ⟨b, 3, none⟩ = some (.bool d) :=
  ⟨(cells4 h.cell).1, (cells4 h.cell).2.1, (cells4 h.cell).2.2.1, (cells4 h.cell).2.2.2.1⟩

set_option maxRecDepth 100000 in
set_option maxHeartbeats 8000000 in
theorem lawSame_walk (w : World) (a b : Option Addr) (n m cap cap' : Nat) (fs gs : List FileV) (hr : FRow w 0 a n fs) (hq : FRow w 0 b m gs) (hf : Fits fs) (hg : Fits gs) (hl : n ≤ maxLen) (hm : m ≤ maxLen) (c u c' u' : Int) (d d' : Bool) :
    Calls Try.prog 4 #[.agg #[.slice a n cap, .int .i64 c, .int .i64 u, .bool d], .agg #[.slice b m cap', .int .i64 c', .int .i64 u', .bool d']] w fun e w' => e = .returned (.bool true) ∧ Below w.heap.size w w' := by
  obtain ⟨W, hW⟩ : ∃ W, W = (w.alloc (.cells #[.slice a n cap, .int .i64 c, .int .i64 u, .bool d] 39)).alloc (.cells #[.slice b m cap', .int .i64 c', .int .i64 u', .bool d'] 39) := ⟨_, rfl⟩
  have hA := alloc2 w (.cells #[.slice a n cap, .int .i64 c, .int .i64 u, .bool d] 39) (.cells #[.slice b m cap', .int .i64 c', .int .i64 u', .bool d'] 39)
  rw [← hW] at hA
  have HA : Hid (Below w.heap.size w W ∧ DIn W 39 w.heap.size a n cap c u d fs ∧ DIn W 39 (w.heap.size + 1) b m cap' c' u' d' gs) := hide ⟨hA.2.1, ⟨hA.2.2.1, hr.later hA.2.1 (Nat.le_refl _)⟩, ⟨hA.2.2.2, hq.later hA.2.1 (Nat.le_refl _)⟩⟩
  clear hA hr hq
  have HLT : Hid (∀ W' W'', (Below w.heap.size w W' ∧ DIn W' 39 w.heap.size a n cap c u d fs ∧ DIn W' 39 (w.heap.size + 1) b m cap' c' u' d' gs) → Below W'.heap.size W' W'' → (Below w.heap.size w W'' ∧ DIn W'' 39 w.heap.size a n cap c u d fs ∧ DIn W'' 39 (w.heap.size + 1) b m cap' c' u' d' gs)) := hide (fun W' W'' h hb => ⟨h.1.trans (hb.mono h.1.size), h.2.1.later hb, h.2.2.later hb⟩)
  go_enter Try.func4, Try.ntmps4
  go_wp2_with fail
  rw [← hW]
  clear hW
  refine (szDisk_any W a n cap fs HA.out.2.1.row hf hl c u d 1048576 (by omega) (by omega)).mono ?_
  rintro e w1 ⟨rfl, hb1⟩
  have HA1 := hide (HLT.out W w1 HA.out hb1)
  clear HA hb1
  by_cases hsz : n + szFs fs ≤ 1048576
  · rw [lessR_yes (by omega)]
    obtain ⟨L0, hL0⟩ : ∃ L0 : Int, (1048576 : Int) - ((n + szFs fs : Nat) : Int) = L0 ∧ 0 ≤ L0 ∧ L0 ≤ 1048576 := ⟨_, rfl, by omega, by omega⟩
    rw [hL0.1]
    have hL := hL0.2
    have hn : n ≤ 1048576 := by omega
    clear hL0 hsz
    have d0 : decide (L0 < 0) = false := by simp; omega
    obtain ⟨x0, x1, x2, x3⟩ := HA1.out.2.2.cells
    go_wp2_with fail
    clear x0 x1 x2 x3
    refine (szDisk_any w1 b m cap' gs HA1.out.2.2.row hg hm c' u' d' L0 (by omega) (by omega)).mono ?_
    rintro e w2 ⟨rfl, hb2⟩
    have HA2 := hide (HLT.out w1 w2 HA1.out hb2)
    clear HA1 hb2
    by_cases hsz2 : ((m + szFs gs : Nat) : Int) ≤ L0
    · rw [lessR_yes hsz2]
      obtain ⟨L1, hL1⟩ : ∃ L1 : Int, L0 - ((m + szFs gs : Nat) : Int) = L1 ∧ 0 ≤ L1 := ⟨_, rfl, by omega⟩
      rw [hL1.1]
      have hL1' := hL1.2
      have hm2 : m ≤ 1048576 := by omega
      clear hL1 hsz2
      have d1 : decide (L1 < 0) = false := by simp; omega
      obtain ⟨z, hz⟩ : ∃ z, eqDB fs gs c c' u u' d d' = z := ⟨_, rfl⟩
      have HZ := hide hz
      clear hz
      have HSK : Hid (∀ W', (Below w.heap.size w W' ∧ DIn W' 39 w.heap.size a n cap c u d fs ∧ DIn W' 39 (w.heap.size + 1) b m cap' c' u' d' gs) → W'.cell? ⟨w.heap.size, 0, none⟩ = some (.slice a n cap) ∧ W'.cell? ⟨w.heap.size, 1, none⟩ = some (.int .i64 c) ∧ W'.cell? ⟨w.heap.size, 2, none⟩ = some (.int .i64 u) ∧ W'.cell? ⟨w.heap.size, 3, none⟩ = some (.bool d) ∧ W'.cell? ⟨w.heap.size + 1, 0, none⟩ = some (.slice b m cap') ∧ W'.cell? ⟨w.heap.size + 1, 1, none⟩ = some (.int .i64 c') ∧ W'.cell? ⟨w.heap.size + 1, 2, none⟩ = some (.int .i64 u') ∧ W'.cell? ⟨w.heap.size + 1, 3, none⟩ = some (.bool d') ∧ Hid (Below w.heap.size w W' ∧ DIn W' 39 w.heap.size a n cap c u d fs ∧ DIn W' 39 (w.heap.size + 1) b m cap' c' u' d' gs)) := hide (fun W' h => by
        obtain ⟨z0, z1, z2, z3⟩ := h.2.1.cells
        obtain ⟨v0, v1, v2, v3⟩ := h.2.2.cells
        exact ⟨z0, z1, z2, z3, v0, v1, v2, v3, hide h⟩)
      have HTA : Hid (∀ W', Hid (Below w.heap.size w W' ∧ DIn W' 39 w.heap.size a n cap c u d fs ∧ DIn W' 39 (w.heap.size + 1) b m cap' c' u' d' gs) → Calls Try.prog 16 #[.agg #[.slice a n cap, .int .i64 c, .int .i64 u, .bool d]] W' fun e w' => (∃ g, e = .returned (.agg #[.slice (some ⟨g, 0, none⟩) n n, .int .i64 c, .int .i64 u, .bool d]) ∧ FRow w' 0 (some ⟨g, 0, none⟩) n fs) ∧ (Below w.heap.size w w' ∧ DIn w' 39 w.heap.size a n cap c u d fs ∧ DIn w' 39 (w.heap.size + 1) b m cap' c' u' d' gs) ∧ Below W'.heap.size W' w') := hide (fun W' h => (toDisk_any W' a n cap fs h.out.2.1.row hn c u d).mono (fun e w' ⟨⟨g, h1, h2⟩, h3⟩ => ⟨⟨g, h1, h2.row00⟩, HLT.out W' w' h.out h3, h3⟩))
      have HTB : Hid (∀ W', Hid (Below w.heap.size w W' ∧ DIn W' 39 w.heap.size a n cap c u d fs ∧ DIn W' 39 (w.heap.size + 1) b m cap' c' u' d' gs) → Calls Try.prog 16 #[.agg #[.slice b m cap', .int .i64 c', .int .i64 u', .bool d']] W' fun e w' => (∃ g, e = .returned (.agg #[.slice (some ⟨g, 0, none⟩) m m, .int .i64 c', .int .i64 u', .bool d']) ∧ FRow w' 0 (some ⟨g, 0, none⟩) m gs) ∧ (Below w.heap.size w w' ∧ DIn w' 39 w.heap.size a n cap c u d fs ∧ DIn w' 39 (w.heap.size + 1) b m cap' c' u' d' gs) ∧ Below W'.heap.size W' w') := hide (fun W' h => (toDisk_any W' b m cap' gs h.out.2.2.row hm2 c' u' d').mono (fun e w' ⟨⟨g, h1, h2⟩, h3⟩ => ⟨⟨g, h1, h2.row00⟩, HLT.out W' w' h.out h3, h3⟩))
      have S2 := HSK.out w2.drew (HLT.out w2 w2.drew HA2.out (Below.refl _ _).drew)
      go_wp2
      first
        | (go_region_held3 (fun w' => w'.cell? ⟨w.heap.size, 0, none⟩ = some (.slice a n cap) ∧ w'.cell? ⟨w.heap.size, 1, none⟩ = some (.int .i64 c) ∧ w'.cell? ⟨w.heap.size, 2, none⟩ = some (.int .i64 u) ∧ w'.cell? ⟨w.heap.size, 3, none⟩ = some (.bool d) ∧ w'.cell? ⟨w.heap.size + 1, 0, none⟩ = some (.slice b m cap') ∧ w'.cell? ⟨w.heap.size + 1, 1, none⟩ = some (.int .i64 c') ∧ w'.cell? ⟨w.heap.size + 1, 2, none⟩ = some (.int .i64 u') ∧ w'.cell? ⟨w.heap.size + 1, 3, none⟩ = some (.bool d') ∧ Hid (Below w.heap.size w w' ∧ DIn w' 39 w.heap.size a n cap c u d fs ∧ DIn w' 39 (w.heap.size + 1) b m cap' c' u' d' gs)) (assumption) (first
            | (go_at_call_of 16 (Value.agg #[.slice a n cap, .int .i64 c, .int .i64 u, .bool d]); refine (HTA.out w2.drew S2.2.2.2.2.2.2.2.2).mono ?_; rintro e w7 ⟨⟨g7, rfl, hr7⟩, hk7, hb7⟩; have hS7 := HSK.out w7 hk7; have HR7 := hide hr7; clear hr7 hb7)
            | (go_at_call_of 16 (Value.agg #[.slice b m cap', .int .i64 c', .int .i64 u', .bool d']); refine (HTB.out w7 hS7.2.2.2.2.2.2.2.2).mono ?_; rintro e w8 ⟨⟨g8, rfl, hr8⟩, hk8, hb8⟩; have hS8 := HSK.out w8 hk8; have HR8 := hide (And.intro (HR7.out.later hb8 (Nat.le_refl _)) hr8); clear hr8 hb8)
            | (go_at_call 15; refine (specSame_any w8 (some ⟨g7, 0, none⟩) (some ⟨g8, 0, none⟩) n m n m fs gs HR8.out.1 HR8.out.2 (by omega) (by omega) c u c' u' d d').mono ?_; rintro e w9 ⟨rfl, hb9⟩; rw [HZ.out]; have hk9 := HLT.out w8 w9 hk8 hb9; have hS9 := HSK.out w9 hk9; clear hb9)))
        | fail
      have HA9 := hide hk9
      clear hS9 hk9 hS8 hk8 HR8 hS7 hk7 HR7 S2 HA2
      obtain ⟨y0, y1, y2, y3⟩ := HA9.out.2.1.cells
      go_wp2_with fail
      clear y0 y1 y2 y3
      refine (HTA.out w9 HA9).mono ?_
      rintro e w10 ⟨⟨g10, rfl, hr10⟩, hk10, -⟩
      obtain ⟨X, hX⟩ : ∃ X, X = w10.alloc (.cells #[.slice (some ⟨g10, 0, none⟩) n n, .int .i64 c, .int .i64 u, .bool d] 44) := ⟨_, rfl⟩
      have hbX : Below w10.heap.size w10 X := by rw [hX]; exact (Below.refl _ _).alloc (Nat.le_refl _) _
      have HAX := hide (HLT.out w10 X hk10 hbX)
      have HV0 : Hid (DIn X 44 w10.heap.size (some ⟨g10, 0, none⟩) n n c u d fs) := hide ⟨by rw [hX]; exact heap_alloc_new w10 _, hr10.later hbX (Nat.le_refl _)⟩
      have y := HAX.out.2.2.cells
      rw [hX] at y
      obtain ⟨y0, y1, y2, y3⟩ := y
      go_wp2_with fail
      clear y0 y1 y2 y3
      rw [← hX]
      clear hX hr10 hk10 hbX HA9
      obtain ⟨b10, hb10⟩ : ∃ b, w10.heap.size = b := ⟨_, rfl⟩
      rw [hb10] at HV0 ⊢
      clear hb10
      refine (HTB.out X HAX).mono ?_
      rintro e w11 ⟨⟨g11, rfl, hr11⟩, hk11, hb11⟩
      have hv01 := HV0.out.later hb11
      obtain ⟨Y, hY⟩ : ∃ Y, Y = w11.alloc (.cells #[.slice (some ⟨g11, 0, none⟩) m m, .int .i64 c', .int .i64 u', .bool d'] 44) := ⟨_, rfl⟩
      have hbY : Below w11.heap.size w11 Y := by rw [hY]; exact (Below.refl _ _).alloc (Nat.le_refl _) _
      have HAY := hide (HLT.out w11 Y hk11 hbY)
      have HV1 : Hid (DIn Y 44 w11.heap.size (some ⟨g11, 0, none⟩) m m c' u' d' gs) := hide ⟨by rw [hY]; exact heap_alloc_new w11 _, hr11.later hbY (Nat.le_refl _)⟩
      have HV0Y := hide (hv01.later hbY)
      have y := HV1.out.cells
      rw [hY] at y
      obtain ⟨y0, y1, y2, y3⟩ := y
      have v := HV0Y.out.cells
      rw [hY] at v
      obtain ⟨v0, v1, v2, v3⟩ := v
      clear hr11 hk11 hb11 hv01 HV0 HAX
      go_wp2_with fail
      clear y0 y1 y2 y3 v0 v1 v2 v3
      rw [← hY]
      clear hY hbY
      obtain ⟨b11, hb11⟩ : ∃ b, w11.heap.size = b := ⟨_, rfl⟩
      rw [hb11] at HV1 ⊢
      clear hb11
      refine (implSame_any Y (some ⟨g10, 0, none⟩) (some ⟨g11, 0, none⟩) n m n m fs gs HV0Y.out.row HV1.out.row (by omega) (by omega) c u c' u' d d').mono ?_
      rintro e w12 ⟨rfl, hb12⟩
      rw [HZ.out]
      have hzz : (z != z) = false := by cases z <;> rfl
      have HK1 : Hid ((Below w.heap.size w w12 ∧ DIn w12 39 w.heap.size a n cap c u d fs ∧ DIn w12 39 (w.heap.size + 1) b m cap' c' u' d' gs) ∧ DIn w12 44 b10 (some ⟨g10, 0, none⟩) n n c u d fs ∧ DIn w12 44 b11 (some ⟨g11, 0, none⟩) m m c' u' d' gs) := hide ⟨HLT.out Y w12 HAY.out hb12, HV0Y.out.later hb12, HV1.out.later hb12⟩
      have HKX : Hid (∀ W' W'', ((Below w.heap.size w W' ∧ DIn W' 39 w.heap.size a n cap c u d fs ∧ DIn W' 39 (w.heap.size + 1) b m cap' c' u' d' gs) ∧ DIn W' 44 b10 (some ⟨g10, 0, none⟩) n n c u d fs ∧ DIn W' 44 b11 (some ⟨g11, 0, none⟩) m m c' u' d' gs) → Below W'.heap.size W' W'' → ((Below w.heap.size w W'' ∧ DIn W'' 39 w.heap.size a n cap c u d fs ∧ DIn W'' 39 (w.heap.size + 1) b m cap' c' u' d' gs) ∧ DIn W'' 44 b10 (some ⟨g10, 0, none⟩) n n c u d fs ∧ DIn W'' 44 b11 (some ⟨g11, 0, none⟩) m m c' u' d' gs)) := hide (fun W' W'' h hb => ⟨HLT.out W' W'' h.1 hb, h.2.1.later hb, h.2.2.later hb⟩)
      clear hb12 HAY HV0Y HV1 HSK

      have HSK1 : Hid (∀ W', ((Below w.heap.size w W' ∧ DIn W' 39 w.heap.size a n cap c u d fs ∧ DIn W' 39 (w.heap.size + 1) b m cap' c' u' d' gs) ∧ DIn W' 44 b10 (some ⟨g10, 0, none⟩) n n c u d fs ∧ DIn W' 44 b11 (some ⟨g11, 0, none⟩) m m c' u' d' gs) → W'.cell? ⟨b10, 0, none⟩ = some (.slice (some ⟨g10, 0, none⟩) n n) ∧ W'.cell? ⟨b10, 1, none⟩ = some (.int .i64 c) ∧ W'.cell? ⟨b10, 2, none⟩ = some (.int .i64 u) ∧ W'.cell? ⟨b10, 3, none⟩ = some (.bool d) ∧ W'.cell? ⟨w.heap.size, 0, none⟩ = some (.slice a n cap) ∧ W'.cell? ⟨w.heap.size, 1, none⟩ = some (.int .i64 c) ∧ W'.cell? ⟨w.heap.size, 2, none⟩ = some (.int .i64 u) ∧ W'.cell? ⟨w.heap.size, 3, none⟩ = some (.bool d) ∧ Hid ((Below w.heap.size w W' ∧ DIn W' 39 w.heap.size a n cap c u d fs ∧ DIn W' 39 (w.heap.size + 1) b m cap' c' u' d' gs) ∧ DIn W' 44 b10 (some ⟨g10, 0, none⟩) n n c u d fs ∧ DIn W' 44 b11 (some ⟨g11, 0, none⟩) m m c' u' d' gs)) := hide (fun W' h => by
        obtain ⟨z0, z1, z2, z3⟩ := h.2.1.cells
        obtain ⟨v0, v1, v2, v3⟩ := h.1.2.1.cells
        exact ⟨z0, z1, z2, z3, v0, v1, v2, v3, hide h⟩)
      have HTD1 : Hid (∀ W', Hid ((Below w.heap.size w W' ∧ DIn W' 39 w.heap.size a n cap c u d fs ∧ DIn W' 39 (w.heap.size + 1) b m cap' c' u' d' gs) ∧ DIn W' 44 b10 (some ⟨g10, 0, none⟩) n n c u d fs ∧ DIn W' 44 b11 (some ⟨g11, 0, none⟩) m m c' u' d' gs) → Calls Try.prog 16 #[.agg #[.slice a n cap, .int .i64 c, .int .i64 u, .bool d]] W' fun e w' => (∃ g, e = .returned (.agg #[.slice (some ⟨g, 0, none⟩) n n, .int .i64 c, .int .i64 u, .bool d]) ∧ FRow w' 0 (some ⟨g, 0, none⟩) n fs) ∧ ((Below w.heap.size w w' ∧ DIn w' 39 w.heap.size a n cap c u d fs ∧ DIn w' 39 (w.heap.size + 1) b m cap' c' u' d' gs) ∧ DIn w' 44 b10 (some ⟨g10, 0, none⟩) n n c u d fs ∧ DIn w' 44 b11 (some ⟨g11, 0, none⟩) m m c' u' d' gs)) := hide (fun W' h => (HTA.out W' (hide h.out.1)).mono (fun e w' ⟨⟨g, h1, h2⟩, h3, h4⟩ => ⟨⟨g, h1, h2⟩, HKX.out W' w' h.out h4⟩))
      have HEQ1 : Hid (∀ W' g, Hid ((Below w.heap.size w W' ∧ DIn W' 39 w.heap.size a n cap c u d fs ∧ DIn W' 39 (w.heap.size + 1) b m cap' c' u' d' gs) ∧ DIn W' 44 b10 (some ⟨g10, 0, none⟩) n n c u d fs ∧ DIn W' 44 b11 (some ⟨g11, 0, none⟩) m m c' u' d' gs) → FRow W' 0 (some ⟨g, 0, none⟩) n fs → Calls Try.prog 18 #[.agg #[.slice (some ⟨g10, 0, none⟩) n n, .int .i64 c, .int .i64 u, .bool d], .agg #[.slice (some ⟨g, 0, none⟩) n n, .int .i64 c, .int .i64 u, .bool d]] W' fun e w' => e = .returned (.bool true) ∧ ((Below w.heap.size w w' ∧ DIn w' 39 w.heap.size a n cap c u d fs ∧ DIn w' 39 (w.heap.size + 1) b m cap' c' u' d' gs) ∧ DIn w' 44 b10 (some ⟨g10, 0, none⟩) n n c u d fs ∧ DIn w' 44 b11 (some ⟨g11, 0, none⟩) m m c' u' d' gs)) := hide (fun W' g h hr => by
        have h5 := eqDisk_any W' (some ⟨g10, 0, none⟩) (some ⟨g, 0, none⟩) n n n n fs fs h.out.2.1.row hr (by omega) (by omega) c u c u d d
        rw [(eqDB_iff ..).2 ⟨rfl, rfl, rfl, rfl⟩] at h5
        exact h5.mono (fun e w' ⟨h1, h2⟩ => ⟨h1, HKX.out W' w' h.out h2⟩))
      have S1 := HSK1.out w12.drew (HKX.out w12 w12.drew HK1.out (Below.refl _ _).drew)
      go_wp2
      first
        | (go_region_held3 (fun w' => w'.cell? ⟨b10, 0, none⟩ = some (.slice (some ⟨g10, 0, none⟩) n n) ∧ w'.cell? ⟨b10, 1, none⟩ = some (.int .i64 c) ∧ w'.cell? ⟨b10, 2, none⟩ = some (.int .i64 u) ∧ w'.cell? ⟨b10, 3, none⟩ = some (.bool d) ∧ w'.cell? ⟨w.heap.size, 0, none⟩ = some (.slice a n cap) ∧ w'.cell? ⟨w.heap.size, 1, none⟩ = some (.int .i64 c) ∧ w'.cell? ⟨w.heap.size, 2, none⟩ = some (.int .i64 u) ∧ w'.cell? ⟨w.heap.size, 3, none⟩ = some (.bool d) ∧ Hid ((Below w.heap.size w w' ∧ DIn w' 39 w.heap.size a n cap c u d fs ∧ DIn w' 39 (w.heap.size + 1) b m cap' c' u' d' gs) ∧ DIn w' 44 b10 (some ⟨g10, 0, none⟩) n n c u d fs ∧ DIn w' 44 b11 (some ⟨g11, 0, none⟩) m m c' u' d' gs)) (assumption) (first
            | (go_at_call 16; refine (HTD1.out w12.drew S1.2.2.2.2.2.2.2.2).mono ?_; rintro e w71 ⟨⟨g71, rfl, hr7⟩, hk7⟩; have hS7 := HSK1.out w71 hk7; have HR7 := hide hr7; clear hr7)
            | (go_at_call 18; refine (HEQ1.out w71 g71 hS7.2.2.2.2.2.2.2.2 HR7.out).mono ?_; rintro e w13 ⟨rfl, hk8⟩; have hS8 := HSK1.out w13 hk8)))
        | fail
      have HK2 := hide hk8
      clear hS8 hk8 hS7 hk7 HR7 S1 HK1 HEQ1 HTD1 HSK1

      have HSK2 : Hid (∀ W', ((Below w.heap.size w W' ∧ DIn W' 39 w.heap.size a n cap c u d fs ∧ DIn W' 39 (w.heap.size + 1) b m cap' c' u' d' gs) ∧ DIn W' 44 b10 (some ⟨g10, 0, none⟩) n n c u d fs ∧ DIn W' 44 b11 (some ⟨g11, 0, none⟩) m m c' u' d' gs) → W'.cell? ⟨b11, 0, none⟩ = some (.slice (some ⟨g11, 0, none⟩) m m) ∧ W'.cell? ⟨b11, 1, none⟩ = some (.int .i64 c') ∧ W'.cell? ⟨b11, 2, none⟩ = some (.int .i64 u') ∧ W'.cell? ⟨b11, 3, none⟩ = some (.bool d') ∧ W'.cell? ⟨w.heap.size + 1, 0, none⟩ = some (.slice b m cap') ∧ W'.cell? ⟨w.heap.size + 1, 1, none⟩ = some (.int .i64 c') ∧ W'.cell? ⟨w.heap.size + 1, 2, none⟩ = some (.int .i64 u') ∧ W'.cell? ⟨w.heap.size + 1, 3, none⟩ = some (.bool d') ∧ Hid ((Below w.heap.size w W' ∧ DIn W' 39 w.heap.size a n cap c u d fs ∧ DIn W' 39 (w.heap.size + 1) b m cap' c' u' d' gs) ∧ DIn W' 44 b10 (some ⟨g10, 0, none⟩) n n c u d fs ∧ DIn W' 44 b11 (some ⟨g11, 0, none⟩) m m c' u' d' gs)) := hide (fun W' h => by
        obtain ⟨z0, z1, z2, z3⟩ := h.2.2.cells
        obtain ⟨v0, v1, v2, v3⟩ := h.1.2.2.cells
        exact ⟨z0, z1, z2, z3, v0, v1, v2, v3, hide h⟩)
      have HTD2 : Hid (∀ W', Hid ((Below w.heap.size w W' ∧ DIn W' 39 w.heap.size a n cap c u d fs ∧ DIn W' 39 (w.heap.size + 1) b m cap' c' u' d' gs) ∧ DIn W' 44 b10 (some ⟨g10, 0, none⟩) n n c u d fs ∧ DIn W' 44 b11 (some ⟨g11, 0, none⟩) m m c' u' d' gs) → Calls Try.prog 16 #[.agg #[.slice b m cap', .int .i64 c', .int .i64 u', .bool d']] W' fun e w' => (∃ g, e = .returned (.agg #[.slice (some ⟨g, 0, none⟩) m m, .int .i64 c', .int .i64 u', .bool d']) ∧ FRow w' 0 (some ⟨g, 0, none⟩) m gs) ∧ ((Below w.heap.size w w' ∧ DIn w' 39 w.heap.size a n cap c u d fs ∧ DIn w' 39 (w.heap.size + 1) b m cap' c' u' d' gs) ∧ DIn w' 44 b10 (some ⟨g10, 0, none⟩) n n c u d fs ∧ DIn w' 44 b11 (some ⟨g11, 0, none⟩) m m c' u' d' gs)) := hide (fun W' h => (HTB.out W' (hide h.out.1)).mono (fun e w' ⟨⟨g, h1, h2⟩, h3, h4⟩ => ⟨⟨g, h1, h2⟩, HKX.out W' w' h.out h4⟩))
      have HEQ2 : Hid (∀ W' g, Hid ((Below w.heap.size w W' ∧ DIn W' 39 w.heap.size a n cap c u d fs ∧ DIn W' 39 (w.heap.size + 1) b m cap' c' u' d' gs) ∧ DIn W' 44 b10 (some ⟨g10, 0, none⟩) n n c u d fs ∧ DIn W' 44 b11 (some ⟨g11, 0, none⟩) m m c' u' d' gs) → FRow W' 0 (some ⟨g, 0, none⟩) m gs → Calls Try.prog 18 #[.agg #[.slice (some ⟨g11, 0, none⟩) m m, .int .i64 c', .int .i64 u', .bool d'], .agg #[.slice (some ⟨g, 0, none⟩) m m, .int .i64 c', .int .i64 u', .bool d']] W' fun e w' => e = .returned (.bool true) ∧ ((Below w.heap.size w w' ∧ DIn w' 39 w.heap.size a n cap c u d fs ∧ DIn w' 39 (w.heap.size + 1) b m cap' c' u' d' gs) ∧ DIn w' 44 b10 (some ⟨g10, 0, none⟩) n n c u d fs ∧ DIn w' 44 b11 (some ⟨g11, 0, none⟩) m m c' u' d' gs)) := hide (fun W' g h hr => by
        have h5 := eqDisk_any W' (some ⟨g11, 0, none⟩) (some ⟨g, 0, none⟩) m m m m gs gs h.out.2.2.row hr (by omega) (by omega) c' u' c' u' d' d'
        rw [(eqDB_iff ..).2 ⟨rfl, rfl, rfl, rfl⟩] at h5
        exact h5.mono (fun e w' ⟨h1, h2⟩ => ⟨h1, HKX.out W' w' h.out h2⟩))
      have S2 := HSK2.out w13.drew (HKX.out w13 w13.drew HK2.out (Below.refl _ _).drew)
      go_wp2
      first
        | (go_region_held3 (fun w' => w'.cell? ⟨b11, 0, none⟩ = some (.slice (some ⟨g11, 0, none⟩) m m) ∧ w'.cell? ⟨b11, 1, none⟩ = some (.int .i64 c') ∧ w'.cell? ⟨b11, 2, none⟩ = some (.int .i64 u') ∧ w'.cell? ⟨b11, 3, none⟩ = some (.bool d') ∧ w'.cell? ⟨w.heap.size + 1, 0, none⟩ = some (.slice b m cap') ∧ w'.cell? ⟨w.heap.size + 1, 1, none⟩ = some (.int .i64 c') ∧ w'.cell? ⟨w.heap.size + 1, 2, none⟩ = some (.int .i64 u') ∧ w'.cell? ⟨w.heap.size + 1, 3, none⟩ = some (.bool d') ∧ Hid ((Below w.heap.size w w' ∧ DIn w' 39 w.heap.size a n cap c u d fs ∧ DIn w' 39 (w.heap.size + 1) b m cap' c' u' d' gs) ∧ DIn w' 44 b10 (some ⟨g10, 0, none⟩) n n c u d fs ∧ DIn w' 44 b11 (some ⟨g11, 0, none⟩) m m c' u' d' gs)) (assumption) (first
            | (go_at_call 16; refine (HTD2.out w13.drew S2.2.2.2.2.2.2.2.2).mono ?_; rintro e w72 ⟨⟨g72, rfl, hr7⟩, hk7⟩; have hS7 := HSK2.out w72 hk7; have HR7 := hide hr7; clear hr7)
            | (go_at_call 18; refine (HEQ2.out w72 g72 hS7.2.2.2.2.2.2.2.2 HR7.out).mono ?_; rintro e w14 ⟨rfl, hk8⟩; have hS8 := HSK2.out w14 hk8)))
        | fail
      have HK3 := hide hk8
      clear hS8 hk8 hS7 hk7 HR7 S2 HK2 HEQ2 HTD2 HSK2
      go_wp2
      go_ret
      exact ⟨rfl, HK3.out.1.1⟩
    · rw [lessR_no (by omega)]
      go_wp2
      go_ret
      exact ⟨rfl, HA2.out.1⟩
  · rw [lessR_no (by omega)]
    go_wp2
    go_ret
    exact ⟨rfl, HA1.out.1⟩

end Go.Proofs.Ytnckdfidehbcaaa
