/-
  The walk of an exact law of a function of a disk and a list of numbers that answers a disk, over contracts of spec's and of impl's function: both answer R.
-/
import Derived.Test.YthfpcjamlbkgfaaLawBase
import Derived.Test.YthfpcjamlbkgfaaToDisk
import Derived.Test.YthfpcjamlbkgfaaEqDisk
import Derived.Test.YthfpcjamlbkgfaaIntRow
import Derived.Deep.RegionHeld3
namespace Go.Proofs.Ythfpcjamlbkgfaa
open Go.RowKit
open Plain

/-- At these arguments the function f answers these files and these fields, in new memory. -/
def AnswersZ (f : FuncId) (zs : List Int) (m : Nat) (fs : List FileV) (n : Nat) (c u : Int) (d : Bool) (R : List FileV) (U : Int) (D : Bool) : Prop :=
  ∀ (w : World) (g h : Nat), FRow w 0 (some ⟨g, 0, none⟩) n fs → IRow w 0 (some ⟨h, 0, none⟩) m zs →
    Calls Try.prog f #[.agg #[.slice (some ⟨g, 0, none⟩) n n, .int .i64 c, .int .i64 u, .bool d], .slice (some ⟨h, 0, none⟩) m m] w fun e w' => (∃ a' cap', e = .returned (.agg #[.slice a' R.length cap', .int .i64 c, .int .i64 U, .bool D]) ∧ FOwn w' w.heap.size (.slice a' R.length cap') R) ∧ Below w.heap.size w w'

set_option maxRecDepth 100000 in
set_option maxHeartbeats 8000000 in
theorem law4_walk (w : World) (a : Option Addr) (n cap : Nat) (fs : List FileV) (hr : FRow w 0 a n fs) (hf : Fits fs) (hl : n ≤ maxLen) (c u : Int) (d : Bool) (b : Option Addr) (m capb : Nat) (zs : List Int) (hzr : IRow w 0 b m zs) (hml : m ≤ maxLen) (R : List FileV) (U : Int) (D : Bool) (hRl0 : n + szFs fs ≤ 1048576 → R.length ≤ 1099511627776)
    (hS : n + szFs fs ≤ 1048576 → m ≤ 1048576 → AnswersZ 18 zs m fs n c u d R U D) (hI : n + szFs fs ≤ 1048576 → m ≤ 1048576 → AnswersZ 10 zs m fs n c u d R U D) :
    Calls Try.prog 4 #[.agg #[.slice a n cap, .int .i64 c, .int .i64 u, .bool d], .slice b m capb] w fun e w' => e = .returned (.bool true) ∧ Below w.heap.size w w' := by
  have hA0 := alloc_below w (.cells #[.slice a n cap, .int .i64 c, .int .i64 u, .bool d] 39)
  obtain ⟨W, hW⟩ : ∃ W, W = w.alloc (.cells #[.slice a n cap, .int .i64 c, .int .i64 u, .bool d] 39) := ⟨_, rfl⟩
  have HA : Hid (LArg w a n cap c u d fs W) := hide (by rw [hW]; exact ⟨heap_alloc_new w _, hr.later hA0 (Nat.le_refl _), hA0, by simp⟩)
  have HR0 := hide hr
  have HZ := hide hzr
  clear hr hA0 hzr
  rcases Nat.lt_or_ge 1048576 m with hm | hm
  · have HB := hide HA.out.bel
    rw [hW] at HB
    unfold maxLen at hml
    clear HA hW hS hI
    go_enter Try.func4, Try.ntmps4
    go_wp2
    go_ret
    exact ⟨rfl, HB.out⟩
  clear hml
  go_enter Try.func4, Try.ntmps4
  go_wp2_with fail
  rw [← hW]
  clear hW
  refine (szDisk_any W a n cap fs HA.out.row hf hl c u d 1048576 (by omega) (by omega)).mono ?_
  rintro e w1 ⟨rfl, hb1⟩
  have HA1 := hide (HA.out.later hb1)
  clear HA hb1
  by_cases hsz : n + szFs fs ≤ 1048576
  · have hRl := hRl0 hsz
    have HSP := hide (hS hsz hm)
    have HIM := hide (hI hsz hm)
    have hn : n ≤ 1048576 := by omega
    rw [lessR_yes (by omega)]
    obtain ⟨L0, hL0⟩ : ∃ L0 : Int, (1048576 : Int) - ((n + szFs fs : Nat) : Int) = L0 ∧ 0 ≤ L0 := ⟨_, rfl, by omega⟩
    rw [hL0.1]
    have hL := hL0.2
    clear hS hI hL0 hRl0
    -- spec's answer
    obtain ⟨y0, y1, y2, y3⟩ := HA1.out.cells
    go_wp2_with fail
    clear y0 y1 y2 y3
    refine (toDisk_any w1 a n cap fs HA1.out.row hn c u d).mono ?_
    rintro e w2 ⟨⟨g2, rfl, ho2⟩, hb2⟩
    have HA2 := hide (HA1.out.later hb2)
    clear HA1 hb2
    go_wp2_with fail
    refine (toIntS_any w2 b m capb zs (HZ.out.later HA2.out.bel (Nat.le_refl _)) hm).mono ?_
    rintro e w2a ⟨rfl, hz2, hb2a⟩
    have HA2a := hide (HA2.out.later hb2a)
    go_wp2_with fail
    refine (HSP.out w2a g2 w2.heap.size (ho2.row0.later hb2a (Nat.le_refl _)) hz2.row).mono ?_
    rintro e w3 ⟨⟨a3, cap3, rfl, ho3⟩, hb3⟩
    obtain ⟨l3, hl3⟩ : ∃ l, w2a.heap.size = l := ⟨_, rfl⟩
    have q3 : w.heap.size < l3 := by rw [← hl3]; exact HA2a.out.lt
    have HA3 := hide (HA2a.out.later hb3)
    have q3' : l3 ≤ w3.heap.size := by rw [← hl3]; exact hb3.size
    rw [hl3] at ho3
    clear HA2 HA2a HSP ho2 hb3 hl3 hz2 hb2a
    obtain ⟨X3, hX3⟩ : ∃ X, X = w3.alloc (.cells #[.slice a3 R.length cap3, .int .i64 c, .int .i64 U, .bool D] 26) := ⟨_, rfl⟩
    have HV3 : Hid (DVar X3 w3.heap.size l3 a3 R.length cap3 c U D R) := hide (by rw [hX3]; exact DVar.new (w0 := w3) ho3 (Nat.le_refl _))
    have HAX3 : Hid (LArg w a n cap c u d fs X3) := hide (by rw [hX3]; exact HA3.out.later (alloc_below _ _))
    have z3 : X3.heap.size = w3.heap.size + 1 := by rw [hX3]; simp
    have y := HAX3.out.cells
    rw [hX3] at y
    obtain ⟨y0, y1, y2, y3⟩ := y
    go_wp2_with fail
    clear y0 y1 y2 y3
    rw [← hX3]
    clear hX3 HA3 ho3
    obtain ⟨b3, hb3⟩ : ∃ b, w3.heap.size = b := ⟨_, rfl⟩
    rw [hb3] at HV3 z3 q3' ⊢
    clear hb3
    -- x0
    refine (toDisk_any X3 a n cap fs HAX3.out.row hn c u d).mono ?_
    rintro e w4 ⟨⟨g4, rfl, ho4⟩, hb4⟩
    have HA4 := hide (HAX3.out.later hb4)
    have HV34 := hide (HV3.out.later hb4)
    have q4 : b3 + 1 ≤ w4.heap.size := by rw [← z3]; exact hb4.size
    rw [z3] at ho4
    clear HAX3 HV3 hb4 z3
    obtain ⟨X4, hX4⟩ : ∃ X, X = w4.alloc (.cells #[.slice (some ⟨g4, 0, none⟩) n n, .int .i64 c, .int .i64 u, .bool d] 26) := ⟨_, rfl⟩
    have HV4 : Hid (DVar X4 w4.heap.size (b3 + 1) (some ⟨g4, 0, none⟩) n n c u d fs) := hide (by rw [hX4]; exact DVar.new (w0 := w4) ho4 (Nat.le_refl _))
    have HAX4 : Hid (LArg w a n cap c u d fs X4) := hide (by rw [hX4]; exact HA4.out.later (alloc_below _ _))
    have HVX4 : Hid (DVar X4 b3 l3 a3 R.length cap3 c U D R) := hide (by rw [hX4]; exact HV34.out.later (alloc_below _ _))
    have z4 : X4.heap.size = w4.heap.size + 1 := by rw [hX4]; simp
    go_wp2_with fail
    rw [← hX4]
    clear hX4 HA4 HV34 ho4
    obtain ⟨b4, hb4⟩ : ∃ b, w4.heap.size = b := ⟨_, rfl⟩
    rw [hb4] at HV4 z4 q4 ⊢
    clear hb4
    -- impl's answer
    refine (toIntS_any X4 b m capb zs (HZ.out.later HAX4.out.bel (Nat.le_refl _)) hm).mono ?_
    rintro e w4a ⟨rfl, hz4, hb4a⟩
    rw [z4] at hz4 ⊢
    have HA4a := hide (HAX4.out.later hb4a)
    have HV34a := hide (HVX4.out.later hb4a)
    have HV44a := hide (HV4.out.later hb4a)
    clear HAX4 HVX4 HV4 hb4a z4
    obtain ⟨y0, y1, y2, y3⟩ := HV44a.out.cells
    go_wp2_with fail
    clear y0 y1 y2 y3
    refine (HIM.out w4a g4 (b4 + 1) HV44a.out.own.row0 hz4.row).mono ?_
    rintro e w5 ⟨⟨a5, cap5, rfl, ho5⟩, hb5⟩
    obtain ⟨l5, hl5⟩ : ∃ l, w4a.heap.size = l := ⟨_, rfl⟩
    have ql5 : b4 + 1 < l5 := by rw [← hl5]; exact (hz4.blk (b4 + 1) rfl).2
    have HA5 := hide (HA4a.out.later hb5)
    have HV35 := hide (HV34a.out.later hb5)
    have HV45 := hide (HV44a.out.later hb5)
    have HZ5 := hide (hz4.later hb5 (Nat.le_refl _))
    have q5 : l5 ≤ w5.heap.size := by rw [← hl5]; exact hb5.size
    rw [hl5] at ho5
    clear HA4a HV34a HV44a hb5 hz4 hl5
    obtain ⟨X5, hX5⟩ : ∃ X, X = w5.alloc (.cells #[.slice a5 R.length cap5, .int .i64 c, .int .i64 U, .bool D] 26) := ⟨_, rfl⟩
    have HV5 : Hid (DVar X5 w5.heap.size l5 a5 R.length cap5 c U D R) := hide (by rw [hX5]; exact DVar.new (w0 := w5) ho5 (Nat.le_refl _))
    have HA6 : Hid (LArg w a n cap c u d fs X5) := hide (by rw [hX5]; exact HA5.out.later (alloc_below _ _))
    have HV3 : Hid (DVar X5 b3 l3 a3 R.length cap3 c U D R) := hide (by rw [hX5]; exact HV35.out.later (alloc_below _ _))
    have HV4 : Hid (DVar X5 b4 (b3 + 1) (some ⟨g4, 0, none⟩) n n c u d fs) := hide (by rw [hX5]; exact HV45.out.later (alloc_below _ _))
    have HZ6 : Hid (IOwn X5 (b4 + 1) (.slice (some ⟨b4 + 1, 0, none⟩) m m) zs) := hide (by rw [hX5]; exact HZ5.out.later (alloc_below _ _) (Nat.le_refl _))
    have y := HV5.out.cells
    have y' := HV3.out.cells
    rw [hX5] at y y'
    obtain ⟨y0, y1, y2, y3⟩ := y
    obtain ⟨x0, x1, x2, x3⟩ := y'
    go_wp2_with fail
    clear y0 y1 y2 y3 x0 x1 x2 x3
    rw [← hX5]
    clear hX5 HA5 HV35 HV45 ho5 HZ5
    obtain ⟨b5, hb5⟩ : ∃ b, w5.heap.size = b := ⟨_, rfl⟩
    rw [hb5] at HV5 q5 ⊢
    clear hb5
    -- the same?
    refine (eqDisk_any X5 a5 a3 R.length R.length cap5 cap3 R R HV5.out.own.row0 HV3.out.own.row0 hRl hRl c U c U D D).mono ?_
    rintro e w6 ⟨rfl, hb6⟩
    rw [eqDB_self]
    have HA7 := hide (HA6.out.later hb6)
    have HV37 := hide (HV3.out.later hb6)
    have HV47 := hide (HV4.out.later hb6)
    have HV57 := hide (HV5.out.later hb6)
    have HZ7 := hide (HZ6.out.later hb6 (Nat.le_refl _))
    clear HA6 HV3 HV4 HV5 hb6 HZ6
    have HSK : Hid (∀ W', (LArg w a n cap c u d fs W' ∧ DVar W' b3 l3 a3 R.length cap3 c U D R ∧ DVar W' b4 (b3 + 1) (some ⟨g4, 0, none⟩) n n c u d fs ∧ DVar W' b5 l5 a5 R.length cap5 c U D R ∧ IOwn W' (b4 + 1) (.slice (some ⟨b4 + 1, 0, none⟩) m m) zs) → W'.cell? ⟨b4, 0, none⟩ = some (.slice (some ⟨g4, 0, none⟩) n n) ∧ W'.cell? ⟨b4, 1, none⟩ = some (.int .i64 c) ∧ W'.cell? ⟨b4, 2, none⟩ = some (.int .i64 u) ∧ W'.cell? ⟨b4, 3, none⟩ = some (.bool d) ∧ W'.cell? ⟨w.heap.size, 0, none⟩ = some (.slice a n cap) ∧ W'.cell? ⟨w.heap.size, 1, none⟩ = some (.int .i64 c) ∧ W'.cell? ⟨w.heap.size, 2, none⟩ = some (.int .i64 u) ∧ W'.cell? ⟨w.heap.size, 3, none⟩ = some (.bool d) ∧ Hid (LArg w a n cap c u d fs W' ∧ DVar W' b3 l3 a3 R.length cap3 c U D R ∧ DVar W' b4 (b3 + 1) (some ⟨g4, 0, none⟩) n n c u d fs ∧ DVar W' b5 l5 a5 R.length cap5 c U D R ∧ IOwn W' (b4 + 1) (.slice (some ⟨b4 + 1, 0, none⟩) m m) zs)) := hide (fun W' h => by
      obtain ⟨z0, z1, z2, z3⟩ := h.2.2.1.cells
      obtain ⟨v0, v1, v2, v3⟩ := h.1.cells
      exact ⟨z0, z1, z2, z3, v0, v1, v2, v3, hide h⟩)
    have HLL : Hid (∀ W' W'', (LArg w a n cap c u d fs W' ∧ DVar W' b3 l3 a3 R.length cap3 c U D R ∧ DVar W' b4 (b3 + 1) (some ⟨g4, 0, none⟩) n n c u d fs ∧ DVar W' b5 l5 a5 R.length cap5 c U D R ∧ IOwn W' (b4 + 1) (.slice (some ⟨b4 + 1, 0, none⟩) m m) zs) → Below W'.heap.size W' W'' → (LArg w a n cap c u d fs W'' ∧ DVar W'' b3 l3 a3 R.length cap3 c U D R ∧ DVar W'' b4 (b3 + 1) (some ⟨g4, 0, none⟩) n n c u d fs ∧ DVar W'' b5 l5 a5 R.length cap5 c U D R ∧ IOwn W'' (b4 + 1) (.slice (some ⟨b4 + 1, 0, none⟩) m m) zs)) := hide (fun W' W'' h hb => ⟨h.1.later hb, h.2.1.later hb, h.2.2.1.later hb, h.2.2.2.1.later hb, h.2.2.2.2.later hb (Nat.le_refl _)⟩)
    have HTD : Hid (∀ W', Hid (LArg w a n cap c u d fs W' ∧ DVar W' b3 l3 a3 R.length cap3 c U D R ∧ DVar W' b4 (b3 + 1) (some ⟨g4, 0, none⟩) n n c u d fs ∧ DVar W' b5 l5 a5 R.length cap5 c U D R ∧ IOwn W' (b4 + 1) (.slice (some ⟨b4 + 1, 0, none⟩) m m) zs) → Calls Try.prog 19 #[.agg #[.slice a n cap, .int .i64 c, .int .i64 u, .bool d]] W' fun e w' => (∃ g, e = .returned (.agg #[.slice (some ⟨g, 0, none⟩) n n, .int .i64 c, .int .i64 u, .bool d]) ∧ FRow w' 0 (some ⟨g, 0, none⟩) n fs) ∧ (LArg w a n cap c u d fs w' ∧ DVar w' b3 l3 a3 R.length cap3 c U D R ∧ DVar w' b4 (b3 + 1) (some ⟨g4, 0, none⟩) n n c u d fs ∧ DVar w' b5 l5 a5 R.length cap5 c U D R ∧ IOwn w' (b4 + 1) (.slice (some ⟨b4 + 1, 0, none⟩) m m) zs)) := hide (fun W' h => (toDisk_any W' a n cap fs h.out.1.row hn c u d).mono (fun e w' ⟨⟨g, h1, h2⟩, h3⟩ => ⟨⟨g, h1, h2.row0⟩, HLL.out W' w' h.out h3⟩))
    have HEQ : Hid (∀ W' g, Hid (LArg w a n cap c u d fs W' ∧ DVar W' b3 l3 a3 R.length cap3 c U D R ∧ DVar W' b4 (b3 + 1) (some ⟨g4, 0, none⟩) n n c u d fs ∧ DVar W' b5 l5 a5 R.length cap5 c U D R ∧ IOwn W' (b4 + 1) (.slice (some ⟨b4 + 1, 0, none⟩) m m) zs) → FRow W' 0 (some ⟨g, 0, none⟩) n fs → Calls Try.prog 21 #[.agg #[.slice (some ⟨g4, 0, none⟩) n n, .int .i64 c, .int .i64 u, .bool d], .agg #[.slice (some ⟨g, 0, none⟩) n n, .int .i64 c, .int .i64 u, .bool d]] W' fun e w' => e = .returned (.bool true) ∧ (LArg w a n cap c u d fs w' ∧ DVar w' b3 l3 a3 R.length cap3 c U D R ∧ DVar w' b4 (b3 + 1) (some ⟨g4, 0, none⟩) n n c u d fs ∧ DVar w' b5 l5 a5 R.length cap5 c U D R ∧ IOwn w' (b4 + 1) (.slice (some ⟨b4 + 1, 0, none⟩) m m) zs)) := hide (fun W' g h hr => by
      have h5 := eqDisk_any W' (some ⟨g4, 0, none⟩) (some ⟨g, 0, none⟩) n n n n fs fs h.out.2.2.1.own.row0 hr (by omega) (by omega) c u c u d d
      rw [eqDB_self] at h5
      exact h5.mono (fun e w' ⟨h1, h2⟩ => ⟨h1, HLL.out W' w' h.out h2⟩))
    have HK6 : Hid (LArg w a n cap c u d fs w6 ∧ DVar w6 b3 l3 a3 R.length cap3 c U D R ∧ DVar w6 b4 (b3 + 1) (some ⟨g4, 0, none⟩) n n c u d fs ∧ DVar w6 b5 l5 a5 R.length cap5 c U D R ∧ IOwn w6 (b4 + 1) (.slice (some ⟨b4 + 1, 0, none⟩) m m) zs) := hide ⟨HA7.out, HV37.out, HV47.out, HV57.out, HZ7.out⟩
    have S6 := HSK.out w6.drew (HLL.out w6 w6.drew HK6.out (Below.refl _ _).drew)
    clear HA7 HV37 HV47 HV57 HZ7
    go_wp2
    first
      | (go_region_held3 (fun w' => w'.cell? ⟨b4, 0, none⟩ = some (.slice (some ⟨g4, 0, none⟩) n n) ∧ w'.cell? ⟨b4, 1, none⟩ = some (.int .i64 c) ∧ w'.cell? ⟨b4, 2, none⟩ = some (.int .i64 u) ∧ w'.cell? ⟨b4, 3, none⟩ = some (.bool d) ∧ w'.cell? ⟨w.heap.size, 0, none⟩ = some (.slice a n cap) ∧ w'.cell? ⟨w.heap.size, 1, none⟩ = some (.int .i64 c) ∧ w'.cell? ⟨w.heap.size, 2, none⟩ = some (.int .i64 u) ∧ w'.cell? ⟨w.heap.size, 3, none⟩ = some (.bool d) ∧ Hid (LArg w a n cap c u d fs w' ∧ DVar w' b3 l3 a3 R.length cap3 c U D R ∧ DVar w' b4 (b3 + 1) (some ⟨g4, 0, none⟩) n n c u d fs ∧ DVar w' b5 l5 a5 R.length cap5 c U D R ∧ IOwn w' (b4 + 1) (.slice (some ⟨b4 + 1, 0, none⟩) m m) zs)) (assumption) (first
          | (go_at_call 19; refine (HTD.out w6.drew S6.2.2.2.2.2.2.2.2).mono ?_; rintro e w7 ⟨⟨g7, rfl, hr7⟩, hk7⟩; have hS7 := HSK.out w7 hk7; have HR7 := hide hr7; clear hr7)
          | (go_at_call 21; refine (HEQ.out w7 g7 hS7.2.2.2.2.2.2.2.2 HR7.out).mono ?_; rintro e w8 ⟨rfl, hk8⟩; have hS8 := HSK.out w8 hk8)))
      | fail
    have HK8a := hide hk8
    clear hS8 hk8 hS7 hk7 HR7 S6 HK6 HEQ HTD HSK
    -- x1 stands
    go_wp2_with fail
    refine (toIntS_any w8 b m capb zs (HZ.out.later HK8a.out.1.bel (Nat.le_refl _)) hm).mono ?_
    rintro e w8a ⟨rfl, hz8, hb8⟩
    have HK8b := hide (HLL.out w8 w8a HK8a.out hb8)
    clear HK8a hb8
    go_wp2_with fail
    refine (eqIntS_same w8a (some ⟨b4 + 1, 0, none⟩) (some ⟨w8.heap.size, 0, none⟩) m m m zs HK8b.out.2.2.2.2.row hz8.row (by omega)).mono ?_
    rintro e w8b ⟨rfl, hb8⟩
    have HK8 := hide (HLL.out w8a w8b HK8b.out hb8)
    clear HK8b hb8 hz8 HLL
    -- x0 is written over: the answer stands
    obtain ⟨y0, y1, y2, y3⟩ := HK8.out.2.2.1.cells
    have hg4 := HK8.out.2.2.1.blk g4 rfl
    go_wp2_with fail
    clear y0 y1 y2 y3
    refine (markDisk_any w8b (b3 + 1) (some ⟨g4, 0, none⟩) n n fs HK8.out.2.2.1.own (by omega) 1 (by omega) (by omega) c u d).mono ?_
    rintro e w9 ⟨rfl, -, hg9⟩
    have HA9 := hide (HK8.out.1.grown HR0.out hg9 (fun g e => by simp [Value.ownBlock] at e; omega))
    have HV39 := hide (HK8.out.2.1.other hg9 (by simp [Value.ownBlock]; omega) (fun g e => by have := HK8.out.2.1.blk g e; simp [Value.ownBlock]; omega))
    have HV59 := hide (HK8.out.2.2.2.1.other hg9 (by simp [Value.ownBlock]; omega) (fun g e => by have := HK8.out.2.2.2.1.blk g e; simp [Value.ownBlock]; omega))
    have HZ9 : Hid (IOwn w9 (b4 + 1) (.slice (some ⟨b4 + 1, 0, none⟩) m m) zs) := hide (World.ownsRow.kept HK8.out.2.2.2.2 hg9 (.inr (by simp [Value.ownBlock]; omega)))
    clear hg9 HK8 hg4
    obtain ⟨t8, ht8⟩ : ∃ t, 1 + 3 * n = t := ⟨_, rfl⟩
    rw [ht8]
    have ht8b : t8 ≤ 4398046511104 := by omega
    clear ht8
    go_wp2_with fail
    refine (markIntS_any w9 (b4 + 1) (some ⟨b4 + 1, 0, none⟩) m m zs HZ9.out (by omega) t8 ht8b).mono ?_
    rintro e w9a ⟨rfl, -, hg9⟩
    have HA9a := hide (HA9.out.grown HR0.out hg9 (fun g e => by simp [Value.ownBlock] at e; omega))
    have HV39a := hide (HV39.out.other hg9 (by simp [Value.ownBlock]; omega) (fun g e => by have := HV39.out.blk g e; simp [Value.ownBlock]; omega))
    have HV59a := hide (HV59.out.other hg9 (by have := HV59.out.lt; simp [Value.ownBlock]; omega) (fun g e => by have := HV59.out.blk g e; simp [Value.ownBlock]; omega))
    clear hg9 HA9 HV39 HV59 HZ9
    obtain ⟨t9, ht9⟩ : ∃ t, t8 + m = t := ⟨_, rfl⟩
    rw [ht9]
    clear ht9 ht8b
    have d9 : decide ((t9 : Int) < 0) = false := by simp
    obtain ⟨y0, y1, y2, y3⟩ := HV59a.out.cells
    obtain ⟨x0, x1, x2, x3⟩ := HV39a.out.cells
    go_wp2_with fail
    clear y0 y1 y2 y3 x0 x1 x2 x3
    refine (eqDisk_any w9a a5 a3 R.length R.length cap5 cap3 R R HV59a.out.own.row0 HV39a.out.own.row0 hRl hRl c U c U D D).mono ?_
    rintro e w10 ⟨rfl, hb10⟩
    rw [eqDB_self]
    have HA10 := hide (HA9a.out.later hb10)
    have HV30 := hide (HV39a.out.later hb10)
    have HV50 := hide (HV59a.out.later hb10)
    clear HA9a HV39a HV59a hb10
    -- the answer is written over, and holds it
    obtain ⟨y0, y1, y2, y3⟩ := HV50.out.cells
    go_wp2_with fail
    clear y0 y1 y2 y3
    refine (markDisk_any w10 l5 a5 R.length cap5 R HV50.out.own hRl 1 (by omega) (by omega) c U D).mono ?_
    rintro e w11 ⟨rfl, ho11, hg11⟩
    have HA11 := hide (HA10.out.grown HR0.out hg11 (fun g e => by have := HV50.out.blk g e; omega))
    have HV31 := hide (HV30.out.other hg11 (fun e => by have := HV50.out.blk b3 e; omega) (fun g e q => by have h1 := HV30.out.blk g e; have h2 := HV50.out.blk g q; omega))
    have HV51 := hide (HV50.out.written hg11 ho11)
    clear HA10 HV30 HV50 hg11 ho11
    obtain ⟨t1, ht1⟩ : ∃ t, 1 + 3 * R.length = t := ⟨_, rfl⟩
    rw [ht1]
    have HT1 := hide ht1
    clear ht1
    have d1 : decide ((t1 : Int) < 0) = false := by simp
    obtain ⟨y0, y1, y2, y3⟩ := HV51.out.cells
    go_wp2_with fail
    clear y0 y1 y2 y3
    refine (heldDisk_any w11 a5 R.length cap5 hRl 1 (by omega) (by omega) HV51.out.own.row0 c U D).mono ?_
    rintro e w12 ⟨rfl, hb12⟩
    rw [HT1.out]
    have HA12 := hide (HA11.out.later hb12)
    have HV32 := hide (HV31.out.later hb12)
    have HV52 := hide (HV51.out.later hb12)
    clear HA11 HV31 HV51 hb12
    -- another call
    obtain ⟨y0, y1, y2, y3⟩ := HA12.out.cells
    go_wp2_with fail
    clear y0 y1 y2 y3
    refine (toDisk_any w12 a n cap fs HA12.out.row hn c u d).mono ?_
    rintro e w13 ⟨⟨g13, rfl, ho13⟩, hb13⟩
    have HA13 := hide (HA12.out.later hb13)
    have HV33 := hide (HV32.out.later hb13)
    have HV53 := hide (HV52.out.later hb13)
    clear HA12 HV32 HV52 hb13
    go_wp2_with fail
    refine (toIntS_any w13 b m capb zs (HZ.out.later HA13.out.bel (Nat.le_refl _)) hm).mono ?_
    rintro e w13a ⟨rfl, hz13, hb13⟩
    have HA13a := hide (HA13.out.later hb13)
    have HV33a := hide (HV33.out.later hb13)
    have HV53a := hide (HV53.out.later hb13)
    have HR13 := hide (ho13.row0.later hb13 (Nat.le_refl _))
    clear HA13 HV33 HV53 hb13 ho13
    go_wp2_with fail
    refine (HIM.out w13a g13 w13.heap.size HR13.out hz13.row).mono ?_
    rintro e w14 ⟨⟨a14, cap14, rfl, ho14⟩, hb14⟩
    have HA14 := hide (HA13a.out.later hb14)
    have HV34 := hide (HV33a.out.later hb14)
    have HV54 := hide (HV53a.out.later hb14)
    clear HA13a HV33a HV53a hb14 HR13 hz13
    obtain ⟨X, hX⟩ : ∃ X, X = w14.alloc (.cells #[.slice a14 R.length cap14, .int .i64 c, .int .i64 U, .bool D] 26) := ⟨_, rfl⟩
    have HVh : Hid (DVar X w14.heap.size w13a.heap.size a14 R.length cap14 c U D R) := hide (by rw [hX]; exact DVar.new (w0 := w14) ho14 (Nat.le_refl _))
    have HA15 : Hid (LArg w a n cap c u d fs X) := hide (by rw [hX]; exact HA14.out.later (alloc_below _ _))
    have HV35 : Hid (DVar X b3 l3 a3 R.length cap3 c U D R) := hide (by rw [hX]; exact HV34.out.later (alloc_below _ _))
    have HV55 : Hid (DVar X b5 l5 a5 R.length cap5 c U D (marked R.length 1)) := hide (by rw [hX]; exact HV54.out.later (alloc_below _ _))
    have y := HVh.out.cells
    have y' := HV35.out.cells
    rw [hX] at y y'
    obtain ⟨y0, y1, y2, y3⟩ := y
    obtain ⟨x0, x1, x2, x3⟩ := y'
    go_wp2_with fail
    clear y0 y1 y2 y3 x0 x1 x2 x3
    rw [← hX]
    clear hX HA14 HV34 HV54 ho14
    refine (eqDisk_any X a14 a3 R.length R.length cap14 cap3 R R HVh.out.own.row0 HV35.out.own.row0 hRl hRl c U c U D D).mono ?_
    rintro e w16 ⟨rfl, hb16⟩
    rw [eqDB_self]
    have HA16 := hide (HA15.out.later hb16)
    have HV56 := hide (HV55.out.later hb16)
    clear HA15 HV35 HV55 HVh hb16
    obtain ⟨y0, y1, y2, y3⟩ := HV56.out.cells
    go_wp2_with fail
    clear y0 y1 y2 y3
    refine (heldDisk_any w16 a5 R.length cap5 hRl 1 (by omega) (by omega) HV56.out.own.row0 c U D).mono ?_
    rintro e w17 ⟨rfl, hb17⟩
    rw [HT1.out]
    have HA17 := hide (HA16.out.later hb17)
    clear HA16 HV56 hb17
    go_wp2
    go_ret
    exact ⟨rfl, HA17.out.bel⟩
  · rw [lessR_no (by omega)]
    go_wp2
    go_ret
    exact ⟨rfl, HA1.out.bel⟩

end Go.Proofs.Ythfpcjamlbkgfaa
