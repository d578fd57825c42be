/-
  The walk of an exact law of a question on a disk, over contracts of spec's and of impl's function: both answer z.
-/
import Derived.Test.YthfpcjamlbkgfaaLawBase
import Derived.Test.YthfpcjamlbkgfaaToDisk
import Derived.Test.YthfpcjamlbkgfaaEqDisk
import Derived.Deep.RegionHeld3
namespace Go.Proofs.Ythfpcjamlbkgfaa
open Go.RowKit
open Plain

/-- At this argument the function f answers this, and touches nothing that was there. -/
def AnswersV (f : FuncId) (fs : List FileV) (n : Nat) (c u : Int) (d : Bool) (z : Int) : Prop :=
  ∀ (w : World) (g : Nat), FRow w 0 (some ⟨g, 0, none⟩) n fs →
    Calls Try.prog f #[.agg #[.slice (some ⟨g, 0, none⟩) n n, .int .i64 c, .int .i64 u, .bool d]] w fun e w' => e = .returned (.int .i64 z) ∧ Below w.heap.size w w'

set_option maxRecDepth 100000 in
set_option maxHeartbeats 8000000 in
theorem law7_walk (w : World) (a : Option Addr) (n cap : Nat) (fs : List FileV) (hr : FRow w 0 a n fs) (hf : Fits fs) (hl : n ≤ maxLen) (c u : Int) (d : Bool) (z : Int)
    (hS : n + szFs fs ≤ 1048576 → AnswersV 29 fs n c u d z) (hI : n + szFs fs ≤ 1048576 → AnswersV 13 fs n c u d z) :
    Calls Try.prog 7 #[.agg #[.slice a n cap, .int .i64 c, .int .i64 u, .bool d]] w fun e w' => e = .returned (.bool true) ∧ Below w.heap.size w w' := by
  have hA0 := alloc_below w (.cells #[.slice a n cap, .int .i64 c, .int .i64 u, .bool d] 39)
  obtain ⟨W, hW⟩ : ∃ W, W = w.alloc (.cells #[.slice a n cap, .int .i64 c, .int .i64 u, .bool d] 39) := ⟨_, rfl⟩
  have HA : Hid (LArg w a n cap c u d fs W) := hide (by rw [hW]; exact ⟨heap_alloc_new w _, hr.later hA0 (Nat.le_refl _), hA0, by simp⟩)
  clear hr hA0
  go_enter Try.func7, Try.ntmps7
  go_wp2_with fail
  rw [← hW]
  clear hW
  refine (szDisk_any W a n cap fs HA.out.row hf hl c u d 1048576 (by omega) (by omega)).mono ?_
  rintro e w1 ⟨rfl, hb1⟩
  have HA1 := hide (HA.out.later hb1)
  clear HA hb1
  by_cases hsz : n + szFs fs ≤ 1048576
  · have HSP := hide (hS hsz)
    have HIM := hide (hI hsz)
    have hn : n ≤ 1048576 := by omega
    rw [lessR_yes (by omega)]
    obtain ⟨L0, hL0⟩ : ∃ L0 : Int, (1048576 : Int) - ((n + szFs fs : Nat) : Int) = L0 ∧ 0 ≤ L0 := ⟨_, rfl, by omega⟩
    rw [hL0.1]
    have hL := hL0.2
    clear hS hI hL0
    obtain ⟨y0, y1, y2, y3⟩ := HA1.out.cells
    go_wp2_with fail
    clear y0 y1 y2 y3
    refine (toDisk_any w1 a n cap fs HA1.out.row hn c u d).mono ?_
    rintro e w2 ⟨⟨g2, rfl, ho2⟩, hb2⟩
    have HA2 := hide (HA1.out.later hb2)
    clear HA1 hb2
    go_wp2_with fail
    refine (HSP.out w2 g2 ho2.row0).mono ?_
    rintro e w3 ⟨rfl, hb3⟩
    have HA3 := hide (HA2.out.later hb3)
    clear HA2 HSP ho2 hb3
    obtain ⟨y0, y1, y2, y3⟩ := HA3.out.cells
    go_wp2_with fail
    clear y0 y1 y2 y3
    refine (toDisk_any w3 a n cap fs HA3.out.row hn c u d).mono ?_
    rintro e w4 ⟨⟨g4, rfl, ho4⟩, hb4⟩
    have HA4 := hide (HA3.out.later hb4)
    obtain ⟨l4, hl4⟩ : ∃ l, w3.heap.size = l := ⟨_, rfl⟩
    rw [hl4] at ho4
    clear HA3 hb4 hl4
    obtain ⟨X4, hX4⟩ : ∃ X, X = w4.alloc (.cells #[.slice (some ⟨g4, 0, none⟩) n n, .int .i64 c, .int .i64 u, .bool d] 26) := ⟨_, rfl⟩
    have HV4 : Hid (DVar X4 w4.heap.size l4 (some ⟨g4, 0, none⟩) n n c u d fs) := hide (by rw [hX4]; exact DVar.new (w0 := w4) ho4 (Nat.le_refl _))
    have HAX4 : Hid (LArg w a n cap c u d fs X4) := hide (by rw [hX4]; exact HA4.out.later (alloc_below _ _))
    have y := HV4.out.cells
    rw [hX4] at y
    obtain ⟨y0, y1, y2, y3⟩ := y
    go_wp2_with fail
    clear y0 y1 y2 y3
    rw [← hX4]
    clear hX4 HA4 ho4
    obtain ⟨b4, hb4⟩ : ∃ b, w4.heap.size = b := ⟨_, rfl⟩
    rw [hb4] at HV4 ⊢
    clear hb4
    refine (HIM.out X4 g4 HV4.out.own.row0).mono ?_
    rintro e w6 ⟨rfl, hb6⟩
    have HK6 : Hid (LArg w a n cap c u d fs w6 ∧ DVar w6 b4 l4 (some ⟨g4, 0, none⟩) n n c u d fs) := hide ⟨HAX4.out.later hb6, HV4.out.later hb6⟩
    clear HAX4 HV4 HIM hb6
    have HSK : Hid (∀ W', (LArg w a n cap c u d fs W' ∧ DVar W' b4 l4 (some ⟨g4, 0, none⟩) n n c u d fs) → W'.cell? ⟨b4, 0, none⟩ = some (.slice (some ⟨g4, 0, none⟩) n n) ∧ W'.cell? ⟨b4, 1, none⟩ = some (.int .i64 c) ∧ W'.cell? ⟨b4, 2, none⟩ = some (.int .i64 u) ∧ W'.cell? ⟨b4, 3, none⟩ = some (.bool d) ∧ W'.cell? ⟨w.heap.size, 0, none⟩ = some (.slice a n cap) ∧ W'.cell? ⟨w.heap.size, 1, none⟩ = some (.int .i64 c) ∧ W'.cell? ⟨w.heap.size, 2, none⟩ = some (.int .i64 u) ∧ W'.cell? ⟨w.heap.size, 3, none⟩ = some (.bool d) ∧ Hid (LArg w a n cap c u d fs W' ∧ DVar W' b4 l4 (some ⟨g4, 0, none⟩) n n c u d fs)) := hide (fun W' h => by
      obtain ⟨z0, z1, z2, z3⟩ := h.2.cells
      obtain ⟨v0, v1, v2, v3⟩ := h.1.cells
      exact ⟨z0, z1, z2, z3, v0, v1, v2, v3, hide h⟩)
    have HLL : Hid (∀ W' W'', (LArg w a n cap c u d fs W' ∧ DVar W' b4 l4 (some ⟨g4, 0, none⟩) n n c u d fs) → Below W'.heap.size W' W'' → (LArg w a n cap c u d fs W'' ∧ DVar W'' b4 l4 (some ⟨g4, 0, none⟩) n n c u d fs)) := hide (fun W' W'' h hb => ⟨h.1.later hb, h.2.later hb⟩)
    have HTD : Hid (∀ W', Hid (LArg w a n cap c u d fs W' ∧ DVar W' b4 l4 (some ⟨g4, 0, none⟩) n n c u d fs) → Calls Try.prog 19 #[.agg #[.slice a n cap, .int .i64 c, .int .i64 u, .bool d]] W' fun e w' => (∃ g, e = .returned (.agg #[.slice (some ⟨g, 0, none⟩) n n, .int .i64 c, .int .i64 u, .bool d]) ∧ FRow w' 0 (some ⟨g, 0, none⟩) n fs) ∧ (LArg w a n cap c u d fs w' ∧ DVar w' b4 l4 (some ⟨g4, 0, none⟩) n n c u d fs)) := hide (fun W' h => (toDisk_any W' a n cap fs h.out.1.row hn c u d).mono (fun e w' ⟨⟨g, h1, h2⟩, h3⟩ => ⟨⟨g, h1, h2.row0⟩, HLL.out W' w' h.out h3⟩))
    have HEQ : Hid (∀ W' g, Hid (LArg w a n cap c u d fs W' ∧ DVar W' b4 l4 (some ⟨g4, 0, none⟩) n n c u d fs) → FRow W' 0 (some ⟨g, 0, none⟩) n fs → Calls Try.prog 21 #[.agg #[.slice (some ⟨g4, 0, none⟩) n n, .int .i64 c, .int .i64 u, .bool d], .agg #[.slice (some ⟨g, 0, none⟩) n n, .int .i64 c, .int .i64 u, .bool d]] W' fun e w' => e = .returned (.bool true) ∧ (LArg w a n cap c u d fs w' ∧ DVar w' b4 l4 (some ⟨g4, 0, none⟩) n n c u d fs)) := hide (fun W' g h hr => by
      have h5 := eqDisk_any W' (some ⟨g4, 0, none⟩) (some ⟨g, 0, none⟩) n n n n fs fs h.out.2.own.row0 hr (by omega) (by omega) c u c u d d
      rw [eqDB_self] at h5
      exact h5.mono (fun e w' ⟨h1, h2⟩ => ⟨h1, HLL.out W' w' h.out h2⟩))
    have S6 := HSK.out w6.drew (HLL.out w6 w6.drew HK6.out (Below.refl _ _).drew)
    go_wp2
    first
      | (go_region_held3 (fun w' => w'.cell? ⟨b4, 0, none⟩ = some (.slice (some ⟨g4, 0, none⟩) n n) ∧ w'.cell? ⟨b4, 1, none⟩ = some (.int .i64 c) ∧ w'.cell? ⟨b4, 2, none⟩ = some (.int .i64 u) ∧ w'.cell? ⟨b4, 3, none⟩ = some (.bool d) ∧ w'.cell? ⟨w.heap.size, 0, none⟩ = some (.slice a n cap) ∧ w'.cell? ⟨w.heap.size, 1, none⟩ = some (.int .i64 c) ∧ w'.cell? ⟨w.heap.size, 2, none⟩ = some (.int .i64 u) ∧ w'.cell? ⟨w.heap.size, 3, none⟩ = some (.bool d) ∧ Hid (LArg w a n cap c u d fs w' ∧ DVar w' b4 l4 (some ⟨g4, 0, none⟩) n n c u d fs)) (assumption) (first
          | (go_at_call 19; refine (HTD.out w6.drew S6.2.2.2.2.2.2.2.2).mono ?_; rintro e w7 ⟨⟨g7, rfl, hr7⟩, hk7⟩; have hS7 := HSK.out w7 hk7; have HR7 := hide hr7; clear hr7)
          | (go_at_call 21; refine (HEQ.out w7 g7 hS7.2.2.2.2.2.2.2.2 HR7.out).mono ?_; rintro e w8 ⟨rfl, hk8⟩; have hS8 := HSK.out w8 hk8)))
      | fail
    have HB8 := hide hk8.1.bel
    clear hS8 hk8 hS7 hk7 HR7 S6 HK6 HEQ HTD HLL HSK
    go_wp2
    go_ret
    exact ⟨rfl, HB8.out⟩
  · rw [lessR_no (by omega)]
    go_wp2
    go_ret
    exact ⟨rfl, HA1.out.bel⟩

end Go.Proofs.Ythfpcjamlbkgfaa
