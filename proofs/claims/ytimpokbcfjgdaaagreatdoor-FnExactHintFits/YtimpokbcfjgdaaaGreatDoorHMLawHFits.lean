/-
  The walk of the exact law of HintFits, over contracts of spec's and of impl's function: both answer z.
-/
import Derived.Test.YtimpokbcfjgdaaaGreatDoorHMHintLaw
import Derived.Deep.RegionHeld3
namespace Go.Proofs.YtimpokbcfjgdaaaGreatDoor
open Go.RowKit
open Plain

/-- At this argument the function f answers this, and touches nothing that was there. -/
def AnswersF (H : World → Prop) (f : FuncId) (id : Int) (s : ByteArray) (x m : Int) (n : Nat) (zs : List EntV) (z : Bool) : Prop :=
  ∀ (w : World) (g : Nat), H w → entSh.Row w (some ⟨g, 0, none⟩) n zs →
    Calls Tryz.prog f #[.int .i64 id, .string s, .agg #[.int .i64 x, .int .i64 m, .slice (some ⟨g, 0, none⟩) n n]] w fun e w' => e = .returned (.bool z) ∧ Below w.heap.size w w'

set_option maxRecDepth 100000 in
set_option maxHeartbeats 8000000 in
theorem law5_walk (H : World → Prop) (hH : ∀ w w', H w → Below w.heap.size w w' → H w') (w : World) (hw : H w) (id : Int) (s : ByteArray) (x m : Int) (a : Option Addr) (n cap : Nat) (zs : List EntV) (hr : entSh.Row w a n zs) (hf : EFits zs) (hl : n ≤ maxLen) (z : Bool)
    (hS : s.size ≤ 1048576 → n ≤ 1048576 → AnswersF (fun _ => True) 22 id s x m n zs z) (hI : s.size ≤ 1048576 → n ≤ 1048576 → AnswersF H 14 id s x m n zs z) :
    Calls Tryz.prog 5 #[.int .i64 id, .string s, .agg #[.int .i64 x, .int .i64 m, .slice a n cap]] w fun e w' => e = .returned (.bool true) ∧ Below w.heap.size w w' := by
  have HHH := hide hH
  have HW : Hid (∀ W, Below w.heap.size w W → H W) := hide (fun W h => hH w W hw h)
  obtain ⟨W, hW⟩ : ∃ W, W = w.alloc (.cells #[.int .i64 x, .int .i64 m, .slice a n cap] 54) := ⟨_, rfl⟩
  have HA : Hid (HvAt w w.heap.size 54 x m a n cap zs W) := hide (by rw [hW]; exact HvAt.new 54 x m cap hr)
  clear hr hH hw HHH
  by_cases hsb : s.size ≤ 1048576
  · have t0 : decide ((1048576 : Int) < (s.size : Int)) = false := by simp; omega
    have hS := hS hsb
    have hI := hI hsb
    clear hsb
    go_enter Tryz.func5, Tryz.ntmps5
    go_wp2_with fail
    rw [← hW]
    clear hW
    refine (szHint_any W x m a n cap zs HA.out.ents hf hl 1048576 (by omega) (by omega)).mono ?_
    rintro e w1 ⟨rfl, hb1⟩
    have HA1 := hide (HA.out.later hb1)
    clear HA hb1 hf
    by_cases hsz2 : ((n + szEs zs : Nat) : Int) ≤ 1048576
    · have hsz : n ≤ 1048576 := by omega
      have HSP := hide (hS hsz)
      have HIM := hide (hI hsz)
      rw [lessR_yes hsz2]
      obtain ⟨L0, hL0⟩ : ∃ L0 : Int, (1048576 : Int) - ((n + szEs zs : Nat) : Int) = L0 ∧ 0 ≤ L0 := ⟨_, rfl, by omega⟩
      rw [hL0.1]
      have hL := hL0.2
      clear hS hI hL0 hsz2
      obtain ⟨y0, y1, y2⟩ := HA1.out.cells
      go_wp2_with fail
      clear y0 y1 y2
      refine (toHint_any w1 x m a n cap zs HA1.out.ents hsz).mono ?_
      rintro e w2 ⟨⟨g2, rfl, ho2⟩, hb2⟩
      have HA2 := hide (HA1.out.later hb2)
      clear HA1 hb2
      go_wp2_with fail
      refine (HSP.out w2 g2 trivial ho2.row).mono ?_
      rintro e w3 ⟨rfl, hb3⟩
      have HA3 := hide (HA2.out.later hb3)
      clear HA2 HSP ho2 hb3
      obtain ⟨y0, y1, y2⟩ := HA3.out.cells
      go_wp2_with fail
      clear y0 y1 y2
      refine (toHint_any w3 x m a n cap zs HA3.out.ents hsz).mono ?_
      rintro e w4 ⟨⟨g4, rfl, ho4⟩, hb4⟩
      have HA4 := hide (HA3.out.later hb4)
      clear HA3 hb4
      obtain ⟨X4, hX4⟩ : ∃ X, X = w4.alloc (.cells #[.int .i64 x, .int .i64 m, .slice (some ⟨g4, 0, none⟩) n n] 26) := ⟨_, rfl⟩
      have HV4 : Hid (HvAt w w4.heap.size 26 x m (some ⟨g4, 0, none⟩) n n zs X4) := hide (by
        have h := HvAt.new 26 x m n ho4.row
        rw [hX4]
        exact ⟨h.row, h.ents, HA4.out.bel.trans (h.bel.mono HA4.out.bel.size)⟩)
      have HAX4 : Hid (HvAt w w.heap.size 54 x m a n cap zs X4) := hide (by rw [hX4]; exact HA4.out.later ((Below.refl _ _).alloc (Nat.le_refl _) _))
      have y := HV4.out.cells
      rw [hX4] at y
      obtain ⟨y0, y1, y2⟩ := y
      go_wp2_with fail
      clear y0 y1 y2
      rw [← hX4]
      clear hX4 HA4 ho4
      obtain ⟨b4, hb4⟩ : ∃ b, w4.heap.size = b := ⟨_, rfl⟩
      rw [hb4] at HV4 ⊢
      clear hb4
      refine (HIM.out X4 g4 (HW.out _ HV4.out.bel) HV4.out.ents).mono ?_
      rintro e w6 ⟨rfl, hb6⟩
      have HK6 : Hid (HvAt w w.heap.size 54 x m a n cap zs w6 ∧ HvAt w b4 26 x m (some ⟨g4, 0, none⟩) n n zs w6) := hide ⟨HAX4.out.later hb6, HV4.out.later hb6⟩
      clear HAX4 HV4 HIM hb6 HW
      have HSK : Hid (∀ W', (HvAt w w.heap.size 54 x m a n cap zs W' ∧ HvAt w b4 26 x m (some ⟨g4, 0, none⟩) n n zs W') → W'.cell? ⟨b4, 0, none⟩ = some (.int .i64 x) ∧ W'.cell? ⟨b4, 1, none⟩ = some (.int .i64 m) ∧ W'.cell? ⟨b4, 2, none⟩ = some (.slice (some ⟨g4, 0, none⟩) n n) ∧ W'.cell? ⟨w.heap.size, 0, none⟩ = some (.int .i64 x) ∧ W'.cell? ⟨w.heap.size, 1, none⟩ = some (.int .i64 m) ∧ W'.cell? ⟨w.heap.size, 2, none⟩ = some (.slice a n cap) ∧ Hid (HvAt w w.heap.size 54 x m a n cap zs W' ∧ HvAt w b4 26 x m (some ⟨g4, 0, none⟩) n n zs W')) := hide (fun W' h => by
        obtain ⟨z0, z1, z2⟩ := h.2.cells
        obtain ⟨v0, v1, v2⟩ := h.1.cells
        exact ⟨z0, z1, z2, v0, v1, v2, hide h⟩)
      have HLL : Hid (∀ W' W'', (HvAt w w.heap.size 54 x m a n cap zs W' ∧ HvAt w b4 26 x m (some ⟨g4, 0, none⟩) n n zs W') → Below W'.heap.size W' W'' → (HvAt w w.heap.size 54 x m a n cap zs W'' ∧ HvAt w b4 26 x m (some ⟨g4, 0, none⟩) n n zs W'')) := hide (fun W' W'' h hb => ⟨h.1.later hb, h.2.later hb⟩)
      have HTD : Hid (∀ W', Hid (HvAt w w.heap.size 54 x m a n cap zs W' ∧ HvAt w b4 26 x m (some ⟨g4, 0, none⟩) n n zs W') → Calls Tryz.prog 23 #[.agg #[.int .i64 x, .int .i64 m, .slice a n cap]] W' fun e w' => (∃ g, e = .returned (.agg #[.int .i64 x, .int .i64 m, .slice (some ⟨g, 0, none⟩) n n]) ∧ entSh.Row w' (some ⟨g, 0, none⟩) n zs) ∧ (HvAt w w.heap.size 54 x m a n cap zs w' ∧ HvAt w b4 26 x m (some ⟨g4, 0, none⟩) n n zs w')) := hide (fun W' h => (toHint_any W' x m a n cap zs h.out.1.ents hsz).mono (fun e w' ⟨⟨g, h1, h2⟩, h3⟩ => ⟨⟨g, h1, h2.row⟩, HLL.out W' w' h.out h3⟩))
      have HEQ : Hid (∀ W' g, Hid (HvAt w w.heap.size 54 x m a n cap zs W' ∧ HvAt w b4 26 x m (some ⟨g4, 0, none⟩) n n zs W') → entSh.Row W' (some ⟨g, 0, none⟩) n zs → Calls Tryz.prog 18 #[.agg #[.int .i64 x, .int .i64 m, .slice (some ⟨g4, 0, none⟩) n n], .agg #[.int .i64 x, .int .i64 m, .slice (some ⟨g, 0, none⟩) n n]] W' fun e w' => e = .returned (.bool true) ∧ (HvAt w w.heap.size 54 x m a n cap zs w' ∧ HvAt w b4 26 x m (some ⟨g4, 0, none⟩) n n zs w')) := hide (fun W' g h hr => (eqHint_same W' x m (some ⟨g4, 0, none⟩) (some ⟨g, 0, none⟩) n n n zs h.out.2.ents hr (by omega)).mono (fun e w' ⟨h1, h2⟩ => ⟨h1, HLL.out W' w' h.out h2⟩))
      have S6 := HSK.out w6.drew (HLL.out w6 w6.drew HK6.out (Below.refl _ _).drew)
      go_wp2
      first
        | (go_region_held3 (fun W' => W'.cell? ⟨b4, 0, none⟩ = some (.int .i64 x) ∧ W'.cell? ⟨b4, 1, none⟩ = some (.int .i64 m) ∧ W'.cell? ⟨b4, 2, none⟩ = some (.slice (some ⟨g4, 0, none⟩) n n) ∧ W'.cell? ⟨w.heap.size, 0, none⟩ = some (.int .i64 x) ∧ W'.cell? ⟨w.heap.size, 1, none⟩ = some (.int .i64 m) ∧ W'.cell? ⟨w.heap.size, 2, none⟩ = some (.slice a n cap) ∧ Hid (HvAt w w.heap.size 54 x m a n cap zs W' ∧ HvAt w b4 26 x m (some ⟨g4, 0, none⟩) n n zs W')) (assumption) (first
            | (go_at_call 23; refine (HTD.out w6.drew S6.2.2.2.2.2.2).mono ?_; rintro e w7 ⟨⟨g7, rfl, hr7⟩, hk7⟩; have hS7 := HSK.out w7 hk7; have HR7 := hide hr7; clear hr7)
            | (go_at_call 18; refine (HEQ.out w7 g7 hS7.2.2.2.2.2.2 HR7.out).mono ?_; rintro e w8 ⟨rfl, hk8⟩; have hS8 := HSK.out w8 hk8)))
        | fail
      have HB8 := hide hk8.1.bel
      clear hS8 hk8 hS7 hk7 HR7 S6 HK6 HEQ HTD HLL HSK
      go_wp2
      go_ret
      exact ⟨rfl, HB8.out⟩
    · rw [lessR_no (show (1048576 : Int) < ((n + szEs zs : Nat) : Int) by omega)]
      have HB := hide HA1.out.bel
      go_wp2
      go_ret
      exact ⟨rfl, HB.out⟩
  · have t0 : decide ((1048576 : Int) < (s.size : Int)) = true := by simp; omega
    have HB := hide HA.out.bel
    go_enter Tryz.func5, Tryz.ntmps5
    go_wp2
    rw [← hW]
    go_ret
    exact ⟨rfl, HB.out⟩

end Go.Proofs.YtimpokbcfjgdaaaGreatDoor
