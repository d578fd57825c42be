/-
  spec.RecAt: the record whose frame is just these bytes.
-/
import Derived.Test.YtkcjlalkniaapaaDoorScanSpec
import Derived.Test.YtkcjlalkniaapaaDoorReadImpl
namespace Go.Proofs.YtkcjlalkniaapaaDoor
open Go.RowKit
open Plain

/-- What RecAt tells. -/
def ra (s : ByteArray) (at' n : Int) : RecV × Bool :=
  if 0 ≤ at' ∧ at' ≤ s.size ∧ 1 ≤ n ∧ n ≤ s.size - at' ∧ ((uf (s.extract at'.toNat (at'.toNat + n.toNat))).2 : Int) = n ∧ (rr (uf (s.extract at'.toNat (at'.toNat + n.toNat))).1).2 = true then ((rr (uf (s.extract at'.toNat (at'.toNat + n.toNat))).1).1, true) else (zeroR, false)

set_option maxRecDepth 100000 in
set_option maxHeartbeats 4000000 in
theorem specRecAt_out (s : ByteArray) (hs : s.size ≤ 1048576) (at' n : Int) (h : ¬ (0 ≤ at' ∧ at' ≤ s.size ∧ 1 ≤ n ∧ n ≤ s.size - at')) : Ans 23 #[.string s, .int .i64 at', .int .i64 n] (.tuple #[.agg #[.int .i64 0, .int .i64 0, .string ⟨#[]⟩, .string ⟨#[]⟩, .int .i64 0, .int .i64 0], .bool false]) := by
  intro w
  by_cases h1 : 0 ≤ at' ∧ at' ≤ s.size
  · have e1 : decide (0 ≤ at' ∧ at' ≤ (s.size : Int)) = true := decide_eq_true h1
    have e2 : decide (1 ≤ n ∧ n ≤ (s.size : Int) - at') = false := decide_eq_false (fun g => h ⟨h1.1, h1.2, g.1, g.2⟩)
    obtain ⟨h2, h3⟩ := h1
    go_enter Tryd.func23, Tryd.ntmps23
    go_wp2_with (go_at_call 50; refine (in_any _ _ _ _).mono ?_; (first | rw [e1] | rw [e2]); rintro e w' ⟨rfl, rfl⟩)
    refine bodyPost_ret (v := .tuple #[.agg #[.int .i64 0, .int .i64 0, .string ⟨#[]⟩, .string ⟨#[]⟩, .int .i64 0, .int .i64 0], .bool false]) (by simp [results, Tryd.results23, go_sem]) rfl ⟨rfl, ?_⟩
    exact al1 _ _
  · have e1 : decide (0 ≤ at' ∧ at' ≤ (s.size : Int)) = false := decide_eq_false h1
    clear h1 h
    go_enter Tryd.func23, Tryd.ntmps23
    go_wp2_with (go_at_call 50; refine (in_any _ _ _ _).mono ?_; rw [e1]; rintro e w' ⟨rfl, rfl⟩)
    refine bodyPost_ret (v := .tuple #[.agg #[.int .i64 0, .int .i64 0, .string ⟨#[]⟩, .string ⟨#[]⟩, .int .i64 0, .int .i64 0], .bool false]) (by simp [results, Tryd.results23, go_sem]) rfl ⟨rfl, ?_⟩
    exact al1 _ _

set_option maxRecDepth 100000 in
set_option maxHeartbeats 4000000 in
theorem specRecAt_in (s : ByteArray) (hs : s.size ≤ 1048576) (p n : Nat) (h1 : p + n ≤ s.size) (h2 : 1 ≤ n) (u : ByteArray) (HU0 : Hid (s.extract p (p + n) = u)) (t : ByteArray) (k : Nat) (r : RecV) (ok z : Bool)
    (HU : Hid (Ans 19 #[.string u] (.tuple #[.string t, .int .i64 (k : Nat)]))) (HR : Hid (Ans 42 #[.string t] (.tuple #[.agg #[.int .i64 r.kind, .int .i64 r.batch, .string r.key, .string r.val, .int .i64 r.cnt, .int .i64 r.sum], .bool ok])))
    (hk : ((k : Int) != (n : Int)) = !z) : Ans 23 #[.string s, .int .i64 (p : Nat), .int .i64 (n : Nat)] (.tuple #[.agg (if z && ok then #[.int .i64 r.kind, .int .i64 r.batch, .string r.key, .string r.val, .int .i64 r.cnt, .int .i64 r.sum] else #[.int .i64 0, .int .i64 0, .string ⟨#[]⟩, .string ⟨#[]⟩, .int .i64 0, .int .i64 0]), .bool (z && ok)]) := by
  intro w
  obtain ⟨W0, hW⟩ : ∃ W0, W0 = w.alloc (.cells #[.int .i64 0, .int .i64 0, .string ⟨#[]⟩, .string ⟨#[]⟩, .int .i64 0, .int .i64 0] 33) := ⟨_, rfl⟩
  have HRC := hide (fun W h => res_cells w W0 W hW h)
  have e1 : decide (0 ≤ (p : Int) ∧ (p : Int) ≤ (s.size : Int)) = true := decide_eq_true (by omega)
  have e2 : decide (1 ≤ (n : Int) ∧ (n : Int) ≤ (s.size : Int) - (p : Int)) = true := decide_eq_true (by omega)
  have b1 : (0 : Int) ≤ (p : Int) := by omega
  have b2 : (p : Int) ≤ (p : Int) + (n : Int) := by omega
  have b3 : (p : Int) + (n : Int) ≤ (s.size : Int) := by omega
  go_enter Tryd.func23, Tryd.ntmps23
  go_wp2_with (go_at_call 50; refine (in_any _ _ _ _).mono ?_; (first | rw [e1] | rw [e2]); rintro e w' ⟨rfl, rfl⟩)
  rw [HU0.out, ← hW]
  clear hW
  refine (HU.out _).mono ?_
  rintro e w1 ⟨rfl, hb1⟩
  have HB1 := hide hb1
  clear hb1 HU
  go_wp2_with fail
  refine (HR.out _).mono ?_
  rintro e w2 ⟨rfl, hb2⟩
  have HB2 := hide (HB1.out.trans (hb2.mono HB1.out.size))
  clear hb2 HR HB1
  obtain ⟨w5, hw5⟩ : ∃ w5, w5 = w2.alloc (.cells #[.int .i64 r.kind, .int .i64 r.batch, .string r.key, .string r.val, .int .i64 r.cnt, .int .i64 r.sum] 33) := ⟨_, rfl⟩
  have hrow2 : w5.heap[w2.heap.size]? = some (.cells #[.int .i64 r.kind, .int .i64 r.batch, .string r.key, .string r.val, .int .i64 r.cnt, .int .i64 r.sum] 33 (0, 0)) := by rw [hw5]; exact heap_alloc_new w2 _
  have hb5 : Below W0.heap.size W0 w5 := by rw [hw5]; exact HB2.out.alloc HB2.out.size _
  obtain ⟨hb6, hf6, hrow⟩ := HRC.out w5 hb5
  have HB6 := hide hb6
  obtain ⟨D, hD⟩ : ∃ D, w2.heap.size = D := ⟨_, rfl⟩
  rw [hD] at hrow2
  have g0 := hf6 0
  have g1 := hf6 1
  have g2 := hf6 2
  have g3 := hf6 3
  have g4 := hf6 4
  have g5 := hf6 5
  have y0 : w5.cell? ⟨w.heap.size, 0, none⟩ = _ := cell_of_row w5 _ 0 _ _ _ hrow
  have y1 : w5.cell? ⟨w.heap.size, 1, none⟩ = _ := cell_of_row w5 _ 1 _ _ _ hrow
  have y2 : w5.cell? ⟨w.heap.size, 2, none⟩ = _ := cell_of_row w5 _ 2 _ _ _ hrow
  have y3 : w5.cell? ⟨w.heap.size, 3, none⟩ = _ := cell_of_row w5 _ 3 _ _ _ hrow
  have y4 : w5.cell? ⟨w.heap.size, 4, none⟩ = _ := cell_of_row w5 _ 4 _ _ _ hrow
  have y5 : w5.cell? ⟨w.heap.size, 5, none⟩ = _ := cell_of_row w5 _ 5 _ _ _ hrow
  have x0 : w5.cell? ⟨D, 0, none⟩ = _ := cell_of_row w5 _ 0 _ _ _ hrow2
  have x1 : w5.cell? ⟨D, 1, none⟩ = _ := cell_of_row w5 _ 1 _ _ _ hrow2
  have x2 : w5.cell? ⟨D, 2, none⟩ = _ := cell_of_row w5 _ 2 _ _ _ hrow2
  have x3 : w5.cell? ⟨D, 3, none⟩ = _ := cell_of_row w5 _ 3 _ _ _ hrow2
  have x4 : w5.cell? ⟨D, 4, none⟩ = _ := cell_of_row w5 _ 4 _ _ _ hrow2
  have x5 : w5.cell? ⟨D, 5, none⟩ = _ := cell_of_row w5 _ 5 _ _ _ hrow2
  clear hb6 hf6 hrow hrow2 hb5 HRC HB2
  rw [hw5] at g0 g1 g2 g3 g4 g5 y0 y1 y2 y3 y4 y5 x0 x1 x2 x3 x4 x5 HB6
  clear hw5
  cases z
  · have q : ((k : Int) != (n : Int)) = true := hk
    clear hk
    go_wp2
    refine bodyPost_ret (v := .tuple #[.agg #[.int .i64 0, .int .i64 0, .string ⟨#[]⟩, .string ⟨#[]⟩, .int .i64 0, .int .i64 0], .bool false]) (by simp [results, Tryd.results23, go_sem, *]) rfl ⟨rfl, ?_⟩
    iterate 6 (refine Below.setCell ?_ (by exact Nat.le_refl _) _)
    exact HB6.out
  have q : ((k : Int) != (n : Int)) = false := hk
  clear hk
  cases ok
  · skip
    go_wp2
    refine bodyPost_ret (v := .tuple #[.agg #[.int .i64 0, .int .i64 0, .string ⟨#[]⟩, .string ⟨#[]⟩, .int .i64 0, .int .i64 0], .bool false]) (by simp [results, Tryd.results23, go_sem, *]) rfl ⟨rfl, ?_⟩
    iterate 6 (refine Below.setCell ?_ (by exact Nat.le_refl _) _)
    exact HB6.out
  · skip
    go_wp2
    refine bodyPost_ret (v := .tuple #[.agg #[.int .i64 r.kind, .int .i64 r.batch, .string r.key, .string r.val, .int .i64 r.cnt, .int .i64 r.sum], .bool true]) (by simp [results, Tryd.results23, go_sem, *]) rfl ⟨rfl, ?_⟩
    iterate 6 (refine Below.setCell ?_ (by exact Nat.le_refl _) _)
    exact HB6.out

theorem specRecAt_any (s : ByteArray) (hs : s.size ≤ 1048576) (at' n : Int) : Ans 23 #[.string s, .int .i64 at', .int .i64 n] (.tuple #[.agg #[.int .i64 (ra s at' n).1.kind, .int .i64 (ra s at' n).1.batch, .string (ra s at' n).1.key, .string (ra s at' n).1.val, .int .i64 (ra s at' n).1.cnt, .int .i64 (ra s at' n).1.sum], .bool (ra s at' n).2]) := by
  by_cases h : 0 ≤ at' ∧ at' ≤ s.size ∧ 1 ≤ n ∧ n ≤ s.size - at'
  · obtain ⟨p, rfl⟩ := Int.eq_ofNat_of_zero_le h.1
    obtain ⟨m, rfl⟩ := Int.eq_ofNat_of_zero_le (show 0 ≤ n by omega)
    have hl : (s.extract p (p + m)).size ≤ 1048576 := by rw [ba_len _ _ _ (by omega) (by omega)]; omega
    have HU := hide (specUnframe_any (s.extract p (p + m)) hl)
    have hb := uf_bd (s.extract p (p + m))
    have HR := hide (specRR_any (uf (s.extract p (p + m))).1 (by omega))
    have hra : ra s (p : Int) (m : Int) = if (((uf (s.extract p (p + m))).2 : Int) = (m : Int) ∧ (rr (uf (s.extract p (p + m))).1).2 = true) then ((rr (uf (s.extract p (p + m))).1).1, true) else (zeroR, false) := by
      unfold ra
      rw [Int.toNat_natCast, Int.toNat_natCast]
      by_cases hc : (((uf (s.extract p (p + m))).2 : Int) = (m : Int) ∧ (rr (uf (s.extract p (p + m))).1).2 = true)
      · rw [if_pos hc, if_pos ⟨h.1, h.2.1, h.2.2.1, h.2.2.2, hc.1, hc.2⟩]
      · rw [if_neg hc, if_neg (fun g => hc ⟨g.2.2.2.2.1, g.2.2.2.2.2⟩)]
    rw [hra]
    clear hra hb hl
    generalize uf (s.extract p (p + m)) = U at *
    generalize rr U.1 = V at *
    obtain ⟨r, ok⟩ := V
    simp only at HR ⊢
    by_cases hk : (U.2 : Int) = (m : Int)
    · have hA := specRecAt_in s hs p m (by omega) (by omega) _ (hide rfl) U.1 U.2 r ok true HU HR (by simpa using hk)
      cases ok with
      | true =>
        rw [if_pos ⟨hk, rfl⟩]
        exact hA
      | false =>
        rw [if_neg (by simp)]
        exact hA
    · have hA := specRecAt_in s hs p m (by omega) (by omega) _ (hide rfl) U.1 U.2 r ok false HU HR (by simpa using hk)
      rw [if_neg (fun g => hk g.1)]
      exact hA
  · have hra : ra s at' n = (zeroR, false) := if_neg (fun g => h ⟨g.1, g.2.1, g.2.2.1, g.2.2.2.1⟩)
    rw [hra]
    exact specRecAt_out s hs at' n h

end Go.Proofs.YtkcjlalkniaapaaDoor
