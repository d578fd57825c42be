/-
  impl.RecAt: the record whose frame is just these bytes.
-/
import Derived.Test.YtkcjlalkniaapaaDoorSpotAtI
namespace Go.Proofs.YtkcjlalkniaapaaDoor
open Go.RowKit
open Plain

/-- In whatever world whose table and errors are right f answers v and touches nothing that was there. -/
def AnsE (f : FuncId) (args : Array Value) (v : Value) : Prop := ∀ w A B, STab w → ErrIn w A B → Calls Tryd.prog f args w fun e w' => e = .returned v ∧ Below w.heap.size w w'

theorem uf_in (s : ByteArray) (p m : Nat) (h1 : 1 ≤ m) (he : (uf (s.extract p s.size)).2 = m) : uf (s.extract p (p + m)) = uf (s.extract p s.size) := by
  rcases uf_UF (s.extract p s.size) with ⟨a1, a2, T, a3⟩ | ⟨a1, _⟩
  · have e : s.extract p (p + m) = frameS (uf (s.extract p s.size)).1 := by
      rw [← cut_take s p m, ← he, a2]
      have := ba_take (frameS (uf (s.extract p s.size)).1) T
      rw [← a3] at this
      exact this
    have e2 := uf_frame (uf (s.extract p s.size)).1 ⟨#[]⟩ a1
    rw [show frameS (uf (s.extract p s.size)).1 ++ (⟨#[]⟩ : ByteArray) = frameS (uf (s.extract p s.size)).1 from ByteArray.append_empty, ← a2] at e2
    rw [e, e2]
  · omega
theorem uf_out (s : ByteArray) (p m : Nat) (h : p + m ≤ s.size) (h1 : 1 ≤ m) (he : (uf (s.extract p (p + m))).2 = m) : uf (s.extract p s.size) = uf (s.extract p (p + m)) := by
  rcases uf_UF (s.extract p (p + m)) with ⟨a1, a2, T, a3⟩ | ⟨a1, _⟩
  · have e : s.extract p s.size = frameS (uf (s.extract p (p + m))).1 ++ (T ++ s.extract (p + m) s.size) := by
      rw [← ByteArray.append_assoc, ← a3, ByteArray.extract_append_extract, Nat.min_eq_left (by omega), Nat.max_eq_right (by omega)]
    have e2 := uf_frame (uf (s.extract p (p + m))).1 (T ++ s.extract (p + m) s.size) a1
    rw [← e, ← a2] at e2
    rw [e2]
  · omega

/-- What RecAt tells, off the frame that stands there. -/
theorem ra_no (s : ByteArray) (at' n : Int) (h : ¬ (0 ≤ at' ∧ at' ≤ s.size)) : ra s at' n = (zeroR, false) := if_neg (fun g => h ⟨g.1, g.2.1⟩)
theorem ra_bad (s : ByteArray) (p : Nat) (n : Int) (h : (uf (s.extract p s.size)).2 = 0 ∨ (rr (uf (s.extract p s.size)).1).2 = false ∨ ¬ ((uf (s.extract p s.size)).2 : Int) = n) : ra s (p : Int) n = (zeroR, false) := by
  refine if_neg ?_
  rintro ⟨-, g1, g2, g3, g4, g5⟩
  obtain ⟨m, rfl⟩ := Int.eq_ofNat_of_zero_le (show 0 ≤ n by omega)
  rw [Int.toNat_natCast, Int.toNat_natCast] at g4 g5
  have e := uf_out s p m (by omega) (by omega) (by omega)
  rw [← e] at g4 g5
  rcases h with h | h | h
  · omega
  · rw [h] at g5; cases g5
  · exact h g4
theorem ra_good (s : ByteArray) (p : Nat) (hp : p ≤ s.size) (n : Int) (h0 : ¬ (uf (s.extract p s.size)).2 = 0) (h1 : (rr (uf (s.extract p s.size)).1).2 = true) (h2 : ((uf (s.extract p s.size)).2 : Int) = n) : ra s (p : Int) n = ((rr (uf (s.extract p s.size)).1).1, true) := by
  have hb := uf_bd (s.extract p s.size)
  rw [ba_len _ _ _ (by omega) (Nat.le_refl _)] at hb
  have e := uf_in s p (uf (s.extract p s.size)).2 (by omega) rfl
  unfold ra
  rw [Int.toNat_natCast, ← h2, Int.toNat_natCast, e, if_pos ⟨by omega, by omega, by omega, by omega, rfl, h1⟩]

set_option maxRecDepth 100000 in
set_option maxHeartbeats 4000000 in
theorem implRecAt_out (s : ByteArray) (at' n : Int) (h : ¬ (0 ≤ at' ∧ at' ≤ s.size)) : Ans 17 #[.string s, .int .i64 at', .int .i64 n] (.tuple #[.agg #[.int .i64 0, .int .i64 0, .string ⟨#[]⟩, .string ⟨#[]⟩, .int .i64 0, .int .i64 0], .bool false]) := by
  intro w
  by_cases h1 : at' < 0
  · clear h
    go_enter Tryd.func17, Tryd.ntmps17
    go_wp2
    refine bodyPost_ret (v := .tuple #[.agg #[.int .i64 0, .int .i64 0, .string ⟨#[]⟩, .string ⟨#[]⟩, .int .i64 0, .int .i64 0], .bool false]) (by simp [results, Tryd.results17, go_sem]) rfl ⟨rfl, ?_⟩
    exact al1 _ _
  · have h2 : (s.size : Int) < at' := by omega
    clear h
    go_enter Tryd.func17, Tryd.ntmps17
    go_wp2
    refine bodyPost_ret (v := .tuple #[.agg #[.int .i64 0, .int .i64 0, .string ⟨#[]⟩, .string ⟨#[]⟩, .int .i64 0, .int .i64 0], .bool false]) (by simp [results, Tryd.results17, go_sem]) rfl ⟨rfl, ?_⟩
    exact al1 _ _

set_option maxRecDepth 100000 in
set_option maxHeartbeats 4000000 in
theorem implRecAt_err (s : ByteArray) (p : Nat) (hp : p ≤ s.size) (n q m : Int) (r : RecV) (w : World) (T : TypeId) (v : Value)
    (HA : Hid (Calls Tryd.prog 43 #[.string s, .int .i64 p] (w.alloc (.cells #[.int .i64 0, .int .i64 0, .string ⟨#[]⟩, .string ⟨#[]⟩, .int .i64 0, .int .i64 0] 33)) fun e w' => e = .returned (.tuple #[.agg #[.int .i64 q, .int .i64 m, .int .i64 r.kind, .int .i64 r.batch, .string r.key, .string r.val, .int .i64 r.cnt, .int .i64 r.sum], .iface T v]) ∧ Below (w.alloc (.cells #[.int .i64 0, .int .i64 0, .string ⟨#[]⟩, .string ⟨#[]⟩, .int .i64 0, .int .i64 0] 33)).heap.size (w.alloc (.cells #[.int .i64 0, .int .i64 0, .string ⟨#[]⟩, .string ⟨#[]⟩, .int .i64 0, .int .i64 0] 33)) w')) :
    Calls Tryd.prog 17 #[.string s, .int .i64 p, .int .i64 n] w fun e w' => e = .returned (.tuple #[.agg #[.int .i64 0, .int .i64 0, .string ⟨#[]⟩, .string ⟨#[]⟩, .int .i64 0, .int .i64 0], .bool false]) ∧ Below w.heap.size w w' := by
  have b1 : decide ((p : Int) < 0) = false := by simp
  have b2 : decide ((s.size : Int) < (p : Int)) = false := by simp; omega
  obtain ⟨W0, hW⟩ : ∃ W0, W0 = w.alloc (.cells #[.int .i64 0, .int .i64 0, .string ⟨#[]⟩, .string ⟨#[]⟩, .int .i64 0, .int .i64 0] 33) := ⟨_, rfl⟩
  rw [← hW] at HA
  have HRC := hide (fun W h => res_cells w W0 W hW h)
  go_enter Tryd.func17, Tryd.ntmps17
  go_wp2_with fail
  rw [← hW]
  clear hW
  refine HA.out.mono ?_
  rintro e w2 ⟨rfl, hb2⟩
  have HB2 := hide hb2
  clear hb2 HA
  obtain ⟨w5, hw5⟩ : ∃ w5, w5 = w2.alloc (.cells #[.int .i64 q, .int .i64 m, .int .i64 r.kind, .int .i64 r.batch, .string r.key, .string r.val, .int .i64 r.cnt, .int .i64 r.sum] 37) := ⟨_, rfl⟩
  have hrow2 : w5.heap[w2.heap.size]? = some (.cells #[.int .i64 q, .int .i64 m, .int .i64 r.kind, .int .i64 r.batch, .string r.key, .string r.val, .int .i64 r.cnt, .int .i64 r.sum] 37 (0, 0)) := by rw [hw5]; exact heap_alloc_new w2 _
  have hb5 : Below W0.heap.size W0 w5 := by rw [hw5]; exact HB2.out.alloc HB2.out.size _
  obtain ⟨hb6, hf6, hrow⟩ := HRC.out w5 hb5
  have HB6 := hide hb6
  obtain ⟨D, hD⟩ : ∃ D, w2.heap.size = D := ⟨_, rfl⟩
  rw [hD] at hrow2
  have g0 := hf6 0
  have g1 := hf6 1
  have g2 := hf6 2
  have g3 := hf6 3
  have g4 := hf6 4
  have g5 := hf6 5
  have y0 : w5.cell? ⟨w.heap.size, 0, none⟩ = _ := cell_of_row w5 _ 0 _ _ _ hrow
  have y1 : w5.cell? ⟨w.heap.size, 1, none⟩ = _ := cell_of_row w5 _ 1 _ _ _ hrow
  have y2 : w5.cell? ⟨w.heap.size, 2, none⟩ = _ := cell_of_row w5 _ 2 _ _ _ hrow
  have y3 : w5.cell? ⟨w.heap.size, 3, none⟩ = _ := cell_of_row w5 _ 3 _ _ _ hrow
  have y4 : w5.cell? ⟨w.heap.size, 4, none⟩ = _ := cell_of_row w5 _ 4 _ _ _ hrow
  have y5 : w5.cell? ⟨w.heap.size, 5, none⟩ = _ := cell_of_row w5 _ 5 _ _ _ hrow
  have x0 : w5.cell? ⟨D, 0, none⟩ = _ := cell_of_row w5 _ 0 _ _ _ hrow2
  have x1 : w5.cell? ⟨D, 1, none⟩ = _ := cell_of_row w5 _ 1 _ _ _ hrow2
  have x2 : w5.cell? ⟨D, 2, none⟩ = _ := cell_of_row w5 _ 2 _ _ _ hrow2
  have x3 : w5.cell? ⟨D, 3, none⟩ = _ := cell_of_row w5 _ 3 _ _ _ hrow2
  have x4 : w5.cell? ⟨D, 4, none⟩ = _ := cell_of_row w5 _ 4 _ _ _ hrow2
  have x5 : w5.cell? ⟨D, 5, none⟩ = _ := cell_of_row w5 _ 5 _ _ _ hrow2
  have x6 : w5.cell? ⟨D, 6, none⟩ = _ := cell_of_row w5 _ 6 _ _ _ hrow2
  have x7 : w5.cell? ⟨D, 7, none⟩ = _ := cell_of_row w5 _ 7 _ _ _ hrow2
  clear hb6 hf6 hrow hrow2 hb5 HRC HB2
  rw [hw5] at g0 g1 g2 g3 g4 g5 y0 y1 y2 y3 y4 y5 x0 x1 x2 x3 x4 x5 x6 x7 HB6
  clear hw5
  go_wp2
  refine bodyPost_ret (v := .tuple #[.agg #[.int .i64 0, .int .i64 0, .string ⟨#[]⟩, .string ⟨#[]⟩, .int .i64 0, .int .i64 0], .bool false]) (by simp [results, Tryd.results17, go_sem, *]) rfl ⟨rfl, ?_⟩
  iterate 6 (refine Below.setCell ?_ (by exact Nat.le_refl _) _)
  exact HB6.out

set_option maxRecDepth 100000 in
set_option maxHeartbeats 4000000 in
theorem implRecAt_len (s : ByteArray) (p : Nat) (hp : p ≤ s.size) (n q m : Int) (r : RecV) (w : World) (hn : (m != n) = true)
    (HA : Hid (Calls Tryd.prog 43 #[.string s, .int .i64 p] (w.alloc (.cells #[.int .i64 0, .int .i64 0, .string ⟨#[]⟩, .string ⟨#[]⟩, .int .i64 0, .int .i64 0] 33)) fun e w' => e = .returned (.tuple #[.agg #[.int .i64 q, .int .i64 m, .int .i64 r.kind, .int .i64 r.batch, .string r.key, .string r.val, .int .i64 r.cnt, .int .i64 r.sum], .nilIface]) ∧ Below (w.alloc (.cells #[.int .i64 0, .int .i64 0, .string ⟨#[]⟩, .string ⟨#[]⟩, .int .i64 0, .int .i64 0] 33)).heap.size (w.alloc (.cells #[.int .i64 0, .int .i64 0, .string ⟨#[]⟩, .string ⟨#[]⟩, .int .i64 0, .int .i64 0] 33)) w')) :
    Calls Tryd.prog 17 #[.string s, .int .i64 p, .int .i64 n] w fun e w' => e = .returned (.tuple #[.agg #[.int .i64 0, .int .i64 0, .string ⟨#[]⟩, .string ⟨#[]⟩, .int .i64 0, .int .i64 0], .bool false]) ∧ Below w.heap.size w w' := by
  have b1 : decide ((p : Int) < 0) = false := by simp
  have b2 : decide ((s.size : Int) < (p : Int)) = false := by simp; omega
  obtain ⟨W0, hW⟩ : ∃ W0, W0 = w.alloc (.cells #[.int .i64 0, .int .i64 0, .string ⟨#[]⟩, .string ⟨#[]⟩, .int .i64 0, .int .i64 0] 33) := ⟨_, rfl⟩
  rw [← hW] at HA
  have HRC := hide (fun W h => res_cells w W0 W hW h)
  go_enter Tryd.func17, Tryd.ntmps17
  go_wp2_with fail
  rw [← hW]
  clear hW
  refine HA.out.mono ?_
  rintro e w2 ⟨rfl, hb2⟩
  have HB2 := hide hb2
  clear hb2 HA
  obtain ⟨w5, hw5⟩ : ∃ w5, w5 = w2.alloc (.cells #[.int .i64 q, .int .i64 m, .int .i64 r.kind, .int .i64 r.batch, .string r.key, .string r.val, .int .i64 r.cnt, .int .i64 r.sum] 37) := ⟨_, rfl⟩
  have hrow2 : w5.heap[w2.heap.size]? = some (.cells #[.int .i64 q, .int .i64 m, .int .i64 r.kind, .int .i64 r.batch, .string r.key, .string r.val, .int .i64 r.cnt, .int .i64 r.sum] 37 (0, 0)) := by rw [hw5]; exact heap_alloc_new w2 _
  have hb5 : Below W0.heap.size W0 w5 := by rw [hw5]; exact HB2.out.alloc HB2.out.size _
  obtain ⟨hb6, hf6, hrow⟩ := HRC.out w5 hb5
  have HB6 := hide hb6
  obtain ⟨D, hD⟩ : ∃ D, w2.heap.size = D := ⟨_, rfl⟩
  rw [hD] at hrow2
  have g0 := hf6 0
  have g1 := hf6 1
  have g2 := hf6 2
  have g3 := hf6 3
  have g4 := hf6 4
  have g5 := hf6 5
  have y0 : w5.cell? ⟨w.heap.size, 0, none⟩ = _ := cell_of_row w5 _ 0 _ _ _ hrow
  have y1 : w5.cell? ⟨w.heap.size, 1, none⟩ = _ := cell_of_row w5 _ 1 _ _ _ hrow
  have y2 : w5.cell? ⟨w.heap.size, 2, none⟩ = _ := cell_of_row w5 _ 2 _ _ _ hrow
  have y3 : w5.cell? ⟨w.heap.size, 3, none⟩ = _ := cell_of_row w5 _ 3 _ _ _ hrow
  have y4 : w5.cell? ⟨w.heap.size, 4, none⟩ = _ := cell_of_row w5 _ 4 _ _ _ hrow
  have y5 : w5.cell? ⟨w.heap.size, 5, none⟩ = _ := cell_of_row w5 _ 5 _ _ _ hrow
  have x0 : w5.cell? ⟨D, 0, none⟩ = _ := cell_of_row w5 _ 0 _ _ _ hrow2
  have x1 : w5.cell? ⟨D, 1, none⟩ = _ := cell_of_row w5 _ 1 _ _ _ hrow2
  have x2 : w5.cell? ⟨D, 2, none⟩ = _ := cell_of_row w5 _ 2 _ _ _ hrow2
  have x3 : w5.cell? ⟨D, 3, none⟩ = _ := cell_of_row w5 _ 3 _ _ _ hrow2
  have x4 : w5.cell? ⟨D, 4, none⟩ = _ := cell_of_row w5 _ 4 _ _ _ hrow2
  have x5 : w5.cell? ⟨D, 5, none⟩ = _ := cell_of_row w5 _ 5 _ _ _ hrow2
  have x6 : w5.cell? ⟨D, 6, none⟩ = _ := cell_of_row w5 _ 6 _ _ _ hrow2
  have x7 : w5.cell? ⟨D, 7, none⟩ = _ := cell_of_row w5 _ 7 _ _ _ hrow2
  clear hb6 hf6 hrow hrow2 hb5 HRC HB2
  rw [hw5] at g0 g1 g2 g3 g4 g5 y0 y1 y2 y3 y4 y5 x0 x1 x2 x3 x4 x5 x6 x7 HB6
  clear hw5
  go_wp2
  refine bodyPost_ret (v := .tuple #[.agg #[.int .i64 0, .int .i64 0, .string ⟨#[]⟩, .string ⟨#[]⟩, .int .i64 0, .int .i64 0], .bool false]) (by simp [results, Tryd.results17, go_sem, *]) rfl ⟨rfl, ?_⟩
  iterate 6 (refine Below.setCell ?_ (by exact Nat.le_refl _) _)
  exact HB6.out

set_option maxRecDepth 100000 in
set_option maxHeartbeats 4000000 in
theorem implRecAt_yes (s : ByteArray) (p : Nat) (hp : p ≤ s.size) (n q m : Int) (r : RecV) (w : World) (hn : (m != n) = false)
    (HA : Hid (Calls Tryd.prog 43 #[.string s, .int .i64 p] (w.alloc (.cells #[.int .i64 0, .int .i64 0, .string ⟨#[]⟩, .string ⟨#[]⟩, .int .i64 0, .int .i64 0] 33)) fun e w' => e = .returned (.tuple #[.agg #[.int .i64 q, .int .i64 m, .int .i64 r.kind, .int .i64 r.batch, .string r.key, .string r.val, .int .i64 r.cnt, .int .i64 r.sum], .nilIface]) ∧ Below (w.alloc (.cells #[.int .i64 0, .int .i64 0, .string ⟨#[]⟩, .string ⟨#[]⟩, .int .i64 0, .int .i64 0] 33)).heap.size (w.alloc (.cells #[.int .i64 0, .int .i64 0, .string ⟨#[]⟩, .string ⟨#[]⟩, .int .i64 0, .int .i64 0] 33)) w')) :
    Calls Tryd.prog 17 #[.string s, .int .i64 p, .int .i64 n] w fun e w' => e = .returned (.tuple #[.agg #[.int .i64 r.kind, .int .i64 r.batch, .string r.key, .string r.val, .int .i64 r.cnt, .int .i64 r.sum], .bool true]) ∧ Below w.heap.size w w' := by
  have b1 : decide ((p : Int) < 0) = false := by simp
  have b2 : decide ((s.size : Int) < (p : Int)) = false := by simp; omega
  obtain ⟨W0, hW⟩ : ∃ W0, W0 = w.alloc (.cells #[.int .i64 0, .int .i64 0, .string ⟨#[]⟩, .string ⟨#[]⟩, .int .i64 0, .int .i64 0] 33) := ⟨_, rfl⟩
  rw [← hW] at HA
  have HRC := hide (fun W h => res_cells w W0 W hW h)
  go_enter Tryd.func17, Tryd.ntmps17
  go_wp2_with fail
  rw [← hW]
  clear hW
  refine HA.out.mono ?_
  rintro e w2 ⟨rfl, hb2⟩
  have HB2 := hide hb2
  clear hb2 HA
  obtain ⟨w5, hw5⟩ : ∃ w5, w5 = w2.alloc (.cells #[.int .i64 q, .int .i64 m, .int .i64 r.kind, .int .i64 r.batch, .string r.key, .string r.val, .int .i64 r.cnt, .int .i64 r.sum] 37) := ⟨_, rfl⟩
  have hrow2 : w5.heap[w2.heap.size]? = some (.cells #[.int .i64 q, .int .i64 m, .int .i64 r.kind, .int .i64 r.batch, .string r.key, .string r.val, .int .i64 r.cnt, .int .i64 r.sum] 37 (0, 0)) := by rw [hw5]; exact heap_alloc_new w2 _
  have hb5 : Below W0.heap.size W0 w5 := by rw [hw5]; exact HB2.out.alloc HB2.out.size _
  obtain ⟨hb6, hf6, hrow⟩ := HRC.out w5 hb5
  have HB6 := hide hb6
  obtain ⟨D, hD⟩ : ∃ D, w2.heap.size = D := ⟨_, rfl⟩
  rw [hD] at hrow2
  have g0 := hf6 0
  have g1 := hf6 1
  have g2 := hf6 2
  have g3 := hf6 3
  have g4 := hf6 4
  have g5 := hf6 5
  have y0 : w5.cell? ⟨w.heap.size, 0, none⟩ = _ := cell_of_row w5 _ 0 _ _ _ hrow
  have y1 : w5.cell? ⟨w.heap.size, 1, none⟩ = _ := cell_of_row w5 _ 1 _ _ _ hrow
  have y2 : w5.cell? ⟨w.heap.size, 2, none⟩ = _ := cell_of_row w5 _ 2 _ _ _ hrow
  have y3 : w5.cell? ⟨w.heap.size, 3, none⟩ = _ := cell_of_row w5 _ 3 _ _ _ hrow
  have y4 : w5.cell? ⟨w.heap.size, 4, none⟩ = _ := cell_of_row w5 _ 4 _ _ _ hrow
  have y5 : w5.cell? ⟨w.heap.size, 5, none⟩ = _ := cell_of_row w5 _ 5 _ _ _ hrow
  have x0 : w5.cell? ⟨D, 0, none⟩ = _ := cell_of_row w5 _ 0 _ _ _ hrow2
  have x1 : w5.cell? ⟨D, 1, none⟩ = _ := cell_of_row w5 _ 1 _ _ _ hrow2
  have x2 : w5.cell? ⟨D, 2, none⟩ = _ := cell_of_row w5 _ 2 _ _ _ hrow2
  have x3 : w5.cell? ⟨D, 3, none⟩ = _ := cell_of_row w5 _ 3 _ _ _ hrow2
  have x4 : w5.cell? ⟨D, 4, none⟩ = _ := cell_of_row w5 _ 4 _ _ _ hrow2
  have x5 : w5.cell? ⟨D, 5, none⟩ = _ := cell_of_row w5 _ 5 _ _ _ hrow2
  have x6 : w5.cell? ⟨D, 6, none⟩ = _ := cell_of_row w5 _ 6 _ _ _ hrow2
  have x7 : w5.cell? ⟨D, 7, none⟩ = _ := cell_of_row w5 _ 7 _ _ _ hrow2
  clear hb6 hf6 hrow hrow2 hb5 HRC HB2
  rw [hw5] at g0 g1 g2 g3 g4 g5 y0 y1 y2 y3 y4 y5 x0 x1 x2 x3 x4 x5 x6 x7 HB6
  clear hw5
  go_wp2
  refine bodyPost_ret (v := .tuple #[.agg #[.int .i64 r.kind, .int .i64 r.batch, .string r.key, .string r.val, .int .i64 r.cnt, .int .i64 r.sum], .bool true]) (by simp [results, Tryd.results17, go_sem, *]) rfl ⟨rfl, ?_⟩
  iterate 6 (refine Below.setCell ?_ (by exact Nat.le_refl _) _)
  exact HB6.out

theorem bne_no {a b : Int} (h : a = b) : (a != b) = false := by simpa using h
theorem bne_yes {a b : Int} (h : ¬ a = b) : (a != b) = true := by simpa using h
set_option maxHeartbeats 1000000 in
theorem implRecAt_any (s : ByteArray) (hs : s.size ≤ 1048576) (at' n : Int) : AnsE 17 #[.string s, .int .i64 at', .int .i64 n] (.tuple #[.agg #[.int .i64 (ra s at' n).1.kind, .int .i64 (ra s at' n).1.batch, .string (ra s at' n).1.key, .string (ra s at' n).1.val, .int .i64 (ra s at' n).1.cnt, .int .i64 (ra s at' n).1.sum], .bool (ra s at' n).2]) := by
  intro w A B ht he
  by_cases h : 0 ≤ at' ∧ at' ≤ s.size
  · obtain ⟨p, rfl⟩ := Int.eq_ofNat_of_zero_le h.1
    have hp : p ≤ s.size := by omega
    have hb0 : Below w.heap.size w (w.alloc (.cells #[.int .i64 0, .int .i64 0, .string ⟨#[]⟩, .string ⟨#[]⟩, .int .i64 0, .int .i64 0] 33)) := al1 w _
    have hA := spotAt_any s hs p hp A B _ (ht.later hb0) (he.later hb0 (Nat.le_refl _))
    by_cases h0 : (uf (s.extract p s.size)).2 = 0
    · rw [show spC s p = _ from by unfold spC; rw [if_pos (Or.inl h0)], show spE A B s p = _ from by unfold spE; rw [if_pos h0]] at hA
      rw [ra_bad s p n (Or.inl h0)]
      exact implRecAt_err s p hp n 0 0 zeroR w _ _ (hide hA)
    · cases h1 : (rr (uf (s.extract p s.size)).1).2 with
      | false =>
        rw [show spC s p = _ from by unfold spC; rw [if_pos (Or.inr h1)], show spE A B s p = _ from by unfold spE; rw [if_neg h0, if_pos h1]] at hA
        rw [ra_bad s p n (Or.inr (Or.inl h1))]
        exact implRecAt_err s p hp n 0 0 zeroR w _ _ (hide hA)
      | true =>
        have h3 : ¬ ((uf (s.extract p s.size)).2 = 0 ∨ (rr (uf (s.extract p s.size)).1).2 = false) := by simp [h0, h1]
        rw [show spC s p = _ from by unfold spC; rw [if_neg h3], show spE A B s p = _ from by unfold spE; rw [if_neg h0, if_neg (by simp [h1])]] at hA
        by_cases h2 : ((uf (s.extract p s.size)).2 : Int) = n
        · rw [ra_good s p hp n h0 h1 h2]
          have hq := bne_no h2
          clear h2 h3 h0 h1
          generalize (rr (uf (s.extract p s.size)).1).1 = r at *
          generalize (uf (s.extract p s.size)).2 = m at *
          exact implRecAt_yes s p hp n p m r w hq (hide hA)
        · rw [ra_bad s p n (Or.inr (Or.inr h2))]
          have hq := bne_yes h2
          clear h2 h3 h0 h1
          generalize (rr (uf (s.extract p s.size)).1).1 = r at *
          generalize (uf (s.extract p s.size)).2 = m at *
          exact implRecAt_len s p hp n p m r w hq (hide hA)
  · rw [ra_no s at' n h]
    exact implRecAt_out s at' n h w

end Go.Proofs.YtkcjlalkniaapaaDoor
