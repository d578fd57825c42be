/-
  impl.ReadRec: the record of a text, or none.
-/
import Derived.Test.YtkcjlalkniaapaaDoorTakeBody
import Derived.Test.YtkcjlalkniaapaaDoorRecOkI
namespace Go.Proofs.YtkcjlalkniaapaaDoor
open Go.RowKit
open Plain
attribute [local go_sem] body_eql body_eql0

/-- What is known once kind and batch are taken. -/
def TakesV (s : ByteArray) (V : Value) (s' : ByteArray) (f' : Bool) : Prop :=
  ∀ (w W : World) (B : Nat), TkAt w B (numT (numT s)) ((false || decide ((rv s).2 = 0)) || decide ((rv (numT s)).2 = 0)) W →
    Calls Tryd.prog 78 #[.pointer (some ⟨B, 0, none⟩), .int .i64 ((rv s).1 : Nat)] W fun e w' => e = .returned V ∧ TkAt w B s' f' w'
theorem not_empty {a : ByteArray} (h : ¬ a.size = 0) : a.toList.isEmpty = false := by
  have := nil_ne h
  cases e : a.toList with
  | nil => exact absurd e this
  | cons x r => rfl

/-- The world in which the taker is made: the result's block is there. -/
theorem tk_start (w W0 : World) (s : ByteArray) (hW : W0 = w.alloc (.cells #[.int .i64 0, .int .i64 0, .string ⟨#[]⟩, .string ⟨#[]⟩, .int .i64 0, .int .i64 0] 33)) : TkAt W0 (w.heap.size + 1) s false (W0.alloc (.cells #[.string s, .bool false] 59)) := by
  have e : W0.heap.size = w.heap.size + 1 := by rw [hW]; simp
  refine ⟨?_, by omega, al1 _ _⟩
  rw [← e]
  exact heap_alloc_new W0 _
/-- What is known of the result's block as long as nothing was written into it. -/
theorem res_cells (w W0 W : World) (hW : W0 = w.alloc (.cells #[.int .i64 0, .int .i64 0, .string ⟨#[]⟩, .string ⟨#[]⟩, .int .i64 0, .int .i64 0] 33)) (hb : Below W0.heap.size W0 W) :
    Below w.heap.size w W ∧ (∀ j, W.frozen? ⟨w.heap.size, j, none⟩ = false) ∧ W.heap[w.heap.size]? = some (.cells #[.int .i64 0, .int .i64 0, .string ⟨#[]⟩, .string ⟨#[]⟩, .int .i64 0, .int .i64 0] 33 (0, 0)) := by
  have e : W0.heap.size = w.heap.size + 1 := by rw [hW]; simp
  have hr : W.heap[w.heap.size]? = some (.cells #[.int .i64 0, .int .i64 0, .string ⟨#[]⟩, .string ⟨#[]⟩, .int .i64 0, .int .i64 0] 33 (0, 0)) := by
    rw [hb.block _ (by omega), hW]
    exact heap_alloc_new w _
  have h0 : Below w.heap.size w W0 := by rw [hW]; exact al1 w _
  exact ⟨h0.trans (hb.mono h0.size), fun j => by simp [World.frozen?, hr], hr⟩

set_option maxRecDepth 100000 in
set_option maxHeartbeats 4000000 in
theorem read_nil (s : ByteArray) (hs : s.size ≤ 1048576) (s' : ByteArray) (f' : Bool) (hT : TakesV s .nilIface s' f') :
    Ans 70 #[.string s] (.tuple #[.agg #[.int .i64 0, .int .i64 0, .string ⟨#[]⟩, .string ⟨#[]⟩, .int .i64 0, .int .i64 0], .bool false]) := by
  intro w
  obtain ⟨W0, hW⟩ : ∃ W0, W0 = w.alloc (.cells #[.int .i64 0, .int .i64 0, .string ⟨#[]⟩, .string ⟨#[]⟩, .int .i64 0, .int .i64 0] 33) := ⟨_, rfl⟩
  have HA := hide (tk_start w W0 s hW)
  have HRC := hide (fun W h => res_cells w W0 W hW h)
  have HT := hide hT
  clear hT
  go_enter Tryd.func70, Tryd.ntmps70
  go_wp2_with fail
  rw [← hW]
  clear hW
  refine (tkNum_any W0 _ (w.heap.size + 1) s false HA.out hs).mono ?_
  rintro e w1 ⟨rfl, h1⟩
  have H1 := hide h1
  clear h1 HA
  go_wp2_with fail
  refine (tkNum_any W0 _ (w.heap.size + 1) (numT s) _ H1.out (by have := numT_size s; omega)).mono ?_
  rintro e w2 ⟨rfl, h2⟩
  have H2 := hide h2
  clear h2 H1
  go_wp2_with fail
  refine (HT.out W0 w2 (w.heap.size + 1) H2.out).mono ?_
  rintro e w3 ⟨rfl, h3⟩
  obtain ⟨c0, c1⟩ := h3.cells
  have H3 := hide h3
  have hr3 := HRC.out w3 h3.bel
  obtain ⟨hb3, hf3, hrow⟩ := hr3
  have HB3 := hide hb3
  have g0 := hf3 0
  have g1 := hf3 1
  have g2 := hf3 2
  have g3 := hf3 3
  have g4 := hf3 4
  have g5 := hf3 5
  have y0 : w3.cell? ⟨w.heap.size, 0, none⟩ = _ := cell_of_row w3 _ 0 _ _ _ hrow
  have y1 : w3.cell? ⟨w.heap.size, 1, none⟩ = _ := cell_of_row w3 _ 1 _ _ _ hrow
  have y2 : w3.cell? ⟨w.heap.size, 2, none⟩ = _ := cell_of_row w3 _ 2 _ _ _ hrow
  have y3 : w3.cell? ⟨w.heap.size, 3, none⟩ = _ := cell_of_row w3 _ 3 _ _ _ hrow
  have y4 : w3.cell? ⟨w.heap.size, 4, none⟩ = _ := cell_of_row w3 _ 4 _ _ _ hrow
  have y5 : w3.cell? ⟨w.heap.size, 5, none⟩ = _ := cell_of_row w3 _ 5 _ _ _ hrow
  clear h3 hb3 hf3 hrow H2 HT
  go_wp2
  refine bodyPost_ret (v := .tuple #[.agg #[.int .i64 0, .int .i64 0, .string ⟨#[]⟩, .string ⟨#[]⟩, .int .i64 0, .int .i64 0], .bool false]) (by simp [results, Tryd.results70, go_sem, *]) rfl ⟨rfl, ?_⟩
  iterate 6 (refine Below.setCell ?_ (by exact Nat.le_refl _) _)
  exact HB3.out

set_option maxRecDepth 100000 in
set_option maxHeartbeats 4000000 in
theorem read_failed (s : ByteArray) (hs : s.size ≤ 1048576) (s' : ByteArray) (t : TypeId) (v : Value) (hT : TakesV s (.iface t v) s' true) :
    Ans 70 #[.string s] (.tuple #[.agg #[.int .i64 0, .int .i64 0, .string ⟨#[]⟩, .string ⟨#[]⟩, .int .i64 0, .int .i64 0], .bool false]) := by
  intro w
  obtain ⟨W0, hW⟩ : ∃ W0, W0 = w.alloc (.cells #[.int .i64 0, .int .i64 0, .string ⟨#[]⟩, .string ⟨#[]⟩, .int .i64 0, .int .i64 0] 33) := ⟨_, rfl⟩
  have HA := hide (tk_start w W0 s hW)
  have HRC := hide (fun W h => res_cells w W0 W hW h)
  have HT := hide hT
  clear hT
  go_enter Tryd.func70, Tryd.ntmps70
  go_wp2_with fail
  rw [← hW]
  clear hW
  refine (tkNum_any W0 _ (w.heap.size + 1) s false HA.out hs).mono ?_
  rintro e w1 ⟨rfl, h1⟩
  have H1 := hide h1
  clear h1 HA
  go_wp2_with fail
  refine (tkNum_any W0 _ (w.heap.size + 1) (numT s) _ H1.out (by have := numT_size s; omega)).mono ?_
  rintro e w2 ⟨rfl, h2⟩
  have H2 := hide h2
  clear h2 H1
  go_wp2_with fail
  refine (HT.out W0 w2 (w.heap.size + 1) H2.out).mono ?_
  rintro e w3 ⟨rfl, h3⟩
  obtain ⟨c0, c1⟩ := h3.cells
  have H3 := hide h3
  have hr3 := HRC.out w3 h3.bel
  obtain ⟨hb3, hf3, hrow⟩ := hr3
  have HB3 := hide hb3
  have g0 := hf3 0
  have g1 := hf3 1
  have g2 := hf3 2
  have g3 := hf3 3
  have g4 := hf3 4
  have g5 := hf3 5
  have y0 : w3.cell? ⟨w.heap.size, 0, none⟩ = _ := cell_of_row w3 _ 0 _ _ _ hrow
  have y1 : w3.cell? ⟨w.heap.size, 1, none⟩ = _ := cell_of_row w3 _ 1 _ _ _ hrow
  have y2 : w3.cell? ⟨w.heap.size, 2, none⟩ = _ := cell_of_row w3 _ 2 _ _ _ hrow
  have y3 : w3.cell? ⟨w.heap.size, 3, none⟩ = _ := cell_of_row w3 _ 3 _ _ _ hrow
  have y4 : w3.cell? ⟨w.heap.size, 4, none⟩ = _ := cell_of_row w3 _ 4 _ _ _ hrow
  have y5 : w3.cell? ⟨w.heap.size, 5, none⟩ = _ := cell_of_row w3 _ 5 _ _ _ hrow
  clear h3 hb3 hf3 hrow H2 HT
  go_wp2
  refine bodyPost_ret (v := .tuple #[.agg #[.int .i64 0, .int .i64 0, .string ⟨#[]⟩, .string ⟨#[]⟩, .int .i64 0, .int .i64 0], .bool false]) (by simp [results, Tryd.results70, go_sem, *]) rfl ⟨rfl, ?_⟩
  iterate 6 (refine Below.setCell ?_ (by exact Nat.le_refl _) _)
  exact HB3.out

set_option maxRecDepth 100000 in
set_option maxHeartbeats 4000000 in
theorem read_left (s : ByteArray) (hs : s.size ≤ 1048576) (s' : ByteArray) (t : TypeId) (v : Value) (hT : TakesV s (.iface t v) s' false) (h0 : ¬ s'.size = 0) :
    Ans 70 #[.string s] (.tuple #[.agg #[.int .i64 0, .int .i64 0, .string ⟨#[]⟩, .string ⟨#[]⟩, .int .i64 0, .int .i64 0], .bool false]) := by
  intro w
  obtain ⟨W0, hW⟩ : ∃ W0, W0 = w.alloc (.cells #[.int .i64 0, .int .i64 0, .string ⟨#[]⟩, .string ⟨#[]⟩, .int .i64 0, .int .i64 0] 33) := ⟨_, rfl⟩
  have HA := hide (tk_start w W0 s hW)
  have HRC := hide (fun W h => res_cells w W0 W hW h)
  have HT := hide hT
  clear hT
  have t0 := not_empty h0
  clear h0
  go_enter Tryd.func70, Tryd.ntmps70
  go_wp2_with fail
  rw [← hW]
  clear hW
  refine (tkNum_any W0 _ (w.heap.size + 1) s false HA.out hs).mono ?_
  rintro e w1 ⟨rfl, h1⟩
  have H1 := hide h1
  clear h1 HA
  go_wp2_with fail
  refine (tkNum_any W0 _ (w.heap.size + 1) (numT s) _ H1.out (by have := numT_size s; omega)).mono ?_
  rintro e w2 ⟨rfl, h2⟩
  have H2 := hide h2
  clear h2 H1
  go_wp2_with fail
  refine (HT.out W0 w2 (w.heap.size + 1) H2.out).mono ?_
  rintro e w3 ⟨rfl, h3⟩
  obtain ⟨c0, c1⟩ := h3.cells
  have H3 := hide h3
  have hr3 := HRC.out w3 h3.bel
  obtain ⟨hb3, hf3, hrow⟩ := hr3
  have HB3 := hide hb3
  have g0 := hf3 0
  have g1 := hf3 1
  have g2 := hf3 2
  have g3 := hf3 3
  have g4 := hf3 4
  have g5 := hf3 5
  have y0 : w3.cell? ⟨w.heap.size, 0, none⟩ = _ := cell_of_row w3 _ 0 _ _ _ hrow
  have y1 : w3.cell? ⟨w.heap.size, 1, none⟩ = _ := cell_of_row w3 _ 1 _ _ _ hrow
  have y2 : w3.cell? ⟨w.heap.size, 2, none⟩ = _ := cell_of_row w3 _ 2 _ _ _ hrow
  have y3 : w3.cell? ⟨w.heap.size, 3, none⟩ = _ := cell_of_row w3 _ 3 _ _ _ hrow
  have y4 : w3.cell? ⟨w.heap.size, 4, none⟩ = _ := cell_of_row w3 _ 4 _ _ _ hrow
  have y5 : w3.cell? ⟨w.heap.size, 5, none⟩ = _ := cell_of_row w3 _ 5 _ _ _ hrow
  clear h3 hb3 hf3 hrow H2 HT
  go_wp2
  refine bodyPost_ret (v := .tuple #[.agg #[.int .i64 0, .int .i64 0, .string ⟨#[]⟩, .string ⟨#[]⟩, .int .i64 0, .int .i64 0], .bool false]) (by simp [results, Tryd.results70, go_sem, *]) rfl ⟨rfl, ?_⟩
  iterate 6 (refine Below.setCell ?_ (by exact Nat.le_refl _) _)
  exact HB3.out

set_option maxRecDepth 100000 in
set_option maxHeartbeats 4000000 in
theorem read_rec (s : ByteArray) (hs : s.size ≤ 1048576) (s' : ByteArray) (t : TypeId) (v : Value) (k b : Int) (key val : ByteArray) (c x : Int) (hT : TakesV s (.iface t v) s' false) (h0 : s'.size = 0) (hR : Ans 79 #[.iface t v, .int .i64 ((rv (numT s)).1 : Nat)] (.agg #[.int .i64 k, .int .i64 b, .string key, .string val, .int .i64 c, .int .i64 x])) (hO : Ans 73 #[.agg #[.int .i64 k, .int .i64 b, .string key, .string val, .int .i64 c, .int .i64 x]] (.bool true)) :
    Ans 70 #[.string s] (.tuple #[.agg #[.int .i64 k, .int .i64 b, .string key, .string val, .int .i64 c, .int .i64 x], .bool true]) := by
  intro w
  obtain ⟨W0, hW⟩ : ∃ W0, W0 = w.alloc (.cells #[.int .i64 0, .int .i64 0, .string ⟨#[]⟩, .string ⟨#[]⟩, .int .i64 0, .int .i64 0] 33) := ⟨_, rfl⟩
  have HA := hide (tk_start w W0 s hW)
  have HRC := hide (fun W h => res_cells w W0 W hW h)
  have HT := hide hT
  clear hT
  have t0 := nil_eq h0
  have HR := hide hR
  have HO := hide hO
  clear h0 hR hO
  go_enter Tryd.func70, Tryd.ntmps70
  go_wp2_with fail
  rw [← hW]
  clear hW
  refine (tkNum_any W0 _ (w.heap.size + 1) s false HA.out hs).mono ?_
  rintro e w1 ⟨rfl, h1⟩
  have H1 := hide h1
  clear h1 HA
  go_wp2_with fail
  refine (tkNum_any W0 _ (w.heap.size + 1) (numT s) _ H1.out (by have := numT_size s; omega)).mono ?_
  rintro e w2 ⟨rfl, h2⟩
  have H2 := hide h2
  clear h2 H1
  go_wp2_with fail
  refine (HT.out W0 w2 (w.heap.size + 1) H2.out).mono ?_
  rintro e w3 ⟨rfl, h3⟩
  obtain ⟨c0, c1⟩ := h3.cells
  have H3 := hide h3
  have hr3 := HRC.out w3 h3.bel
  obtain ⟨hb3, hf3, hrow⟩ := hr3
  have HB3 := hide hb3
  have g0 := hf3 0
  have g1 := hf3 1
  have g2 := hf3 2
  have g3 := hf3 3
  have g4 := hf3 4
  have g5 := hf3 5
  have y0 : w3.cell? ⟨w.heap.size, 0, none⟩ = _ := cell_of_row w3 _ 0 _ _ _ hrow
  have y1 : w3.cell? ⟨w.heap.size, 1, none⟩ = _ := cell_of_row w3 _ 1 _ _ _ hrow
  have y2 : w3.cell? ⟨w.heap.size, 2, none⟩ = _ := cell_of_row w3 _ 2 _ _ _ hrow
  have y3 : w3.cell? ⟨w.heap.size, 3, none⟩ = _ := cell_of_row w3 _ 3 _ _ _ hrow
  have y4 : w3.cell? ⟨w.heap.size, 4, none⟩ = _ := cell_of_row w3 _ 4 _ _ _ hrow
  have y5 : w3.cell? ⟨w.heap.size, 5, none⟩ = _ := cell_of_row w3 _ 5 _ _ _ hrow
  clear h3 hb3 hf3 hrow H2 HT
  go_wp2_with fail
  clear y0 y1 y2 y3 y4 y5 g0 g1 g2 g3 g4 g5 c0 c1
  refine (HR.out _).mono ?_
  rintro e w4 ⟨rfl, h4⟩
  have HW4 := hide (H3.out.later h4).bel
  clear h4 H3 HB3
  go_wp2_with fail
  refine (HO.out _).mono ?_
  rintro e w5 ⟨rfl, h5⟩
  have hk5 := ((RecAt.new w4 k b key val c x).later h5)
  have h45 := hk5.bel
  obtain ⟨x0, x1, x2, x3, x4, x5, -⟩ := hk5.cells
  have hb5 := HRC.out w5 (HW4.out.trans (h45.mono HW4.out.size))
  obtain ⟨hb3, hf3, hrow⟩ := hb5
  have HB5 := hide hb3
  have g0 := hf3 0
  have g1 := hf3 1
  have g2 := hf3 2
  have g3 := hf3 3
  have g4 := hf3 4
  have g5 := hf3 5
  have y0 : w5.cell? ⟨w.heap.size, 0, none⟩ = _ := cell_of_row w5 _ 0 _ _ _ hrow
  have y1 : w5.cell? ⟨w.heap.size, 1, none⟩ = _ := cell_of_row w5 _ 1 _ _ _ hrow
  have y2 : w5.cell? ⟨w.heap.size, 2, none⟩ = _ := cell_of_row w5 _ 2 _ _ _ hrow
  have y3 : w5.cell? ⟨w.heap.size, 3, none⟩ = _ := cell_of_row w5 _ 3 _ _ _ hrow
  have y4 : w5.cell? ⟨w.heap.size, 4, none⟩ = _ := cell_of_row w5 _ 4 _ _ _ hrow
  have y5 : w5.cell? ⟨w.heap.size, 5, none⟩ = _ := cell_of_row w5 _ 5 _ _ _ hrow
  clear h5 hk5 h45 hb3 hf3 hrow HRC HW4 HR HO
  go_wp2
  refine bodyPost_ret (v := .tuple #[.agg #[.int .i64 k, .int .i64 b, .string key, .string val, .int .i64 c, .int .i64 x], .bool true]) (by simp [results, Tryd.results70, go_sem, *]) rfl ⟨rfl, ?_⟩
  iterate 6 (refine Below.setCell ?_ (by exact Nat.le_refl _) _)
  exact HB5.out

set_option maxRecDepth 100000 in
set_option maxHeartbeats 4000000 in
theorem read_not (s : ByteArray) (hs : s.size ≤ 1048576) (s' : ByteArray) (t : TypeId) (v : Value) (k b : Int) (key val : ByteArray) (c x : Int) (hT : TakesV s (.iface t v) s' false) (h0 : s'.size = 0) (hR : Ans 79 #[.iface t v, .int .i64 ((rv (numT s)).1 : Nat)] (.agg #[.int .i64 k, .int .i64 b, .string key, .string val, .int .i64 c, .int .i64 x])) (hO : Ans 73 #[.agg #[.int .i64 k, .int .i64 b, .string key, .string val, .int .i64 c, .int .i64 x]] (.bool false)) :
    Ans 70 #[.string s] (.tuple #[.agg #[.int .i64 0, .int .i64 0, .string ⟨#[]⟩, .string ⟨#[]⟩, .int .i64 0, .int .i64 0], .bool false]) := by
  intro w
  obtain ⟨W0, hW⟩ : ∃ W0, W0 = w.alloc (.cells #[.int .i64 0, .int .i64 0, .string ⟨#[]⟩, .string ⟨#[]⟩, .int .i64 0, .int .i64 0] 33) := ⟨_, rfl⟩
  have HA := hide (tk_start w W0 s hW)
  have HRC := hide (fun W h => res_cells w W0 W hW h)
  have HT := hide hT
  clear hT
  have t0 := nil_eq h0
  have HR := hide hR
  have HO := hide hO
  clear h0 hR hO
  go_enter Tryd.func70, Tryd.ntmps70
  go_wp2_with fail
  rw [← hW]
  clear hW
  refine (tkNum_any W0 _ (w.heap.size + 1) s false HA.out hs).mono ?_
  rintro e w1 ⟨rfl, h1⟩
  have H1 := hide h1
  clear h1 HA
  go_wp2_with fail
  refine (tkNum_any W0 _ (w.heap.size + 1) (numT s) _ H1.out (by have := numT_size s; omega)).mono ?_
  rintro e w2 ⟨rfl, h2⟩
  have H2 := hide h2
  clear h2 H1
  go_wp2_with fail
  refine (HT.out W0 w2 (w.heap.size + 1) H2.out).mono ?_
  rintro e w3 ⟨rfl, h3⟩
  obtain ⟨c0, c1⟩ := h3.cells
  have H3 := hide h3
  have hr3 := HRC.out w3 h3.bel
  obtain ⟨hb3, hf3, hrow⟩ := hr3
  have HB3 := hide hb3
  have g0 := hf3 0
  have g1 := hf3 1
  have g2 := hf3 2
  have g3 := hf3 3
  have g4 := hf3 4
  have g5 := hf3 5
  have y0 : w3.cell? ⟨w.heap.size, 0, none⟩ = _ := cell_of_row w3 _ 0 _ _ _ hrow
  have y1 : w3.cell? ⟨w.heap.size, 1, none⟩ = _ := cell_of_row w3 _ 1 _ _ _ hrow
  have y2 : w3.cell? ⟨w.heap.size, 2, none⟩ = _ := cell_of_row w3 _ 2 _ _ _ hrow
  have y3 : w3.cell? ⟨w.heap.size, 3, none⟩ = _ := cell_of_row w3 _ 3 _ _ _ hrow
  have y4 : w3.cell? ⟨w.heap.size, 4, none⟩ = _ := cell_of_row w3 _ 4 _ _ _ hrow
  have y5 : w3.cell? ⟨w.heap.size, 5, none⟩ = _ := cell_of_row w3 _ 5 _ _ _ hrow
  clear h3 hb3 hf3 hrow H2 HT
  go_wp2_with fail
  clear y0 y1 y2 y3 y4 y5 g0 g1 g2 g3 g4 g5 c0 c1
  refine (HR.out _).mono ?_
  rintro e w4 ⟨rfl, h4⟩
  have HW4 := hide (H3.out.later h4).bel
  clear h4 H3 HB3
  go_wp2_with fail
  refine (HO.out _).mono ?_
  rintro e w5 ⟨rfl, h5⟩
  have hk5 := ((RecAt.new w4 k b key val c x).later h5)
  have h45 := hk5.bel
  obtain ⟨x0, x1, x2, x3, x4, x5, -⟩ := hk5.cells
  have hb5 := HRC.out w5 (HW4.out.trans (h45.mono HW4.out.size))
  obtain ⟨hb3, hf3, hrow⟩ := hb5
  have HB5 := hide hb3
  have g0 := hf3 0
  have g1 := hf3 1
  have g2 := hf3 2
  have g3 := hf3 3
  have g4 := hf3 4
  have g5 := hf3 5
  have y0 : w5.cell? ⟨w.heap.size, 0, none⟩ = _ := cell_of_row w5 _ 0 _ _ _ hrow
  have y1 : w5.cell? ⟨w.heap.size, 1, none⟩ = _ := cell_of_row w5 _ 1 _ _ _ hrow
  have y2 : w5.cell? ⟨w.heap.size, 2, none⟩ = _ := cell_of_row w5 _ 2 _ _ _ hrow
  have y3 : w5.cell? ⟨w.heap.size, 3, none⟩ = _ := cell_of_row w5 _ 3 _ _ _ hrow
  have y4 : w5.cell? ⟨w.heap.size, 4, none⟩ = _ := cell_of_row w5 _ 4 _ _ _ hrow
  have y5 : w5.cell? ⟨w.heap.size, 5, none⟩ = _ := cell_of_row w5 _ 5 _ _ _ hrow
  clear h5 hk5 h45 hb3 hf3 hrow HRC HW4 HR HO
  go_wp2
  refine bodyPost_ret (v := .tuple #[.agg #[.int .i64 0, .int .i64 0, .string ⟨#[]⟩, .string ⟨#[]⟩, .int .i64 0, .int .i64 0], .bool false]) (by simp [results, Tryd.results70, go_sem, *]) rfl ⟨rfl, ?_⟩
  iterate 6 (refine Below.setCell ?_ (by exact Nat.le_refl _) _)
  exact HB5.out

end Go.Proofs.YtkcjlalkniaapaaDoor
