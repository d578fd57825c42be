/-
  impl's taker: what it holds, and what its three methods take from the front of a text. impl.takeBody: what follows kind and batch, taken from the front of a text. impl.ReadRec: the record of a text, or none. impl.ReadRec at every text: the right record of which ShowRec makes it, or none. How the specification reads a record's text, with no Go in sight; spec.l5Text. Plain facts on the sum of chapter 2, with no Go in sight: one halving is linear over exclusive or, a table of sixteen makes four halvings, and no other bytes within four in a row have the same sum. Frames with no Go in sight: what Frame makes, and with whose frame a text begins. A directory in plain words: an entry of a key, a directory without a key, an entry put into its place. Which directories are right; spec.DirOk. What holds of a right directory: a key that is put is found, one that is dropped is not, all else is as it was, keys rise.
-/
import Derived.Test.YtimpokbcfjgdaaaGreatDoorHG04
import Derived.BigQuiet
import Derived.Deep.QuietTactic
import Derived.Test.YtimpokbcfjgdaaaGreatDoorHMRecOkI
import Derived.Test.YtimpokbcfjgdaaaGreatDoorHG00
import Derived.Laws.Cover1
namespace Go.Proofs.YtimpokbcfjgdaaaGreatDoor
open Go.RowKit
open Plain

/-- Block B, which w does not have, holds the taker: what is left, and whether a piece was missing; what was there in w is untouched. -/
structure TkAt (w : World) (B : Nat) (s : ByteArray) (f : Bool) (W : World) : Prop where
  row : W.heap[B]? = some (.cells #[.string s, .bool f] 78 (0, 0))
  new : w.heap.size ≤ B
  bel : Below w.heap.size w W
theorem TkAt.cells {w : World} {B : Nat} {s : ByteArray} {f : Bool} {W : World} (h : TkAt w B s f W) : W.cell? ⟨B, 0, none⟩ = some (.string s) ∧ W.cell? ⟨B, 1, none⟩ = some (.bool f) := by
  refine ⟨?_, ?_⟩ <;> (rw [cell_of_row W B _ _ _ _ h.row]; rfl)
theorem TkAt.free {w : World} {B : Nat} {s : ByteArray} {f : Bool} {W : World} (h : TkAt w B s f W) (j : Nat) : W.frozen? ⟨B, j, none⟩ = false := by simp [World.frozen?, h.row]
theorem TkAt.later {w : World} {B : Nat} {s : ByteArray} {f : Bool} {W W' : World} (h : TkAt w B s f W) (hb : Below W.heap.size W W') : TkAt w B s f W' :=
  ⟨(hb.block _ (lt_of_block h.row)).trans h.row, h.new, h.bel.trans (hb.mono h.bel.size)⟩
theorem TkAt.rest {w : World} {B : Nat} {s : ByteArray} {f : Bool} {W : World} (h : TkAt w B s f W) (t : ByteArray) : TkAt w B t f (W.setCell ⟨B, 0, none⟩ (.string t)) := by
  rw [setCell_eq_setRow W B 0 _ _ _ _ h.row]
  exact ⟨setRow_heap W B _ _ _ _ h.row, h.new, below_setRow h.bel h.new _⟩
theorem TkAt.fail {w : World} {B : Nat} {s : ByteArray} {f : Bool} {W : World} (h : TkAt w B s f W) (g : Bool) : TkAt w B s g (W.setCell ⟨B, 1, none⟩ (.bool g)) := by
  rw [setCell_eq_setRow W B 1 _ _ _ _ h.row]
  exact ⟨setRow_heap W B _ _ _ _ h.row, h.new, below_setRow h.bel h.new _⟩

set_option maxRecDepth 100000 in
set_option maxHeartbeats 1000000 in
theorem tkNum_any (w W : World) (B : Nat) (s : ByteArray) (f : Bool) (h : TkAt w B s f W) (hs : s.size ≤ 1048576) :
    Calls Tryz.prog 70 #[.pointer (some ⟨B, 0, none⟩)] W fun e w' => e = .returned (.int .i64 ((rv s).1 : Nat)) ∧ TkAt w B (numT s) (f || decide ((rv s).2 = 0)) w' := by
  obtain ⟨c0, c1⟩ := h.cells
  have f0 := h.free 0
  have f1 := h.free 1
  have HR := hide (implRV_any s hs)
  have HT : Hid (numT s = s.extract (rv s).2 s.size) := hide rfl
  have hbd := rv_bd s
  have HA := hide h
  clear h
  generalize (rv s).1 = n at *
  generalize (rv s).2 = k at *
  obtain ⟨-, -, hk⟩ := hbd
  by_cases h0 : k = 0
  · have t0 : ((k : Int) == 0) = true := by simpa using h0
    have HF : Hid ((f || decide (k = 0)) = true) := hide (by simp [h0])
    clear h0
    go_enter Tryz.func70, Tryz.ntmps70
    go_wp2_with (go_at_call 104; refine (HR.out _).mono ?_; rintro e w1 ⟨rfl, rfl⟩)
    go_ret
    refine ⟨rfl, ?_⟩
    rw [HF.out, HT.out]
    exact (HA.out.fail true).rest _
  · have t0 : ((k : Int) == 0) = false := by simpa using h0
    have HF : Hid ((f || decide (k = 0)) = f) := hide (by simp [h0])
    clear h0
    go_enter Tryz.func70, Tryz.ntmps70
    go_wp2_with (go_at_call 104; refine (HR.out _).mono ?_; rintro e w1 ⟨rfl, rfl⟩)
    go_ret
    refine ⟨rfl, ?_⟩
    rw [HF.out, HT.out]
    exact HA.out.rest _

set_option maxRecDepth 100000 in
set_option maxHeartbeats 1000000 in
theorem tkText_any (w W : World) (B : Nat) (s : ByteArray) (f : Bool) (h : TkAt w B s f W) (hs : s.size ≤ 1048576) :
    Calls Tryz.prog 105 #[.pointer (some ⟨B, 0, none⟩)] W fun e w' => e = .returned (.string (txtV s)) ∧ TkAt w B (txtR s) (f || txtF s) w' := by
  have HN := hide (tkNum_any w W B s f h hs)
  have hz : (numT s).size ≤ s.size := by rw [numT_size]; omega
  have hbd := rv_bd s
  by_cases hlt : (numT s).size < (rv s).1
  · have t1 : decide (((numT s).size : Int) < ((rv s).1 : Int)) = true := by simp; omega
    have HV : Hid (txtV s = ⟨#[]⟩ ∧ txtR s = numT s ∧ (f || txtF s) = true) := hide (by unfold txtV txtR txtF; rw [if_pos hlt, if_pos hlt]; simp [hlt])
    clear h
    generalize (f || decide ((rv s).2 = 0)) = g at *
    generalize (rv s).1 = n at *
    generalize (rv s).2 = k at *
    generalize numT s = s1 at *
    go_enter Tryz.func105, Tryz.ntmps105
    go_wp2_with fail
    refine HN.out.mono ?_
    rintro e w1 ⟨rfl, h1⟩
    obtain ⟨c0, c1⟩ := h1.cells
    have f0 := h1.free 0
    have f1 := h1.free 1
    have HA := hide h1
    clear h1 HN
    go_wp2
    go_ret
    obtain ⟨e1, e2, e3⟩ := HV.out
    rw [e1, e2, e3]
    exact ⟨rfl, HA.out.fail true⟩
  · have t1 : decide (((numT s).size : Int) < ((rv s).1 : Int)) = false := by simp; omega
    have hle : (rv s).1 ≤ (numT s).size := by omega
    have HV : Hid (txtV s = (numT s).extract 0 (rv s).1 ∧ txtR s = (numT s).extract (rv s).1 (numT s).size ∧ (f || txtF s) = (f || decide ((rv s).2 = 0))) := hide (by unfold txtV txtR txtF; rw [if_neg hlt, if_neg hlt]; simp [hlt])
    clear h
    generalize (f || decide ((rv s).2 = 0)) = g at *
    generalize (rv s).1 = n at *
    generalize (rv s).2 = k at *
    generalize numT s = s1 at *
    go_enter Tryz.func105, Tryz.ntmps105
    go_wp2_with fail
    refine HN.out.mono ?_
    rintro e w1 ⟨rfl, h1⟩
    obtain ⟨c0, c1⟩ := h1.cells
    have f0 := h1.free 0
    have f1 := h1.free 1
    have HA := hide h1
    clear h1 HN
    go_wp2
    go_ret
    obtain ⟨e1, e2, e3⟩ := HV.out
    rw [e1, e2, e3]
    exact ⟨rfl, HA.out.rest _⟩

set_option maxRecDepth 100000 in
set_option maxHeartbeats 1000000 in
theorem tkSum_any (w W : World) (B : Nat) (s : ByteArray) (f : Bool) (h : TkAt w B s f W) (hs : s.size ≤ 1048576) :
    Calls Tryz.prog 33 #[.pointer (some ⟨B, 0, none⟩)] W fun e w' => e = .returned (.int .i64 (sumV s : Nat)) ∧ TkAt w B (sumR s) (f || sumF s) w' := by
  obtain ⟨c0, c1⟩ := h.cells
  have f0 := h.free 0
  have f1 := h.free 1
  have HA := hide h
  have HR := hide (implRF4_any s hs)
  clear h
  by_cases h4 : 4 ≤ s.size
  · have hF : sumF s = false := decide_eq_false (by omega)
    have HV : Hid (sumR s = s.extract 4 s.size) := hide (by unfold sumR; rw [if_pos h4])
    rw [hF] at HR ⊢
    rw [Bool.or_false]
    generalize sumV s = n at *
    clear hF
    go_enter Tryz.func33, Tryz.ntmps33
    go_wp2_with (go_at_call 69; refine (HR.out _).mono ?_; rintro e w1 ⟨rfl, rfl⟩)
    go_ret
    rw [HV.out]
    exact ⟨rfl, HA.out.rest _⟩
  · have hF : sumF s = true := decide_eq_true (by omega)
    have HV : Hid (sumR s = s ∧ sumV s = 0) := hide (by unfold sumR sumV; rw [if_neg h4, if_neg h4]; exact ⟨rfl, rfl⟩)
    rw [hF] at HR ⊢
    rw [Bool.or_true]
    generalize sumV s = n at *
    clear hF
    go_enter Tryz.func33, Tryz.ntmps33
    go_wp2_with (go_at_call 69; refine (HR.out _).mono ?_; rintro e w1 ⟨rfl, rfl⟩)
    go_ret
    obtain ⟨e1, e2⟩ := HV.out
    rw [e1, e2]
    exact ⟨rfl, HA.out.fail true⟩

end Go.Proofs.YtimpokbcfjgdaaaGreatDoor
namespace Go.Proofs.YtimpokbcfjgdaaaGreatDoor
open Go.RowKit
open Plain

set_option maxRecDepth 100000 in
set_option maxHeartbeats 1000000 in
theorem takeBody_1 (w W : World) (B : Nat) (s : ByteArray) (f : Bool) (h : TkAt w B s f W) (hs : s.size ≤ 1048576) :
    Calls Tryz.prog 128 #[.pointer (some ⟨B, 0, none⟩), .int .i64 1] W fun e w' => e = .returned (.iface 194 (.agg #[.string (txtV s), .string (txtV (txtR s))])) ∧ TkAt w B (txtR (txtR s)) (f || txtF s || txtF (txtR s)) w' := by
  have HA := hide h
  clear h
  go_enter Tryz.func128, Tryz.ntmps128
  go_wp2_with fail
  refine (tkText_any w W B s f HA.out hs).mono ?_
  rintro e w1 ⟨rfl, h1⟩
  have H1 := hide h1
  clear h1 HA
  go_wp2_with fail
  refine (tkText_any w w1 B (txtR s) (f || txtF s) H1.out (by have := txtR_size s; omega)).mono ?_
  rintro e w2 ⟨rfl, h2⟩
  have H2 := hide h2
  clear h2 H1
  go_wp2
  go_ret
  exact ⟨rfl, H2.out⟩

set_option maxRecDepth 100000 in
set_option maxHeartbeats 1000000 in
theorem takeBody_4 (w W : World) (B : Nat) (s : ByteArray) (f : Bool) (h : TkAt w B s f W) (hs : s.size ≤ 1048576) :
    Calls Tryz.prog 128 #[.pointer (some ⟨B, 0, none⟩), .int .i64 4] W fun e w' => e = .returned (.iface 199 (.agg #[.string (txtV s), .string (txtV (txtR s))])) ∧ TkAt w B (txtR (txtR s)) (f || txtF s || txtF (txtR s)) w' := by
  have HA := hide h
  clear h
  go_enter Tryz.func128, Tryz.ntmps128
  go_wp2_with fail
  refine (tkText_any w W B s f HA.out hs).mono ?_
  rintro e w1 ⟨rfl, h1⟩
  have H1 := hide h1
  clear h1 HA
  go_wp2_with fail
  refine (tkText_any w w1 B (txtR s) (f || txtF s) H1.out (by have := txtR_size s; omega)).mono ?_
  rintro e w2 ⟨rfl, h2⟩
  have H2 := hide h2
  clear h2 H1
  go_wp2
  go_ret
  exact ⟨rfl, H2.out⟩

set_option maxRecDepth 100000 in
set_option maxHeartbeats 1000000 in
theorem takeBody_3 (w W : World) (B : Nat) (s : ByteArray) (f : Bool) (h : TkAt w B s f W) (hs : s.size ≤ 1048576) :
    Calls Tryz.prog 128 #[.pointer (some ⟨B, 0, none⟩), .int .i64 3] W fun e w' => e = .returned (.iface 198 (.agg #[.int .i64 ((rv s).1 : Nat), .int .i64 (sumV (numT s) : Nat)])) ∧ TkAt w B (sumR (numT s)) (f || decide ((rv s).2 = 0) || sumF (numT s)) w' := by
  have HA := hide h
  clear h
  go_enter Tryz.func128, Tryz.ntmps128
  go_wp2_with fail
  refine (tkNum_any w W B s f HA.out hs).mono ?_
  rintro e w1 ⟨rfl, h1⟩
  have H1 := hide h1
  clear h1 HA
  go_wp2_with fail
  refine (tkSum_any w w1 B (numT s) (f || decide ((rv s).2 = 0)) H1.out (by have := numT_size s; omega)).mono ?_
  rintro e w2 ⟨rfl, h2⟩
  have H2 := hide h2
  clear h2 H1
  go_wp2
  go_ret
  exact ⟨rfl, H2.out⟩

set_option maxRecDepth 100000 in
set_option maxHeartbeats 1000000 in
theorem takeBody_5 (w W : World) (B : Nat) (s : ByteArray) (f : Bool) (h : TkAt w B s f W) (hs : s.size ≤ 1048576) :
    Calls Tryz.prog 128 #[.pointer (some ⟨B, 0, none⟩), .int .i64 5] W fun e w' => e = .returned (.iface 200 (.agg #[.int .i64 ((rv s).1 : Nat), .int .i64 (sumV (numT s) : Nat)])) ∧ TkAt w B (sumR (numT s)) (f || decide ((rv s).2 = 0) || sumF (numT s)) w' := by
  have HA := hide h
  clear h
  go_enter Tryz.func128, Tryz.ntmps128
  go_wp2_with fail
  refine (tkNum_any w W B s f HA.out hs).mono ?_
  rintro e w1 ⟨rfl, h1⟩
  have H1 := hide h1
  clear h1 HA
  go_wp2_with fail
  refine (tkSum_any w w1 B (numT s) (f || decide ((rv s).2 = 0)) H1.out (by have := numT_size s; omega)).mono ?_
  rintro e w2 ⟨rfl, h2⟩
  have H2 := hide h2
  clear h2 H1
  go_wp2
  go_ret
  exact ⟨rfl, H2.out⟩

set_option maxRecDepth 100000 in
set_option maxHeartbeats 1000000 in
theorem takeBody_2 (w W : World) (B : Nat) (s : ByteArray) (f : Bool) (h : TkAt w B s f W) (hs : s.size ≤ 1048576) :
    Calls Tryz.prog 128 #[.pointer (some ⟨B, 0, none⟩), .int .i64 2] W fun e w' => e = .returned (.iface 196 (.agg #[.string (txtV s)])) ∧ TkAt w B (txtR s) (f || txtF s) w' := by
  have HA := hide h
  clear h
  go_enter Tryz.func128, Tryz.ntmps128
  go_wp2_with fail
  refine (tkText_any w W B s f HA.out hs).mono ?_
  rintro e w1 ⟨rfl, h1⟩
  have H1 := hide h1
  clear h1 HA
  go_wp2
  go_ret
  exact ⟨rfl, H1.out⟩

set_option maxRecDepth 100000 in
set_option maxHeartbeats 1000000 in
theorem takeBody_none (k : Int) (w W : World) (B : Nat) (s : ByteArray) (f : Bool) (h : TkAt w B s f W) (k1 : k ≠ 1) (k2 : k ≠ 2) (k3 : k ≠ 3) (k4 : k ≠ 4) (k5 : k ≠ 5) :
    Calls Tryz.prog 128 #[.pointer (some ⟨B, 0, none⟩), .int .i64 k] W fun e w' => e = .returned .nilIface ∧ TkAt w B s f w' := by
  have HA := hide h
  have n1 : (k == 1) = false := by simpa using k1
  have n2 : (k == 2) = false := by simpa using k2
  have n3 : (k == 3) = false := by simpa using k3
  have n4 : (k == 4) = false := by simpa using k4
  have n5 : (k == 5) = false := by simpa using k5
  clear k1 k2 k3 k4 k5 h
  go_enter Tryz.func128, Tryz.ntmps128
  go_wp2
  go_ret
  exact ⟨rfl, HA.out⟩

end Go.Proofs.YtimpokbcfjgdaaaGreatDoor
namespace Go.Proofs.YtimpokbcfjgdaaaGreatDoor
open Go.RowKit
open Plain
attribute [local go_sem] body_eql body_eql0

/-- What is known once kind and batch are taken. -/
def TakesV (s : ByteArray) (V : Value) (s' : ByteArray) (f' : Bool) : Prop :=
  ∀ (w W : World) (B : Nat), TkAt w B (numT (numT s)) ((false || decide ((rv s).2 = 0)) || decide ((rv (numT s)).2 = 0)) W →
    Calls Tryz.prog 128 #[.pointer (some ⟨B, 0, none⟩), .int .i64 ((rv s).1 : Nat)] W fun e w' => e = .returned V ∧ TkAt w B s' f' w'
theorem not_empty {a : ByteArray} (h : ¬ a.size = 0) : a.toList.isEmpty = false := by
  have := nil_ne h
  cases e : a.toList with
  | nil => exact absurd e this
  | cons x r => rfl

/-- The world in which the taker is made: the result's block is there. -/
theorem tk_start (w W0 : World) (s : ByteArray) (hW : W0 = w.alloc (.cells #[.int .i64 0, .int .i64 0, .string ⟨#[]⟩, .string ⟨#[]⟩, .int .i64 0, .int .i64 0] 41)) : TkAt W0 (w.heap.size + 1) s false (W0.alloc (.cells #[.string s, .bool false] 78)) := by
  have e : W0.heap.size = w.heap.size + 1 := by rw [hW]; simp
  refine ⟨?_, by omega, al1 _ _⟩
  rw [← e]
  exact heap_alloc_new W0 _
/-- What is known of the result's block as long as nothing was written into it. -/
theorem res_cells (w W0 W : World) (hW : W0 = w.alloc (.cells #[.int .i64 0, .int .i64 0, .string ⟨#[]⟩, .string ⟨#[]⟩, .int .i64 0, .int .i64 0] 41)) (hb : Below W0.heap.size W0 W) :
    Below w.heap.size w W ∧ (∀ j, W.frozen? ⟨w.heap.size, j, none⟩ = false) ∧ W.heap[w.heap.size]? = some (.cells #[.int .i64 0, .int .i64 0, .string ⟨#[]⟩, .string ⟨#[]⟩, .int .i64 0, .int .i64 0] 41 (0, 0)) := by
  have e : W0.heap.size = w.heap.size + 1 := by rw [hW]; simp
  have hr : W.heap[w.heap.size]? = some (.cells #[.int .i64 0, .int .i64 0, .string ⟨#[]⟩, .string ⟨#[]⟩, .int .i64 0, .int .i64 0] 41 (0, 0)) := by
    rw [hb.block _ (by omega), hW]
    exact heap_alloc_new w _
  have h0 : Below w.heap.size w W0 := by rw [hW]; exact al1 w _
  exact ⟨h0.trans (hb.mono h0.size), fun j => by simp [World.frozen?, hr], hr⟩

set_option maxRecDepth 100000 in
set_option maxHeartbeats 4000000 in
theorem read_nil (s : ByteArray) (hs : s.size ≤ 1048576) (s' : ByteArray) (f' : Bool) (hT : TakesV s .nilIface s' f') :
    Ans 119 #[.string s] (.tuple #[.agg #[.int .i64 0, .int .i64 0, .string ⟨#[]⟩, .string ⟨#[]⟩, .int .i64 0, .int .i64 0], .bool false]) := by
  intro w
  obtain ⟨W0, hW⟩ : ∃ W0, W0 = w.alloc (.cells #[.int .i64 0, .int .i64 0, .string ⟨#[]⟩, .string ⟨#[]⟩, .int .i64 0, .int .i64 0] 41) := ⟨_, rfl⟩
  have HA := hide (tk_start w W0 s hW)
  have HRC := hide (fun W h => res_cells w W0 W hW h)
  have HT := hide hT
  clear hT
  go_enter Tryz.func119, Tryz.ntmps119
  go_wp2_with fail
  rw [← hW]
  clear hW
  refine (tkNum_any W0 _ (w.heap.size + 1) s false HA.out hs).mono ?_
  rintro e w1 ⟨rfl, h1⟩
  have H1 := hide h1
  clear h1 HA
  go_wp2_with fail
  refine (tkNum_any W0 _ (w.heap.size + 1) (numT s) _ H1.out (by have := numT_size s; omega)).mono ?_
  rintro e w2 ⟨rfl, h2⟩
  have H2 := hide h2
  clear h2 H1
  go_wp2_with fail
  refine (HT.out W0 w2 (w.heap.size + 1) H2.out).mono ?_
  rintro e w3 ⟨rfl, h3⟩
  obtain ⟨c0, c1⟩ := h3.cells
  have H3 := hide h3
  have hr3 := HRC.out w3 h3.bel
  obtain ⟨hb3, hf3, hrow⟩ := hr3
  have HB3 := hide hb3
  have g0 := hf3 0
  have g1 := hf3 1
  have g2 := hf3 2
  have g3 := hf3 3
  have g4 := hf3 4
  have g5 := hf3 5
  have y0 : w3.cell? ⟨w.heap.size, 0, none⟩ = _ := cell_of_row w3 _ 0 _ _ _ hrow
  have y1 : w3.cell? ⟨w.heap.size, 1, none⟩ = _ := cell_of_row w3 _ 1 _ _ _ hrow
  have y2 : w3.cell? ⟨w.heap.size, 2, none⟩ = _ := cell_of_row w3 _ 2 _ _ _ hrow
  have y3 : w3.cell? ⟨w.heap.size, 3, none⟩ = _ := cell_of_row w3 _ 3 _ _ _ hrow
  have y4 : w3.cell? ⟨w.heap.size, 4, none⟩ = _ := cell_of_row w3 _ 4 _ _ _ hrow
  have y5 : w3.cell? ⟨w.heap.size, 5, none⟩ = _ := cell_of_row w3 _ 5 _ _ _ hrow
  clear h3 hb3 hf3 hrow H2 HT
  go_wp2
  refine bodyPost_ret (v := .tuple #[.agg #[.int .i64 0, .int .i64 0, .string ⟨#[]⟩, .string ⟨#[]⟩, .int .i64 0, .int .i64 0], .bool false]) (by simp [results, Tryz.results119, go_sem, *]) rfl ⟨rfl, ?_⟩
  iterate 6 (refine Below.setCell ?_ (by exact Nat.le_refl _) _)
  exact HB3.out

set_option maxRecDepth 100000 in
set_option maxHeartbeats 4000000 in
theorem read_failed (s : ByteArray) (hs : s.size ≤ 1048576) (s' : ByteArray) (t : TypeId) (v : Value) (hT : TakesV s (.iface t v) s' true) :
    Ans 119 #[.string s] (.tuple #[.agg #[.int .i64 0, .int .i64 0, .string ⟨#[]⟩, .string ⟨#[]⟩, .int .i64 0, .int .i64 0], .bool false]) := by
  intro w
  obtain ⟨W0, hW⟩ : ∃ W0, W0 = w.alloc (.cells #[.int .i64 0, .int .i64 0, .string ⟨#[]⟩, .string ⟨#[]⟩, .int .i64 0, .int .i64 0] 41) := ⟨_, rfl⟩
  have HA := hide (tk_start w W0 s hW)
  have HRC := hide (fun W h => res_cells w W0 W hW h)
  have HT := hide hT
  clear hT
  go_enter Tryz.func119, Tryz.ntmps119
  go_wp2_with fail
  rw [← hW]
  clear hW
  refine (tkNum_any W0 _ (w.heap.size + 1) s false HA.out hs).mono ?_
  rintro e w1 ⟨rfl, h1⟩
  have H1 := hide h1
  clear h1 HA
  go_wp2_with fail
  refine (tkNum_any W0 _ (w.heap.size + 1) (numT s) _ H1.out (by have := numT_size s; omega)).mono ?_
  rintro e w2 ⟨rfl, h2⟩
  have H2 := hide h2
  clear h2 H1
  go_wp2_with fail
  refine (HT.out W0 w2 (w.heap.size + 1) H2.out).mono ?_
  rintro e w3 ⟨rfl, h3⟩
  obtain ⟨c0, c1⟩ := h3.cells
  have H3 := hide h3
  have hr3 := HRC.out w3 h3.bel
  obtain ⟨hb3, hf3, hrow⟩ := hr3
  have HB3 := hide hb3
  have g0 := hf3 0
  have g1 := hf3 1
  have g2 := hf3 2
  have g3 := hf3 3
  have g4 := hf3 4
  have g5 := hf3 5
  have y0 : w3.cell? ⟨w.heap.size, 0, none⟩ = _ := cell_of_row w3 _ 0 _ _ _ hrow
  have y1 : w3.cell? ⟨w.heap.size, 1, none⟩ = _ := cell_of_row w3 _ 1 _ _ _ hrow
  have y2 : w3.cell? ⟨w.heap.size, 2, none⟩ = _ := cell_of_row w3 _ 2 _ _ _ hrow
  have y3 : w3.cell? ⟨w.heap.size, 3, none⟩ = _ := cell_of_row w3 _ 3 _ _ _ hrow
  have y4 : w3.cell? ⟨w.heap.size, 4, none⟩ = _ := cell_of_row w3 _ 4 _ _ _ hrow
  have y5 : w3.cell? ⟨w.heap.size, 5, none⟩ = _ := cell_of_row w3 _ 5 _ _ _ hrow
  clear h3 hb3 hf3 hrow H2 HT
  go_wp2
  refine bodyPost_ret (v := .tuple #[.agg #[.int .i64 0, .int .i64 0, .string ⟨#[]⟩, .string ⟨#[]⟩, .int .i64 0, .int .i64 0], .bool false]) (by simp [results, Tryz.results119, go_sem, *]) rfl ⟨rfl, ?_⟩
  iterate 6 (refine Below.setCell ?_ (by exact Nat.le_refl _) _)
  exact HB3.out

set_option maxRecDepth 100000 in
set_option maxHeartbeats 4000000 in
theorem read_left (s : ByteArray) (hs : s.size ≤ 1048576) (s' : ByteArray) (t : TypeId) (v : Value) (hT : TakesV s (.iface t v) s' false) (h0 : ¬ s'.size = 0) :
    Ans 119 #[.string s] (.tuple #[.agg #[.int .i64 0, .int .i64 0, .string ⟨#[]⟩, .string ⟨#[]⟩, .int .i64 0, .int .i64 0], .bool false]) := by
  intro w
  obtain ⟨W0, hW⟩ : ∃ W0, W0 = w.alloc (.cells #[.int .i64 0, .int .i64 0, .string ⟨#[]⟩, .string ⟨#[]⟩, .int .i64 0, .int .i64 0] 41) := ⟨_, rfl⟩
  have HA := hide (tk_start w W0 s hW)
  have HRC := hide (fun W h => res_cells w W0 W hW h)
  have HT := hide hT
  clear hT
  have t0 := not_empty h0
  clear h0
  go_enter Tryz.func119, Tryz.ntmps119
  go_wp2_with fail
  rw [← hW]
  clear hW
  refine (tkNum_any W0 _ (w.heap.size + 1) s false HA.out hs).mono ?_
  rintro e w1 ⟨rfl, h1⟩
  have H1 := hide h1
  clear h1 HA
  go_wp2_with fail
  refine (tkNum_any W0 _ (w.heap.size + 1) (numT s) _ H1.out (by have := numT_size s; omega)).mono ?_
  rintro e w2 ⟨rfl, h2⟩
  have H2 := hide h2
  clear h2 H1
  go_wp2_with fail
  refine (HT.out W0 w2 (w.heap.size + 1) H2.out).mono ?_
  rintro e w3 ⟨rfl, h3⟩
  obtain ⟨c0, c1⟩ := h3.cells
  have H3 := hide h3
  have hr3 := HRC.out w3 h3.bel
  obtain ⟨hb3, hf3, hrow⟩ := hr3
  have HB3 := hide hb3
  have g0 := hf3 0
  have g1 := hf3 1
  have g2 := hf3 2
  have g3 := hf3 3
  have g4 := hf3 4
  have g5 := hf3 5
  have y0 : w3.cell? ⟨w.heap.size, 0, none⟩ = _ := cell_of_row w3 _ 0 _ _ _ hrow
  have y1 : w3.cell? ⟨w.heap.size, 1, none⟩ = _ := cell_of_row w3 _ 1 _ _ _ hrow
  have y2 : w3.cell? ⟨w.heap.size, 2, none⟩ = _ := cell_of_row w3 _ 2 _ _ _ hrow
  have y3 : w3.cell? ⟨w.heap.size, 3, none⟩ = _ := cell_of_row w3 _ 3 _ _ _ hrow
  have y4 : w3.cell? ⟨w.heap.size, 4, none⟩ = _ := cell_of_row w3 _ 4 _ _ _ hrow
  have y5 : w3.cell? ⟨w.heap.size, 5, none⟩ = _ := cell_of_row w3 _ 5 _ _ _ hrow
  clear h3 hb3 hf3 hrow H2 HT
  go_wp2
  refine bodyPost_ret (v := .tuple #[.agg #[.int .i64 0, .int .i64 0, .string ⟨#[]⟩, .string ⟨#[]⟩, .int .i64 0, .int .i64 0], .bool false]) (by simp [results, Tryz.results119, go_sem, *]) rfl ⟨rfl, ?_⟩
  iterate 6 (refine Below.setCell ?_ (by exact Nat.le_refl _) _)
  exact HB3.out

set_option maxRecDepth 100000 in
set_option maxHeartbeats 4000000 in
theorem read_rec (s : ByteArray) (hs : s.size ≤ 1048576) (s' : ByteArray) (t : TypeId) (v : Value) (k b : Int) (key val : ByteArray) (c x : Int) (hT : TakesV s (.iface t v) s' false) (h0 : s'.size = 0) (hR : Ans 129 #[.iface t v, .int .i64 ((rv (numT s)).1 : Nat)] (.agg #[.int .i64 k, .int .i64 b, .string key, .string val, .int .i64 c, .int .i64 x])) (hO : Ans 130 #[.agg #[.int .i64 k, .int .i64 b, .string key, .string val, .int .i64 c, .int .i64 x]] (.bool true)) :
    Ans 119 #[.string s] (.tuple #[.agg #[.int .i64 k, .int .i64 b, .string key, .string val, .int .i64 c, .int .i64 x], .bool true]) := by
  intro w
  obtain ⟨W0, hW⟩ : ∃ W0, W0 = w.alloc (.cells #[.int .i64 0, .int .i64 0, .string ⟨#[]⟩, .string ⟨#[]⟩, .int .i64 0, .int .i64 0] 41) := ⟨_, rfl⟩
  have HA := hide (tk_start w W0 s hW)
  have HRC := hide (fun W h => res_cells w W0 W hW h)
  have HT := hide hT
  clear hT
  have t0 := nil_eq h0
  have HR := hide hR
  have HO := hide hO
  clear h0 hR hO
  go_enter Tryz.func119, Tryz.ntmps119
  go_wp2_with fail
  rw [← hW]
  clear hW
  refine (tkNum_any W0 _ (w.heap.size + 1) s false HA.out hs).mono ?_
  rintro e w1 ⟨rfl, h1⟩
  have H1 := hide h1
  clear h1 HA
  go_wp2_with fail
  refine (tkNum_any W0 _ (w.heap.size + 1) (numT s) _ H1.out (by have := numT_size s; omega)).mono ?_
  rintro e w2 ⟨rfl, h2⟩
  have H2 := hide h2
  clear h2 H1
  go_wp2_with fail
  refine (HT.out W0 w2 (w.heap.size + 1) H2.out).mono ?_
  rintro e w3 ⟨rfl, h3⟩
  obtain ⟨c0, c1⟩ := h3.cells
  have H3 := hide h3
  have hr3 := HRC.out w3 h3.bel
  obtain ⟨hb3, hf3, hrow⟩ := hr3
  have HB3 := hide hb3
  have g0 := hf3 0
  have g1 := hf3 1
  have g2 := hf3 2
  have g3 := hf3 3
  have g4 := hf3 4
  have g5 := hf3 5
  have y0 : w3.cell? ⟨w.heap.size, 0, none⟩ = _ := cell_of_row w3 _ 0 _ _ _ hrow
  have y1 : w3.cell? ⟨w.heap.size, 1, none⟩ = _ := cell_of_row w3 _ 1 _ _ _ hrow
  have y2 : w3.cell? ⟨w.heap.size, 2, none⟩ = _ := cell_of_row w3 _ 2 _ _ _ hrow
  have y3 : w3.cell? ⟨w.heap.size, 3, none⟩ = _ := cell_of_row w3 _ 3 _ _ _ hrow
  have y4 : w3.cell? ⟨w.heap.size, 4, none⟩ = _ := cell_of_row w3 _ 4 _ _ _ hrow
  have y5 : w3.cell? ⟨w.heap.size, 5, none⟩ = _ := cell_of_row w3 _ 5 _ _ _ hrow
  clear h3 hb3 hf3 hrow H2 HT
  go_wp2_with fail
  clear y0 y1 y2 y3 y4 y5 g0 g1 g2 g3 g4 g5 c0 c1
  refine (HR.out _).mono ?_
  rintro e w4 ⟨rfl, h4⟩
  have HW4 := hide (H3.out.later h4).bel
  clear h4 H3 HB3
  go_wp2_with fail
  refine (HO.out _).mono ?_
  rintro e w5 ⟨rfl, h5⟩
  have hk5 := ((RecAt.new w4 k b key val c x).later h5)
  have h45 := hk5.bel
  obtain ⟨x0, x1, x2, x3, x4, x5, -⟩ := hk5.cells
  have hb5 := HRC.out w5 (HW4.out.trans (h45.mono HW4.out.size))
  obtain ⟨hb3, hf3, hrow⟩ := hb5
  have HB5 := hide hb3
  have g0 := hf3 0
  have g1 := hf3 1
  have g2 := hf3 2
  have g3 := hf3 3
  have g4 := hf3 4
  have g5 := hf3 5
  have y0 : w5.cell? ⟨w.heap.size, 0, none⟩ = _ := cell_of_row w5 _ 0 _ _ _ hrow
  have y1 : w5.cell? ⟨w.heap.size, 1, none⟩ = _ := cell_of_row w5 _ 1 _ _ _ hrow
  have y2 : w5.cell? ⟨w.heap.size, 2, none⟩ = _ := cell_of_row w5 _ 2 _ _ _ hrow
  have y3 : w5.cell? ⟨w.heap.size, 3, none⟩ = _ := cell_of_row w5 _ 3 _ _ _ hrow
  have y4 : w5.cell? ⟨w.heap.size, 4, none⟩ = _ := cell_of_row w5 _ 4 _ _ _ hrow
  have y5 : w5.cell? ⟨w.heap.size, 5, none⟩ = _ := cell_of_row w5 _ 5 _ _ _ hrow
  clear h5 hk5 h45 hb3 hf3 hrow HRC HW4 HR HO
  go_wp2
  refine bodyPost_ret (v := .tuple #[.agg #[.int .i64 k, .int .i64 b, .string key, .string val, .int .i64 c, .int .i64 x], .bool true]) (by simp [results, Tryz.results119, go_sem, *]) rfl ⟨rfl, ?_⟩
  iterate 6 (refine Below.setCell ?_ (by exact Nat.le_refl _) _)
  exact HB5.out

set_option maxRecDepth 100000 in
set_option maxHeartbeats 4000000 in
theorem read_not (s : ByteArray) (hs : s.size ≤ 1048576) (s' : ByteArray) (t : TypeId) (v : Value) (k b : Int) (key val : ByteArray) (c x : Int) (hT : TakesV s (.iface t v) s' false) (h0 : s'.size = 0) (hR : Ans 129 #[.iface t v, .int .i64 ((rv (numT s)).1 : Nat)] (.agg #[.int .i64 k, .int .i64 b, .string key, .string val, .int .i64 c, .int .i64 x])) (hO : Ans 130 #[.agg #[.int .i64 k, .int .i64 b, .string key, .string val, .int .i64 c, .int .i64 x]] (.bool false)) :
    Ans 119 #[.string s] (.tuple #[.agg #[.int .i64 0, .int .i64 0, .string ⟨#[]⟩, .string ⟨#[]⟩, .int .i64 0, .int .i64 0], .bool false]) := by
  intro w
  obtain ⟨W0, hW⟩ : ∃ W0, W0 = w.alloc (.cells #[.int .i64 0, .int .i64 0, .string ⟨#[]⟩, .string ⟨#[]⟩, .int .i64 0, .int .i64 0] 41) := ⟨_, rfl⟩
  have HA := hide (tk_start w W0 s hW)
  have HRC := hide (fun W h => res_cells w W0 W hW h)
  have HT := hide hT
  clear hT
  have t0 := nil_eq h0
  have HR := hide hR
  have HO := hide hO
  clear h0 hR hO
  go_enter Tryz.func119, Tryz.ntmps119
  go_wp2_with fail
  rw [← hW]
  clear hW
  refine (tkNum_any W0 _ (w.heap.size + 1) s false HA.out hs).mono ?_
  rintro e w1 ⟨rfl, h1⟩
  have H1 := hide h1
  clear h1 HA
  go_wp2_with fail
  refine (tkNum_any W0 _ (w.heap.size + 1) (numT s) _ H1.out (by have := numT_size s; omega)).mono ?_
  rintro e w2 ⟨rfl, h2⟩
  have H2 := hide h2
  clear h2 H1
  go_wp2_with fail
  refine (HT.out W0 w2 (w.heap.size + 1) H2.out).mono ?_
  rintro e w3 ⟨rfl, h3⟩
  obtain ⟨c0, c1⟩ := h3.cells
  have H3 := hide h3
  have hr3 := HRC.out w3 h3.bel
  obtain ⟨hb3, hf3, hrow⟩ := hr3
  have HB3 := hide hb3
  have g0 := hf3 0
  have g1 := hf3 1
  have g2 := hf3 2
  have g3 := hf3 3
  have g4 := hf3 4
  have g5 := hf3 5
  have y0 : w3.cell? ⟨w.heap.size, 0, none⟩ = _ := cell_of_row w3 _ 0 _ _ _ hrow
  have y1 : w3.cell? ⟨w.heap.size, 1, none⟩ = _ := cell_of_row w3 _ 1 _ _ _ hrow
  have y2 : w3.cell? ⟨w.heap.size, 2, none⟩ = _ := cell_of_row w3 _ 2 _ _ _ hrow
  have y3 : w3.cell? ⟨w.heap.size, 3, none⟩ = _ := cell_of_row w3 _ 3 _ _ _ hrow
  have y4 : w3.cell? ⟨w.heap.size, 4, none⟩ = _ := cell_of_row w3 _ 4 _ _ _ hrow
  have y5 : w3.cell? ⟨w.heap.size, 5, none⟩ = _ := cell_of_row w3 _ 5 _ _ _ hrow
  clear h3 hb3 hf3 hrow H2 HT
  go_wp2_with fail
  clear y0 y1 y2 y3 y4 y5 g0 g1 g2 g3 g4 g5 c0 c1
  refine (HR.out _).mono ?_
  rintro e w4 ⟨rfl, h4⟩
  have HW4 := hide (H3.out.later h4).bel
  clear h4 H3 HB3
  go_wp2_with fail
  refine (HO.out _).mono ?_
  rintro e w5 ⟨rfl, h5⟩
  have hk5 := ((RecAt.new w4 k b key val c x).later h5)
  have h45 := hk5.bel
  obtain ⟨x0, x1, x2, x3, x4, x5, -⟩ := hk5.cells
  have hb5 := HRC.out w5 (HW4.out.trans (h45.mono HW4.out.size))
  obtain ⟨hb3, hf3, hrow⟩ := hb5
  have HB5 := hide hb3
  have g0 := hf3 0
  have g1 := hf3 1
  have g2 := hf3 2
  have g3 := hf3 3
  have g4 := hf3 4
  have g5 := hf3 5
  have y0 : w5.cell? ⟨w.heap.size, 0, none⟩ = _ := cell_of_row w5 _ 0 _ _ _ hrow
  have y1 : w5.cell? ⟨w.heap.size, 1, none⟩ = _ := cell_of_row w5 _ 1 _ _ _ hrow
  have y2 : w5.cell? ⟨w.heap.size, 2, none⟩ = _ := cell_of_row w5 _ 2 _ _ _ hrow
  have y3 : w5.cell? ⟨w.heap.size, 3, none⟩ = _ := cell_of_row w5 _ 3 _ _ _ hrow
  have y4 : w5.cell? ⟨w.heap.size, 4, none⟩ = _ := cell_of_row w5 _ 4 _ _ _ hrow
  have y5 : w5.cell? ⟨w.heap.size, 5, none⟩ = _ := cell_of_row w5 _ 5 _ _ _ hrow
  clear h5 hk5 h45 hb3 hf3 hrow HRC HW4 HR HO
  go_wp2
  refine bodyPost_ret (v := .tuple #[.agg #[.int .i64 0, .int .i64 0, .string ⟨#[]⟩, .string ⟨#[]⟩, .int .i64 0, .int .i64 0], .bool false]) (by simp [results, Tryz.results119, go_sem, *]) rfl ⟨rfl, ?_⟩
  iterate 6 (refine Below.setCell ?_ (by exact Nat.le_refl _) _)
  exact HB5.out

end Go.Proofs.YtimpokbcfjgdaaaGreatDoor
namespace Go.Proofs.YtimpokbcfjgdaaaGreatDoor
open Go.RowKit
open Plain

/-- At this text f answers the record, or that there is none. -/
def ReadsR (f : FuncId) (s : ByteArray) : Prop :=
  ∃ r ok, RR s r ok ∧ Ans f #[.string s] (.tuple #[.agg #[.int .i64 r.kind, .int .i64 r.batch, .string r.key, .string r.val, .int .i64 r.cnt, .int .i64 r.sum], .bool ok])

theorem read_all (s : ByteArray) (hs : s.size ≤ 1048576) (t : TypeId) (v : Value) (s' : ByteArray) (F : Bool) (hT : TakesV s (.iface t v) s' F) (hC : Clean s ↔ F = false ∧ s'.size = 0)
    (hR : Ans 129 #[.iface t v, .int .i64 ((rv (numT s)).1 : Nat)] (.agg #[.int .i64 (parse s).kind, .int .i64 (parse s).batch, .string (parse s).key, .string (parse s).val, .int .i64 (parse s).cnt, .int .i64 (parse s).sum])) : ReadsR 119 s := by
  cases F with
  | true => exact ⟨zeroR, false, RR_unclean s (fun h => by have := (hC.1 h).1; cases this), read_failed s hs s' t v hT⟩
  | false =>
    by_cases h0 : s'.size = 0
    · have hc : Clean s := hC.2 ⟨rfl, h0⟩
      have hO := implRecOk_any (parse s)
      cases h : recOkB (parse s) with
      | true =>
        rw [h] at hO
        exact ⟨parse s, true, RR_yes s hc h, read_rec s hs s' t v _ _ _ _ _ _ hT h0 hR hO⟩
      | false =>
        rw [h] at hO
        exact ⟨zeroR, false, RR_wrong s h, read_not s hs s' t v _ _ _ _ _ _ hT h0 hR hO⟩
    · exact ⟨zeroR, false, RR_unclean s (fun h => h0 (hC.1 h).2), read_left s hs s' t v hT h0⟩

theorem implRead_any (s : ByteArray) (hs : s.size ≤ 1048576) : ReadsR 119 s := by
  have z1 : (numT (numT s)).size ≤ 1048576 := by rw [numT_size, numT_size]; omega
  by_cases k1 : (rv s).1 = 1
  · have e1 : (((rv s).1 : Nat) : Int) = 1 := by omega
    have hp : parse s = ⟨1, (rv (numT s)).1, txtV (numT (numT s)), txtV (txtR (numT (numT s))), 0, 0⟩ := by unfold parse; rw [if_pos (Or.inl k1), e1]
    refine read_all s hs _ _ _ _ (fun w W B h => by rw [e1]; exact takeBody_1 w W B _ _ h z1) ?_ ?_
    · unfold Clean
      rw [if_pos (Or.inl k1)]
      simp only [Bool.or_eq_false_iff, decide_eq_false_iff_not, ne_eq, and_assoc, true_and]
    · rw [hp]
      simp only
      exact fun W => recOf_1 ((rv (numT s)).1 : Nat) (txtV (numT (numT s))) (txtV (txtR (numT (numT s)))) W
  by_cases k4 : (rv s).1 = 4
  · have e1 : (((rv s).1 : Nat) : Int) = 4 := by omega
    have hp : parse s = ⟨4, (rv (numT s)).1, txtV (numT (numT s)), txtV (txtR (numT (numT s))), 0, 0⟩ := by unfold parse; rw [if_pos (Or.inr k4), e1]
    refine read_all s hs _ _ _ _ (fun w W B h => by rw [e1]; exact takeBody_4 w W B _ _ h z1) ?_ ?_
    · unfold Clean
      rw [if_pos (Or.inr k4)]
      simp only [Bool.or_eq_false_iff, decide_eq_false_iff_not, ne_eq, and_assoc, true_and]
    · rw [hp]
      simp only
      exact fun W => recOf_4 ((rv (numT s)).1 : Nat) (txtV (numT (numT s))) (txtV (txtR (numT (numT s)))) W
  have k14 : ¬ ((rv s).1 = 1 ∨ (rv s).1 = 4) := by omega
  by_cases k2 : (rv s).1 = 2
  · have e1 : (((rv s).1 : Nat) : Int) = 2 := by omega
    have hp : parse s = ⟨2, (rv (numT s)).1, txtV (numT (numT s)), ⟨#[]⟩, 0, 0⟩ := by unfold parse; rw [if_neg k14, if_pos k2, e1]
    refine read_all s hs _ _ _ _ (fun w W B h => by rw [e1]; exact takeBody_2 w W B _ _ h z1) ?_ ?_
    · unfold Clean
      rw [if_neg k14, if_pos k2]
      simp only [Bool.or_eq_false_iff, decide_eq_false_iff_not, ne_eq, and_assoc, true_and]
    · rw [hp]
      simp only
      exact fun W => recOf_2 ((rv (numT s)).1 : Nat) (txtV (numT (numT s))) W
  by_cases k3 : (rv s).1 = 3
  · have e1 : (((rv s).1 : Nat) : Int) = 3 := by omega
    have hp : parse s = ⟨3, (rv (numT s)).1, ⟨#[]⟩, ⟨#[]⟩, (rv (numT (numT s))).1, sumV (numT (numT (numT s)))⟩ := by unfold parse; rw [if_neg k14, if_neg k2, e1]
    refine read_all s hs _ _ _ _ (fun w W B h => by rw [e1]; exact takeBody_3 w W B _ _ h z1) ?_ ?_
    · unfold Clean
      rw [if_neg k14, if_neg k2]
      simp only [Bool.or_eq_false_iff, decide_eq_false_iff_not, ne_eq, and_assoc, true_and]
    · rw [hp]
      simp only
      exact fun W => recOf_3 ((rv (numT s)).1 : Nat) ((rv (numT (numT s))).1 : Nat) (sumV (numT (numT (numT s))) : Nat) W
  by_cases k5 : (rv s).1 = 5
  · have e1 : (((rv s).1 : Nat) : Int) = 5 := by omega
    have hp : parse s = ⟨5, (rv (numT s)).1, ⟨#[]⟩, ⟨#[]⟩, (rv (numT (numT s))).1, sumV (numT (numT (numT s)))⟩ := by unfold parse; rw [if_neg k14, if_neg k2, e1]
    refine read_all s hs _ _ _ _ (fun w W B h => by rw [e1]; exact takeBody_5 w W B _ _ h z1) ?_ ?_
    · unfold Clean
      rw [if_neg k14, if_neg k2]
      simp only [Bool.or_eq_false_iff, decide_eq_false_iff_not, ne_eq, and_assoc, true_and]
    · rw [hp]
      simp only
      exact fun W => recOf_5 ((rv (numT s)).1 : Nat) ((rv (numT (numT s))).1 : Nat) (sumV (numT (numT (numT s))) : Nat) W
  refine ⟨zeroR, false, RR_wrong s ?_, read_nil s hs _ _ (fun w W B h => takeBody_none _ w W B _ _ h (by omega) (by omega) (by omega) (by omega) (by omega))⟩
  have hp : parse s = ⟨((rv s).1 : Nat), (rv (numT s)).1, ⟨#[]⟩, ⟨#[]⟩, (rv (numT (numT s))).1, sumV (numT (numT (numT s)))⟩ := by unfold parse; rw [if_neg k14, if_neg k2]
  rw [hp]
  unfold recOkB
  simp only
  exact okN_no (by unfold RecOkP; omega)

end Go.Proofs.YtimpokbcfjgdaaaGreatDoor
namespace Go.Proofs.YtimpokbcfjgdaaaGreatDoor
open Go.RowKit
open Plain

def t5V (s : ByteArray) : ByteArray := if txtF s = true then ⟨#[]⟩ else s.extract (rv s).2 ((rv s).2 + (rv s).1)
def t5R (s : ByteArray) : ByteArray := if txtF s = true then ⟨#[]⟩ else s.extract ((rv s).2 + (rv s).1) s.size
theorem cut_cut (s : ByteArray) (a b : Nat) (h : a ≤ s.size) : (s.extract a s.size).extract b (s.extract a s.size).size = s.extract (a + b) s.size := by
  apply bl_inj
  rw [bl_extract, bl_extract, bl_extract, ba_len s a s.size h (Nat.le_refl _)]
  rw [List.take_of_length_le (by rw [List.length_drop, List.length_take, bl_length]; omega), List.drop_drop]
theorem cut_take (s : ByteArray) (a n : Nat) : (s.extract a s.size).extract 0 n = s.extract a (a + n) := by
  apply bl_inj
  have e : (bl s).take s.size = bl s := List.take_of_length_le (by rw [bl_length]; exact Nat.le_refl _)
  rw [bl_extract, bl_extract, bl_extract, List.drop_zero, e, List.take_drop]
theorem t5_txt (s : ByteArray) (h : txtF s = false) : t5V s = txtV s ∧ t5R s = txtR s := by
  have h' := of_decide_eq_false h
  have h2 : ¬ (numT s).size < (rv s).1 := fun e => h' (Or.inr e)
  have e1 : t5V s = s.extract (rv s).2 ((rv s).2 + (rv s).1) := by unfold t5V; rw [if_neg (by rw [h]; simp)]
  have e2 : t5R s = s.extract ((rv s).2 + (rv s).1) s.size := by unfold t5R; rw [if_neg (by rw [h]; simp)]
  rw [e1, e2]
  unfold txtV txtR
  rw [if_neg h2, if_neg h2]
  unfold numT
  rw [cut_take, cut_cut s _ _ (rv_bd s).2.2]
  exact ⟨rfl, rfl⟩
theorem t5R_size (s : ByteArray) : (t5R s).size ≤ s.size := by
  unfold t5R
  split
  · exact Nat.zero_le _
  · rw [← bl_length, bl_extract, List.length_drop, List.length_take, bl_length]; omega
theorem t5V_size (s : ByteArray) : (t5V s).size ≤ s.size := by
  unfold t5V
  split
  · exact Nat.zero_le _
  · rw [← bl_length, bl_extract, List.length_drop, List.length_take, bl_length]; omega
theorem rest_eq (s : ByteArray) : s.extract ((rv s).2 + (rv (numT s)).2) s.size = numT (numT s) := by
  rw [numT.eq_1 (numT s)]
  conv => rhs; unfold numT
  rw [cut_cut s _ _ (rv_bd s).2.2]
  rfl

/-- What the specification reads, whether right or not. -/
def sparse (s : ByteArray) : RecV :=
  if (rv s).1 = 1 ∨ (rv s).1 = 4 then ⟨(rv s).1, (rv (numT s)).1, t5V (numT (numT s)), t5V (t5R (numT (numT s))), 0, 0⟩
  else if (rv s).1 = 2 then ⟨(rv s).1, (rv (numT s)).1, t5V (numT (numT s)), ⟨#[]⟩, 0, 0⟩
  else ⟨(rv s).1, (rv (numT s)).1, ⟨#[]⟩, ⟨#[]⟩, (rv (numT (numT s))).1, sumV (numT (numT (numT s)))⟩
theorem sparse_clean (s : ByteArray) (h : Clean s) : sparse s = parse s := by
  obtain ⟨_, _, h⟩ := h
  unfold sparse parse
  by_cases h14 : (rv s).1 = 1 ∨ (rv s).1 = 4
  · rw [if_pos h14] at h
    rw [if_pos h14, if_pos h14, (t5_txt _ h.1).1, (t5_txt _ h.1).2, (t5_txt _ h.2.1).1]
  · rw [if_neg h14] at h
    rw [if_neg h14, if_neg h14]
    by_cases h2 : (rv s).1 = 2
    · rw [if_pos h2] at h
      rw [if_pos h2, if_pos h2, (t5_txt _ h.1).1]
    · rw [if_neg h2, if_neg h2]
theorem forthS (q : RecV) (h : recOkB q = true) : sparse (showS q) = q := by
  rw [sparse_clean _ (forth q h).2, (forth q h).1]
theorem RR_same (s : ByteArray) (h0 : ¬ s.size = 0) (h : showS (sparse s) = s) : RR s (sparse s) true := by
  refine Or.inl ⟨rfl, ?_, h⟩
  cases hr : recOkB (sparse s) with
  | true => rfl
  | false =>
    rw [show_none _ hr] at h
    exact absurd (by rw [← h]; rfl) h0
theorem RR_other (s : ByteArray) (h : ¬ showS (sparse s) = s) : RR s zeroR false :=
  Or.inr ⟨rfl, rfl, fun q hq e => h (by rw [← e, forthS q hq])⟩
theorem RR_empty (s : ByteArray) (h0 : s.size = 0) : RR s zeroR false :=
  Or.inr ⟨rfl, rfl, fun q hq e => by have := show_pos q hq; rw [e] at this; omega⟩
theorem sparse_size (s : ByteArray) : (sparse s).val.size ≤ s.size := by
  have h1 := t5V_size (t5R (numT (numT s)))
  have h2 := t5R_size (numT (numT s))
  have h3 : (numT (numT s)).size ≤ s.size := by rw [numT_size, numT_size]; omega
  unfold sparse
  split
  · simp only; omega
  · split
    · exact Nat.zero_le _
    · exact Nat.zero_le _

set_option maxRecDepth 100000 in
set_option maxHeartbeats 1000000 in
theorem l5Text_any (s : ByteArray) (hs : s.size ≤ 1048576) : Ans 89 #[.string s] (.tuple #[.string (t5V s), .string (t5R s), .bool (!txtF s)]) := by
  intro w
  have HR := hide (specRV_any s hs)
  have hbd := rv_bd s
  have hz := numT_size s
  by_cases h0 : (rv s).2 = 0
  · have HF : Hid (txtF s = true ∧ t5V s = ⟨#[]⟩ ∧ t5R s = ⟨#[]⟩) := hide (by
      have e : txtF s = true := decide_eq_true (Or.inl h0)
      exact ⟨e, by unfold t5V; rw [if_pos e], by unfold t5R; rw [if_pos e]⟩)
    have t0 : (((rv s).2 : Int) == 0) = true := by simp; omega
    clear h0 hz hbd
    generalize (rv s).1 = n at *
    generalize (rv s).2 = k at *
    go_enter Tryz.func89, Tryz.ntmps89
    go_wp2_with (go_at_call 88; refine (HR.out _).mono ?_; rintro e w1 ⟨rfl, hb1⟩)
    obtain ⟨e1, e2, e3⟩ := HF.out
    rw [e1, e2, e3]
    refine bodyPost_ret (v := .tuple #[.string ⟨#[]⟩, .string ⟨#[]⟩, .bool false]) (by simp [results, Tryz.results89, go_sem]) rfl ⟨rfl, hb1⟩
  · have t0 : (((rv s).2 : Int) == 0) = false := by simp; omega
    by_cases h1 : (numT s).size < (rv s).1
    · have HF : Hid (txtF s = true ∧ t5V s = ⟨#[]⟩ ∧ t5R s = ⟨#[]⟩) := hide (by
        have e : txtF s = true := decide_eq_true (Or.inr h1)
        exact ⟨e, by unfold t5V; rw [if_pos e], by unfold t5R; rw [if_pos e]⟩)
      have t1 : decide ((s.size : Int) - ((rv s).2 : Int) < ((rv s).1 : Int)) = true := by simp; omega
      clear h0 hz h1
      generalize (rv s).1 = n at *
      generalize (rv s).2 = k at *
      go_enter Tryz.func89, Tryz.ntmps89
      go_wp2_with (go_at_call 88; refine (HR.out _).mono ?_; rintro e w1 ⟨rfl, hb1⟩)
      obtain ⟨e1, e2, e3⟩ := HF.out
      rw [e1, e2, e3]
      refine bodyPost_ret (v := .tuple #[.string ⟨#[]⟩, .string ⟨#[]⟩, .bool false]) (by simp [results, Tryz.results89, go_sem]) rfl ⟨rfl, hb1⟩
    · have HF : Hid (txtF s = false ∧ t5V s = s.extract (rv s).2 ((rv s).2 + (rv s).1) ∧ t5R s = s.extract ((rv s).2 + (rv s).1) s.size) := hide (by
        have e : txtF s = false := decide_eq_false (by omega)
        exact ⟨e, by unfold t5V; rw [if_neg (by rw [e]; simp)], by unfold t5R; rw [if_neg (by rw [e]; simp)]⟩)
      have t1 : decide ((s.size : Int) - ((rv s).2 : Int) < ((rv s).1 : Int)) = false := by simp; omega
      have hle : (rv s).2 + (rv s).1 ≤ s.size := by omega
      clear h0 hz h1
      generalize (rv s).1 = n at *
      generalize (rv s).2 = k at *
      go_enter Tryz.func89, Tryz.ntmps89
      go_wp2_with (go_at_call 88; refine (HR.out _).mono ?_; rintro e w1 ⟨rfl, hb1⟩)
      have b1 : (0 : Int) ≤ (k : Int) := by omega
      have b2 : (k : Int) ≤ (k : Int) + (n : Int) := by omega
      have b3 : (k : Int) + (n : Int) ≤ (s.size : Int) := by omega
      have b4 : (0 : Int) ≤ (k : Int) + (n : Int) := by omega
      have b5 : IntKind.i64.wrap ((k : Int) + (n : Int)) = (k : Int) + (n : Int) := by rw [IntKind.wrap_i64]; omega
      go_quiet (fail)
      go_wp2
      obtain ⟨e1, e2, e3⟩ := HF.out
      rw [e1, e2, e3]
      refine bodyPost_ret (v := .tuple #[.string (s.extract k (k + n)), .string (s.extract (k + n) s.size), .bool true]) (by simp [results, Tryz.results89, go_sem]) rfl ⟨rfl, ⟨hb1.os, hb1.tape, hb1.output, hb1.size, hb1.block⟩⟩

end Go.Proofs.YtimpokbcfjgdaaaGreatDoor
namespace Go.Proofs.YtimpokbcfjgdaaaGreatDoor
namespace Plain

/-- One halving. -/
def tk (c : Nat) : Nat := if c % 2 = 1 then (c / 2) ^^^ 2197175160 else c / 2
def tkN : Nat → Nat → Nat
  | 0, c => c
  | n + 1, c => tk (tkN n c)
theorem tkN_succ' (n c : Nat) : tkN (n + 1) c = tkN n (tk c) := by
  induction n with
  | zero => rfl
  | succ n ih => rw [tkN, ih]; rfl
theorem tkN_add (m n c : Nat) : tkN (m + n) c = tkN m (tkN n c) := by
  induction m with
  | zero => rw [Nat.zero_add]; rfl
  | succ m ih => rw [Nat.add_right_comm, tkN, ih]; rfl
theorem xor_half (a b : Nat) : (a ^^^ b) / 2 = a / 2 ^^^ b / 2 := by
  have := Nat.shiftRight_xor_distrib (a := a) (b := b) (i := 1)
  simpa [Nat.shiftRight_eq_div_pow] using this
theorem xor_odd (a b : Nat) : (a ^^^ b) % 2 = (a % 2 + b % 2) % 2 := by
  have h := Nat.xor_mod_two_pow (a := a) (b := b) (n := 1)
  rw [Nat.pow_one] at h
  rw [h]
  rcases Nat.mod_two_eq_zero_or_one a with h1 | h1 <;> rcases Nat.mod_two_eq_zero_or_one b with h2 | h2 <;> rw [h1, h2] <;> rfl
theorem tk_xor (a b : Nat) : tk (a ^^^ b) = tk a ^^^ tk b := by
  unfold tk
  rw [xor_odd, xor_half]
  rcases Nat.mod_two_eq_zero_or_one a with h1 | h1 <;> rcases Nat.mod_two_eq_zero_or_one b with h2 | h2
  · simp [h1, h2]
  · simp [h1, h2, Nat.xor_assoc]
  · simp only [h1, h2]
    simp
    rw [Nat.xor_assoc, Nat.xor_assoc, Nat.xor_comm (b / 2)]
  · simp only [h1, h2]
    simp
    rw [Nat.xor_assoc, Nat.xor_comm 2197175160, Nat.xor_assoc, Nat.xor_self, Nat.xor_zero]
theorem tkN_xor (n a b : Nat) : tkN n (a ^^^ b) = tkN n a ^^^ tkN n b := by
  induction n with
  | zero => rfl
  | succ n ih => rw [tkN, ih, tk_xor]; rfl
theorem tk_lt (c : Nat) (h : c < 4294967296) : tk c < 4294967296 := by
  unfold tk
  split
  · have : (c / 2) ^^^ 2197175160 < 2 ^ 32 := Nat.xor_lt_two_pow (by omega) (by omega)
    omega
  · omega
theorem tkN_lt (n c : Nat) (h : c < 4294967296) : tkN n c < 4294967296 := by
  induction n with
  | zero => exact h
  | succ n ih => exact tk_lt _ ih
theorem xor_lt32 (a b : Nat) (h1 : a < 4294967296) (h2 : b < 4294967296) : a ^^^ b < 4294967296 := by
  have : a ^^^ b < 2 ^ 32 := Nat.xor_lt_two_pow (by omega) (by omega)
  omega
theorem eq_of_xor (a b : Nat) (h : a ^^^ b = 0) : a = b := by
  have h2 : (a ^^^ b) ^^^ b = b := by rw [h, Nat.zero_xor]
  rw [Nat.xor_assoc, Nat.xor_self, Nat.xor_zero] at h2
  exact h2
theorem tk_zero (d : Nat) (hd : d < 4294967296) (h : tk d = 0) : d = 0 := by
  unfold tk at h
  split at h
  · have := eq_of_xor _ _ h
    omega
  · omega
theorem tk_inj (a b : Nat) (ha : a < 4294967296) (hb : b < 4294967296) (h : tk a = tk b) : a = b := by
  apply eq_of_xor
  apply tk_zero _ (xor_lt32 a b ha hb)
  rw [tk_xor, h, Nat.xor_self]
theorem tkN_inj (n a b : Nat) (ha : a < 4294967296) (hb : b < 4294967296) (h : tkN n a = tkN n b) : a = b := by
  induction n with
  | zero => exact h
  | succ n ih => exact ih (tk_inj _ _ (tkN_lt n a ha) (tkN_lt n b hb) h)
theorem tkN_shift (n a : Nat) : tkN n (a * 2 ^ n) = a := by
  induction n with
  | zero => simp [tkN]
  | succ n ih =>
    rw [tkN_succ']
    have e : tk (a * 2 ^ (n + 1)) = a * 2 ^ n := by
      unfold tk
      have : a * 2 ^ (n + 1) = 2 * (a * 2 ^ n) := by rw [Nat.pow_succ]; rw [← Nat.mul_assoc, Nat.mul_comm]
      rw [this, if_neg (by omega)]
      omega
    rw [e, ih]

/-- The table of sixteen. -/
def tab : List Nat := [0, 274646895, 549293790, 820201905, 1098587580, 1361435347, 1640403810, 1905808397, 2197175160, 2460548119, 2722870694, 2987750089, 3280807620, 3553878443, 3811616794, 4084100981]
theorem tab_eq : ∀ l, l < 16 → tab.getD l 0 = tkN 4 l := by decide
theorem tab_lt : ∀ l, l < 16 → tab.getD l 0 < 4294967296 := by decide
theorem four (c : Nat) : (c / 16) ^^^ tab.getD (c % 16) 0 = tkN 4 c := by
  rw [tab_eq _ (Nat.mod_lt _ (by omega))]
  have e : c = (c / 16 * 2 ^ 4) ^^^ (c % 16) := by
    have h := Nat.two_pow_add_eq_or_of_lt (i := 4) (b := c % 16) (Nat.mod_lt _ (by omega)) (c / 16)
    have h2 : c / 16 * 2 ^ 4 ^^^ c % 16 = 2 ^ 4 * (c / 16) + c % 16 := by
      rw [h, Nat.mul_comm]
      apply Nat.eq_of_testBit_eq
      intro j
      rw [Nat.testBit_xor, Nat.testBit_or, Nat.testBit_two_pow_mul]
      by_cases hj : j < 4
      · simp [show ¬ 4 ≤ j from by omega]
      · have : (c % 16).testBit j = false := Nat.testBit_lt_two_pow (Nat.lt_of_lt_of_le (Nat.mod_lt _ (by omega)) (show 16 ≤ 2 ^ j from Nat.pow_le_pow_right (n := 2) (i := 4) (by omega) (by omega)))
        simp [this]
    omega
  conv => rhs; rw [e]
  rw [tkN_xor, tkN_shift]

/-- What a byte makes of a sum. -/
def bt (c b : Nat) : Nat := tkN 8 (c ^^^ b)
theorem bt_lt (c b : Nat) (h : c < 4294967296) (hb : b < 256) : bt c b < 4294967296 := tkN_lt _ _ (xor_lt32 _ _ h (by omega))
theorem bt_two (c b : Nat) : (tkN 4 (c ^^^ b) / 16) ^^^ tab.getD (tkN 4 (c ^^^ b) % 16) 0 = bt c b := by
  rw [four, ← tkN_add]
  rfl
/-- What bytes make of a sum. -/
def cf (c : Nat) (xs : List Nat) : Nat := xs.foldl bt c
theorem cf_nil (c : Nat) : cf c [] = c := List.foldl_nil
theorem cf_cons (c b : Nat) (r : List Nat) : cf c (b :: r) = cf (bt c b) r := List.foldl_cons ..
theorem cf_append (xs ys : List Nat) : ∀ c, cf c (xs ++ ys) = cf (cf c xs) ys := by
  intro c
  exact List.foldl_append
theorem cf_lt (xs : List Nat) (hx : ∀ b ∈ xs, b < 256) : ∀ c, c < 4294967296 → cf c xs < 4294967296 := by
  induction xs with
  | nil => intro c h; rw [cf_nil]; exact h
  | cons b r ih => intro c h; rw [cf_cons]; exact ih (fun x hx' => hx x (by simp [hx'])) _ (bt_lt c b h (hx b (by simp)))
theorem cf_inj (xs : List Nat) (hx : ∀ b ∈ xs, b < 256) : ∀ c d, c < 4294967296 → d < 4294967296 → cf c xs = cf d xs → c = d := by
  induction xs with
  | nil => intro c d _ _ h; rw [cf_nil, cf_nil] at h; exact h
  | cons b r ih =>
    intro c d hc hd h
    rw [cf_cons, cf_cons] at h
    have hb := hx b (by simp)
    have h1 := ih (fun x hx' => hx x (by simp [hx'])) _ _ (bt_lt c b hc hb) (bt_lt d b hd hb) h
    have h2 := tkN_inj 8 _ _ (xor_lt32 c b hc (by omega)) (xor_lt32 d b hd (by omega)) h1
    have h3 : c ^^^ d = 0 := by
      have h4 : (c ^^^ b) ^^^ (d ^^^ b) = 0 := by rw [h2, Nat.xor_self]
      rw [Nat.xor_assoc, Nat.xor_comm d b, ← Nat.xor_assoc b b d, Nat.xor_self, Nat.zero_xor] at h4
      exact h4
    exact eq_of_xor _ _ h3
/-- Bytes as one number, the first the least. -/
def lv : List Nat → Nat
  | [] => 0
  | b :: r => b + 256 * lv r
theorem low8 (b v : Nat) (hb : b < 256) : b ^^^ (v * 2 ^ 8) = b + 256 * v := by
  have h := Nat.two_pow_add_eq_or_of_lt (i := 8) (b := b) (by omega) v
  have h2 : b ^^^ (v * 2 ^ 8) = 2 ^ 8 * v ||| b := by
    rw [Nat.mul_comm v]
    apply Nat.eq_of_testBit_eq
    intro j
    rw [Nat.testBit_xor, Nat.testBit_or, Nat.testBit_two_pow_mul]
    by_cases hj : j < 8
    · simp [show ¬ 8 ≤ j from by omega]
    · have : b.testBit j = false := Nat.testBit_lt_two_pow (Nat.lt_of_lt_of_le hb (show 256 ≤ 2 ^ j from Nat.pow_le_pow_right (n := 2) (i := 8) (by omega) (by omega)))
      simp [this]
  rw [h2, ← h]
  omega
theorem cf_lv (xs : List Nat) (hx : ∀ b ∈ xs, b < 256) : ∀ c, cf c xs = tkN (8 * xs.length) (c ^^^ lv xs) := by
  induction xs with
  | nil => intro c; rw [cf_nil, lv, Nat.xor_zero]; rfl
  | cons b r ih =>
    intro c
    have hb := hx b (by simp)
    rw [cf_cons, ih (fun x hx' => hx x (by simp [hx']))]
    rw [List.length_cons, Nat.mul_add, Nat.mul_one, tkN_add, bt, lv, ← low8 b (lv r) hb]
    congr 1
    rw [← Nat.xor_assoc, tkN_xor 8 (c ^^^ b), tkN_shift]
theorem lv_lt (xs : List Nat) (hx : ∀ b ∈ xs, b < 256) : lv xs < 256 ^ xs.length := by
  induction xs with
  | nil => simp [lv]
  | cons b r ih =>
    have hb := hx b (by simp)
    have := ih (fun x hx' => hx x (by simp [hx']))
    rw [lv, List.length_cons, Nat.pow_succ]
    omega
theorem lv_inj : ∀ (xs ys : List Nat), (∀ b ∈ xs, b < 256) → (∀ b ∈ ys, b < 256) → xs.length = ys.length → lv xs = lv ys → xs = ys
  | [], [], _, _, _, _ => rfl
  | [], _ :: _, _, _, h, _ => by simp at h
  | _ :: _, [], _, _, h, _ => by simp at h
  | a :: r, b :: t, hx, hy, hl, h => by
    have ha := hx a (by simp)
    have hb := hy b (by simp)
    simp only [lv] at h
    have e : a = b := by omega
    have e2 : lv r = lv t := by omega
    rw [e, lv_inj r t (fun x h' => hx x (by simp [h'])) (fun x h' => hy x (by simp [h'])) (by simpa using hl) e2]
/-- At most four bytes: other bytes make another sum. -/
theorem cf_four (xs ys : List Nat) (hx : ∀ b ∈ xs, b < 256) (hy : ∀ b ∈ ys, b < 256) (hl : xs.length = ys.length) (h4 : xs.length ≤ 4) (c : Nat) (hc : c < 4294967296) (h : cf c xs = cf c ys) : xs = ys := by
  have p4 : ∀ n, n ≤ 4 → 256 ^ n ≤ 4294967296 := by
    intro n hn
    have := Nat.pow_le_pow_right (n := 256) (by omega) hn
    simpa using this
  have l1 : lv xs < 4294967296 := Nat.lt_of_lt_of_le (lv_lt xs hx) (p4 _ h4)
  have l2 : lv ys < 4294967296 := Nat.lt_of_lt_of_le (lv_lt ys hy) (p4 _ (by omega))
  rw [cf_lv xs hx, cf_lv ys hy, ← hl] at h
  have h2 := tkN_inj _ _ _ (xor_lt32 c _ hc l1) (xor_lt32 c _ hc l2) h
  have h3 : lv xs ^^^ lv ys = 0 := by
    have h5 : (c ^^^ lv xs) ^^^ (c ^^^ lv ys) = 0 := by rw [h2, Nat.xor_self]
    rw [Nat.xor_comm c, Nat.xor_assoc, ← Nat.xor_assoc c c, Nat.xor_self, Nat.zero_xor] at h5
    exact h5
  exact lv_inj xs ys hx hy hl (eq_of_xor _ _ h3)
/-- Bytes that part at most within four in a row: other bytes make another sum. -/
theorem cf_parts (xs ys : List Nat) (hx : ∀ b ∈ xs, b < 256) (hy : ∀ b ∈ ys, b < 256) (hl : xs.length = ys.length) (k : Nat) (ho : ∀ j, j < k ∨ k + 4 ≤ j → xs[j]? = ys[j]?) (c : Nat) (hc : c < 4294967296) (h : cf c xs = cf c ys) : xs = ys := by
  have e0 : xs.take k = ys.take k := by
    apply List.ext_getElem?
    intro j
    rw [List.getElem?_take, List.getElem?_take]
    split
    · exact ho j (by omega)
    · rfl
  have e2 : (xs.drop k).drop 4 = (ys.drop k).drop 4 := by
    apply List.ext_getElem?
    intro j
    rw [List.drop_drop, List.drop_drop, List.getElem?_drop, List.getElem?_drop]
    exact ho _ (by omega)
  have x1 : xs = xs.take k ++ ((xs.drop k).take 4 ++ (xs.drop k).drop 4) := by rw [List.take_append_drop, List.take_append_drop]
  have y1 : ys = xs.take k ++ ((ys.drop k).take 4 ++ (xs.drop k).drop 4) := by rw [e0, e2, List.take_append_drop, List.take_append_drop]
  have m1 : ∀ b ∈ xs.take k, b < 256 := fun b hb => hx b (List.mem_of_mem_take hb)
  have m2 : ∀ b ∈ (xs.drop k).take 4, b < 256 := fun b hb => hx b (List.mem_of_mem_drop (List.mem_of_mem_take hb))
  have m3 : ∀ b ∈ (ys.drop k).take 4, b < 256 := fun b hb => hy b (List.mem_of_mem_drop (List.mem_of_mem_take hb))
  have m4 : ∀ b ∈ (xs.drop k).drop 4, b < 256 := fun b hb => hx b (List.mem_of_mem_drop (List.mem_of_mem_drop hb))
  have hcc := cf_lt _ m1 c hc
  have h1 : cf (cf (cf c (xs.take k)) ((xs.drop k).take 4)) ((xs.drop k).drop 4) = cf (cf (cf c (xs.take k)) ((ys.drop k).take 4)) ((xs.drop k).drop 4) := by
    rw [← cf_append, ← cf_append, ← cf_append, ← cf_append, ← x1, ← y1]
    exact h
  have h2 := cf_inj _ m4 _ _ (cf_lt _ m2 _ hcc) (cf_lt _ m3 _ hcc) h1
  have h3 := cf_four _ _ m2 m3 (by simp [List.length_take, List.length_drop, hl]) (by rw [List.length_take]; omega) _ hcc h2
  rw [x1, y1, ← h3]

/-- The sum of a text behind its first k bytes, and of all. -/
def ck (s : ByteArray) (k : Nat) : Nat := cf 4294967295 ((bl s).take k)
def crcN (s : ByteArray) : Nat := 4294967295 - cf 4294967295 (bl s)
theorem ck_zero (s : ByteArray) : ck s 0 = 4294967295 := by rw [ck, List.take_zero, cf_nil]
theorem ck_succ (s : ByteArray) (k : Nat) (h : k < s.size) : ck s (k + 1) = bt (ck s k) s[k].toNat := by
  unfold ck
  rw [bl_take_succ s k h, cf_append, cf_cons, cf_nil]
theorem bl_all (s : ByteArray) : ∀ b ∈ bl s, b < 256 := by
  intro b hb
  have := bl_lt s (bl s).length b (by rw [List.take_length]; exact hb)
  exact this
theorem ck_lt (s : ByteArray) (k : Nat) : ck s k < 4294967296 := cf_lt _ (bl_lt s k) _ (by omega)
theorem ck_all (s : ByteArray) : ck s s.size = cf 4294967295 (bl s) := by
  unfold ck
  rw [List.take_of_length_le (by rw [bl_length]; exact Nat.le_refl _)]
theorem crc_ck (s : ByteArray) : (crcN s : Int) = 4294967295 - (ck s s.size : Int) := by
  have := ck_lt s s.size
  unfold crcN
  rw [← ck_all]
  omega

end Plain
end Go.Proofs.YtimpokbcfjgdaaaGreatDoor
namespace Go.Proofs.YtimpokbcfjgdaaaGreatDoor
open Go.RowKit
open Plain

theorem crcN_le (s : ByteArray) : crcN s ≤ 4294967295 := by
  have h := crc_ck s
  have := ck_lt s s.size
  omega
/-- The sum of a text, four bytes. -/
def sumS (t : ByteArray) : ByteArray := fixN (crcN t : Int) 4
theorem sumS_size (t : ByteArray) : (sumS t).size = 4 := by
  unfold sumS
  rw [fixN_in _ 4 (by rw [p32]; have := crcN_le t; omega), strOfNums_size, low_length]
def frameS (s : ByteArray) : ByteArray := if s.size ≤ 200 then sumS (textS s) ++ textS s else ⟨#[]⟩
theorem frameS_in (s : ByteArray) (h : s.size ≤ 200) : frameS s = sumS (textS s) ++ textS s := if_pos h
theorem frameS_out (s : ByteArray) (h : ¬ s.size ≤ 200) : frameS s = ⟨#[]⟩ := if_neg h
theorem textS_size' (s : ByteArray) : (textS s).size ≤ 7 + s.size := by
  unfold textS
  rw [ByteArray.size_append]
  have := varS_size (s.size : Int)
  omega
theorem frameS_size (s : ByteArray) : (frameS s).size ≤ 211 := by
  unfold frameS
  split
  · rw [ByteArray.size_append, sumS_size]
    have := textS_size' s
    omega
  · exact Nat.zero_le _

/-- A text that begins with a frame: of which text, and how many bytes the frame has. -/
def uf (s : ByteArray) : ByteArray × Nat :=
  if s.size < 5 ∨ (rv (s.extract 4 s.size)).2 = 0 ∨ 200 < (rv (s.extract 4 s.size)).1 ∨ s.size < 4 + (rv (s.extract 4 s.size)).2 + (rv (s.extract 4 s.size)).1 then (⟨#[]⟩, 0)
  else if s.extract 0 (4 + (rv (s.extract 4 s.size)).2 + (rv (s.extract 4 s.size)).1) = frameS (s.extract (4 + (rv (s.extract 4 s.size)).2) (4 + (rv (s.extract 4 s.size)).2 + (rv (s.extract 4 s.size)).1))
  then (s.extract (4 + (rv (s.extract 4 s.size)).2) (4 + (rv (s.extract 4 s.size)).2 + (rv (s.extract 4 s.size)).1), 4 + (rv (s.extract 4 s.size)).2 + (rv (s.extract 4 s.size)).1) else (⟨#[]⟩, 0)
/-- The same in words. -/
def UF (s t : ByteArray) (n : Nat) : Prop :=
  (t.size ≤ 200 ∧ n = (frameS t).size ∧ ∃ T, s = frameS t ++ T) ∨ (n = 0 ∧ t = ⟨#[]⟩ ∧ ∀ u T, u.size ≤ 200 → s ≠ frameS u ++ T)

theorem drop4 (A T : ByteArray) (h : A.size = 4) : (A ++ T).extract 4 (A ++ T).size = T := by
  have := ba_drop A T
  rw [h] at this
  exact this
theorem uf_frame (u T : ByteArray) (h : u.size ≤ 200) : uf (frameS u ++ T) = (u, (frameS u).size) := by
  have e0 : frameS u ++ T = sumS (textS u) ++ (textS u ++ T) := by rw [frameS_in u h, ByteArray.append_assoc]
  have e4 : (frameS u ++ T).extract 4 (frameS u ++ T).size = textS u ++ T := by rw [e0]; exact drop4 _ _ (sumS_size _)
  have e1 : textS u ++ T = varS (u.size : Int) ++ (u ++ T) := by unfold textS; rw [ByteArray.append_assoc]
  have er : rv (textS u ++ T) = (u.size, (varS (u.size : Int)).size) := by rw [e1]; exact rv_var u.size (by omega) _
  have hp := varS_pos u.size (by omega)
  have hz : (frameS u).size = 4 + (varS (u.size : Int)).size + u.size := by
    rw [frameS_in u h, ByteArray.size_append, sumS_size]
    unfold textS
    rw [ByteArray.size_append]
    omega
  have hs : (frameS u ++ T).size = (frameS u).size + T.size := ByteArray.size_append
  have et : (frameS u ++ T).extract (4 + (varS (u.size : Int)).size) (4 + (varS (u.size : Int)).size + u.size) = u := by
    have e5 : frameS u ++ T = (sumS (textS u) ++ varS (u.size : Int)) ++ (u ++ T) := by rw [e0, e1, ByteArray.append_assoc]
    have e6 := cut_take (frameS u ++ T) (4 + (varS (u.size : Int)).size) u.size
    rw [← e6]
    have e7 : (sumS (textS u) ++ varS (u.size : Int)).size = 4 + (varS (u.size : Int)).size := by rw [ByteArray.size_append, sumS_size]
    rw [e5, ← e7, ba_drop, ba_take]
  unfold uf
  rw [e4, er]
  simp only
  rw [if_neg (by omega), et, ← hz, ba_take, if_pos rfl]
theorem uf_UF (s : ByteArray) : UF s (uf s).1 (uf s).2 := by
  by_cases h : ∃ u T, u.size ≤ 200 ∧ s = frameS u ++ T
  · obtain ⟨u, T, h1, rfl⟩ := h
    rw [uf_frame u T h1]
    exact Or.inl ⟨h1, rfl, T, rfl⟩
  · have hn : ∀ u T, u.size ≤ 200 → s ≠ frameS u ++ T := fun u T h1 h2 => h ⟨u, T, h1, h2⟩
    refine Or.inr ?_
    unfold uf
    split
    · exact ⟨rfl, rfl, hn⟩
    · rename_i hc
      split
      · rename_i he
        exfalso
        have hsz : (s.extract (4 + (rv (s.extract 4 s.size)).2) (4 + (rv (s.extract 4 s.size)).2 + (rv (s.extract 4 s.size)).1)).size = (rv (s.extract 4 s.size)).1 := by rw [ba_len _ _ _ (by omega) (by omega)]; omega
        refine hn (s.extract (4 + (rv (s.extract 4 s.size)).2) (4 + (rv (s.extract 4 s.size)).2 + (rv (s.extract 4 s.size)).1)) (s.extract (4 + (rv (s.extract 4 s.size)).2 + (rv (s.extract 4 s.size)).1) s.size) ?_ ?_
        · rw [hsz]; omega
        · rw [← he, ba_split]
      · exact ⟨rfl, rfl, hn⟩
theorem UF_one {s t u : ByteArray} {n m : Nat} (h : UF s t n) (h' : UF s u m) : t = u ∧ n = m := by
  rcases h with ⟨h1, rfl, T, rfl⟩ | ⟨rfl, rfl, h1⟩
  · rcases h' with ⟨g1, rfl, T', e⟩ | ⟨_, _, g1⟩
    · have e1 := uf_frame t T h1
      rw [e, uf_frame u T' g1] at e1
      injection e1 with a b
      exact ⟨a.symm, b.symm⟩
    · exact absurd rfl (g1 t T h1)
  · rcases h' with ⟨g1, rfl, T', e⟩ | ⟨rfl, rfl, _⟩
    · exact absurd e (h1 u T' g1)
    · exact ⟨rfl, rfl⟩
theorem uf_of {s t : ByteArray} {n : Nat} (h : UF s t n) : uf s = (t, n) := by
  obtain ⟨h1, h2⟩ := UF_one (uf_UF s) h
  rw [← h1, ← h2]
theorem uf_bd (s : ByteArray) : (uf s).1.size ≤ 200 ∧ (uf s).2 ≤ s.size ∧ (uf s).2 ≤ 211 := by
  rcases uf_UF s with ⟨h1, h2, T, h3⟩ | ⟨h1, h2, _⟩
  · have := frameS_size (uf s).1
    have e : s.size = (frameS (uf s).1).size + T.size := by rw [← ByteArray.size_append, ← h3]
    omega
  · rw [h1, h2]
    exact ⟨Nat.zero_le _, Nat.zero_le _, Nat.zero_le _⟩

/-! ### ReadRec as a function -/
def rr (s : ByteArray) : RecV × Bool := if s.size ≠ 0 ∧ showS (sparse s) = s then (sparse s, true) else (zeroR, false)
theorem rr_RR (s : ByteArray) : RR s (rr s).1 (rr s).2 := by
  unfold rr
  split
  · rename_i h
    exact RR_same s h.1 h.2
  · rename_i h
    by_cases h0 : s.size = 0
    · exact RR_empty s h0
    · exact RR_other s (fun e => h ⟨h0, e⟩)
theorem rr_of {s : ByteArray} {r : RecV} {ok : Bool} (h : RR s r ok) : rr s = (r, ok) := by
  obtain ⟨h1, h2⟩ := RR_one (rr_RR s) h
  rw [← h1, ← h2]

end Go.Proofs.YtimpokbcfjgdaaaGreatDoor
namespace Go.Proofs.YtimpokbcfjgdaaaGreatDoor
open Go.RowKit
open Plain

/-- Does the one text stand ahead of the other? -/
def klt (a b : ByteArray) : Bool := Op.bytesLess a.toList b.toList
theorem blt_lt : ∀ (x y : List UInt8), Op.bytesLess x y = decide (x < y)
  | x, [] => by simp [Op.bytesLess]
  | [], b :: y => by simp [Op.bytesLess]
  | a :: x, b :: y => by
    rw [Op.bytesLess, blt_lt x y]
    simp only [List.cons_lt_cons_iff]
    by_cases h1 : a < b <;> by_cases h2 : a = b <;> by_cases h3 : x < y <;> simp [h1, h2, h3]
theorem klt_iff {a b : ByteArray} : klt a b = true ↔ a.toList < b.toList := by unfold klt; rw [blt_lt, decide_eq_true_iff]
theorem klt_no {a b : ByteArray} : klt a b = false ↔ ¬ a.toList < b.toList := by unfold klt; rw [blt_lt, decide_eq_false_iff_not]
theorem klt_trans {a b c : ByteArray} (h : klt a b = true) (h2 : klt b c = true) : klt a c = true := klt_iff.2 (List.lt_trans (klt_iff.1 h) (klt_iff.1 h2))
theorem klt_asymm {a b : ByteArray} (h : klt a b = true) : klt b a = false := klt_no.2 (List.lt_asymm (klt_iff.1 h))
theorem klt_irrefl (a : ByteArray) : klt a a = false := klt_no.2 (List.lt_irrefl _)
theorem klt_other {a b : ByteArray} (h : klt a b = false) (hn : ¬ b = a) : klt b a = true := by
  rw [klt_no] at h
  rw [klt_iff]
  rcases List.le_iff_lt_or_eq.1 (List.not_lt.1 h) with h1 | h1
  · exact h1
  · exact absurd (toList_inj h1) hn
theorem klt_ne {a b : ByteArray} (h : klt a b = true) : ¬ a = b := fun e => by rw [e, klt_irrefl] at h; cases h
def dropE (xs : List EntV) (key : ByteArray) : List EntV := xs.filter (fun e => decide (¬ e.key = key))
def insE : List EntV → EntV → List EntV
  | [], e => [e]
  | x :: r, e => if klt e.key x.key = true then e :: x :: r else x :: insE r e
def putE (xs : List EntV) (e : EntV) : List EntV := insE (dropE xs e.key) e
def getE (xs : List EntV) (key : ByteArray) : Option EntV := xs.find? (fun e => decide (e.key = key))

theorem dropE_len (xs : List EntV) (key : ByteArray) : (dropE xs key).length ≤ xs.length := List.length_filter_le _ _
theorem dropE_succ_ne (xs : List EntV) (key : ByteArray) (k : Nat) (h : k < xs.length) (hk : ¬ (xs[k]).key = key) : dropE (xs.take (k + 1)) key = dropE (xs.take k) key ++ [xs[k]] := by
  unfold dropE
  rw [List.take_succ_eq_append_getElem h, List.filter_append]
  simp [hk]
theorem dropE_succ_eq (xs : List EntV) (key : ByteArray) (k : Nat) (h : k < xs.length) (hk : (xs[k]).key = key) : dropE (xs.take (k + 1)) key = dropE (xs.take k) key := by
  unfold dropE
  rw [List.take_succ_eq_append_getElem h, List.filter_append]
  simp [hk]
/-- No entry of the list stands behind e. -/
def NoneGt (xs : List EntV) (e : EntV) : Prop := ∀ x, x ∈ xs → klt e.key x.key = false
theorem insE_behind (xs : List EntV) (r : List EntV) (e : EntV) (h : NoneGt xs e) : insE (xs ++ r) e = xs ++ insE r e := by
  induction xs with
  | nil => rfl
  | cons x l ih =>
    have h1 := h x List.mem_cons_self
    rw [List.cons_append, insE, if_neg (by rw [h1]; simp), ih (fun y hy => h y (List.mem_cons_of_mem _ hy)), List.cons_append]
theorem insE_end (xs : List EntV) (e : EntV) (h : NoneGt xs e) : insE xs e = xs ++ [e] := by
  have := insE_behind xs [] e h
  rw [List.append_nil] at this
  exact this
theorem insE_more (xs : List EntV) (r : List EntV) (e : EntV) (h : ∃ x, x ∈ xs ∧ klt e.key x.key = true) : insE (xs ++ r) e = insE xs e ++ r := by
  induction xs with
  | nil => obtain ⟨x, hx, _⟩ := h; simp at hx
  | cons x l ih =>
    rw [List.cons_append, insE, insE]
    by_cases hx : klt e.key x.key = true
    · rw [if_pos hx, if_pos hx]
      rfl
    · rw [if_neg hx, if_neg hx, List.cons_append]
      obtain ⟨y, hy, hg⟩ := h
      rcases List.mem_cons.1 hy with rfl | hy
      · exact absurd hg hx
      · rw [ih ⟨y, hy, hg⟩]
theorem insE_len (xs : List EntV) (e : EntV) : (insE xs e).length = xs.length + 1 := by
  induction xs with
  | nil => rfl
  | cons x l ih =>
    rw [insE]
    split
    · rfl
    · rw [List.length_cons, ih, List.length_cons]
theorem insE_at (xs : List EntV) (e : EntV) (k : Nat) (hk : k < xs.length) (h1 : NoneGt (xs.take k) e) (h2 : klt e.key (xs[k]).key = true) : insE xs e = xs.take k ++ e :: xs.drop k := by
  have h := insE_behind (xs.take k) (xs.drop k) e h1
  rw [List.take_append_drop] at h
  rw [h, List.drop_eq_getElem_cons hk, insE, if_pos h2]

/-- What spec.DirPut holds behind its first k entries. -/
structure PutSt (xs : List EntV) (e : EntV) (k : Nat) (done : Bool) (out : List EntV) : Prop where
  no : done = false → out = dropE (xs.take k) e.key ∧ NoneGt (dropE (xs.take k) e.key) e
  yes : done = true → out = insE (dropE (xs.take k) e.key) e ∧ ∃ x, x ∈ dropE (xs.take k) e.key ∧ klt e.key x.key = true
theorem PutSt.start (xs : List EntV) (e : EntV) : PutSt xs e 0 false [] := ⟨fun _ => ⟨rfl, fun x hx => by simp [dropE] at hx⟩, fun h => by cases h⟩
theorem PutSt.same {xs : List EntV} {e : EntV} {k : Nat} {done : Bool} {out : List EntV} (h : PutSt xs e k done out) (hk : k < xs.length) (he : (xs[k]).key = e.key) : PutSt xs e (k + 1) done out := by
  have hd := dropE_succ_eq xs e.key k hk he
  exact ⟨fun q => by rw [hd]; exact h.no q, fun q => by rw [hd]; exact h.yes q⟩
theorem PutSt.gt {xs : List EntV} {e : EntV} {k : Nat} {out : List EntV} (h : PutSt xs e k false out) (hk : k < xs.length) (he : ¬ (xs[k]).key = e.key) (hg : klt e.key (xs[k]).key = true) : PutSt xs e (k + 1) true (out ++ [e] ++ [xs[k]]) := by
  have hd := dropE_succ_ne xs e.key k hk he
  obtain ⟨h1, h2⟩ := h.no rfl
  refine ⟨fun q => (by cases q), fun _ => ⟨?_, xs[k], ?_, hg⟩⟩
  · rw [hd, insE_behind _ _ _ h2, h1, insE, if_pos hg]
    simp
  · rw [hd]; simp
theorem PutSt.le {xs : List EntV} {e : EntV} {k : Nat} {out : List EntV} (h : PutSt xs e k false out) (hk : k < xs.length) (he : ¬ (xs[k]).key = e.key) (hg : klt e.key (xs[k]).key = false) : PutSt xs e (k + 1) false (out ++ [xs[k]]) := by
  have hd := dropE_succ_ne xs e.key k hk he
  obtain ⟨h1, h2⟩ := h.no rfl
  refine ⟨fun _ => ⟨by rw [hd, h1], fun x hx => ?_⟩, fun q => by cases q⟩
  rw [hd] at hx
  rcases List.mem_append.1 hx with hx | hx
  · exact h2 x hx
  · obtain rfl : x = xs[k] := by simpa using hx
    exact hg
theorem PutSt.on {xs : List EntV} {e : EntV} {k : Nat} {out : List EntV} (h : PutSt xs e k true out) (hk : k < xs.length) (he : ¬ (xs[k]).key = e.key) : PutSt xs e (k + 1) true (out ++ [xs[k]]) := by
  have hd := dropE_succ_ne xs e.key k hk he
  obtain ⟨h1, y, hy, hg⟩ := h.yes rfl
  refine ⟨fun q => (by cases q), fun _ => ⟨?_, y, ?_, hg⟩⟩
  · rw [hd, insE_more _ _ _ ⟨y, hy, hg⟩, h1]
  · rw [hd]; exact List.mem_append_left _ hy
theorem PutSt.end_no {xs : List EntV} {e : EntV} {out : List EntV} (h : PutSt xs e xs.length false out) : putE xs e = out ++ [e] := by
  obtain ⟨h1, h2⟩ := h.no rfl
  rw [List.take_length] at h1 h2
  unfold putE
  rw [insE_end _ _ h2, h1]
theorem PutSt.end_yes {xs : List EntV} {e : EntV} {out : List EntV} (h : PutSt xs e xs.length true out) : putE xs e = out := by
  obtain ⟨h1, _⟩ := h.yes rfl
  rw [List.take_length] at h1
  exact h1.symm
theorem PutSt.len {xs : List EntV} {e : EntV} {k : Nat} {done : Bool} {out : List EntV} (h : PutSt xs e k done out) : out.length ≤ k + 1 := by
  have h1 := dropE_len (xs.take k) e.key
  rw [List.length_take] at h1
  cases done with
  | false => rw [(h.no rfl).1]; omega
  | true => rw [(h.yes rfl).1, insE_len]; omega
theorem getE_none {xs : List EntV} {key : ByteArray} {k : Nat} (hk : k < xs.length) (h : getE (xs.take k) key = none) (hn : ¬ (xs[k]).key = key) : getE (xs.take (k + 1)) key = none := by
  unfold getE at h ⊢
  rw [List.take_succ_eq_append_getElem hk, List.find?_append, h]
  simp [hn]
theorem getE_here {xs : List EntV} {key : ByteArray} {k : Nat} (hk : k < xs.length) (h : getE (xs.take k) key = none) (hn : (xs[k]).key = key) : getE xs key = some (xs[k]) := by
  unfold getE at h ⊢
  have e : xs = xs.take k ++ xs[k] :: xs.drop (k + 1) := by
    rw [← List.drop_eq_getElem_cons hk, List.take_append_drop]
  have h2 : (xs.take k ++ xs[k] :: xs.drop (k + 1)).find? (fun e => decide (e.key = key)) = some (xs[k]) := by
    rw [List.find?_append, h, List.find?_cons_of_pos (by simpa using hn)]
    rfl
  rw [← e] at h2
  exact h2

end Go.Proofs.YtimpokbcfjgdaaaGreatDoor
namespace Go.Proofs.YtimpokbcfjgdaaaGreatDoor
open Go.RowKit
open Plain

/-- Is an entry right, for itself? -/
def entOk (e : EntV) : Bool := keyB e.key && (decide (1 ≤ e.seg ∧ e.seg ≤ 100000) && (decide (0 ≤ e.pos) && (decide (1 ≤ e.len ∧ e.len ≤ 210) && decide (1 ≤ e.bat ∧ e.bat ≤ 1000000))))
/-- Does the entry i stand right, behind the one ahead? -/
def okAt (xs : List EntV) (i : Nat) : Bool := entOk (xs.getD i zeroE) && (decide (i = 0) || klt (xs.getD (i - 1) zeroE).key (xs.getD i zeroE).key)
def dirOk (xs : List EntV) : Bool := decide (xs.length ≤ 20) && (List.range xs.length).all (okAt xs)
theorem dirOk_no {xs : List EntV} {k : Nat} (hk : k < xs.length) (h : okAt xs k = false) : dirOk xs = false := by
  unfold dirOk
  rw [Bool.and_eq_false_iff]
  refine .inr ?_
  rw [List.all_eq_false]
  exact ⟨k, by simpa using hk, by rw [h]; simp⟩
theorem dirOk_yes {xs : List EntV} (hn : xs.length ≤ 20) (h : ∀ i, i < xs.length → okAt xs i = true) : dirOk xs = true := by
  unfold dirOk
  rw [decide_eq_true hn, Bool.true_and, List.all_eq_true]
  intro i hi
  exact h i (by simpa using hi)
theorem getD_at {xs : List EntV} {k : Nat} (hk : k < xs.length) : xs.getD k zeroE = xs[k] := by simp [List.getD, hk]
theorem in_yes {x lo hi : Int} (h : decide (lo ≤ x ∧ x ≤ hi) = true) (w : World) : Calls Tryz.prog 72 #[.int .i64 x, .int .i64 lo, .int .i64 hi] w fun e w' => e = .returned (.bool true) ∧ w' = w := (in_any x lo hi w).mono fun _ _ ⟨a, b⟩ => ⟨by rw [a, h], b.symm⟩
theorem in_no {x lo hi : Int} (h : decide (lo ≤ x ∧ x ≤ hi) = false) (w : World) : Calls Tryz.prog 72 #[.int .i64 x, .int .i64 lo, .int .i64 hi] w fun e w' => e = .returned (.bool false) ∧ w' = w := (in_any x lo hi w).mono fun _ _ ⟨a, b⟩ => ⟨by rw [a, h], b.symm⟩
theorem skey_is {s : ByteArray} {b : Bool} (h : keyB s = b) (w : World) : Calls Tryz.prog 106 #[.string s] w fun e w' => e = .returned (.bool b) ∧ w' = w := (specKey_any s w).mono fun _ _ ⟨a, c⟩ => ⟨by rw [a, h], c.symm⟩

set_option maxRecDepth 100000 in
set_option maxHeartbeats 8000000 in
theorem specDirOk_any (w : World) (a : Option Addr) (n cap : Nat) (xs : List EntV) (hr : entSh.Row w a n xs) (hn : n ≤ 1048576) :
    Calls Tryz.prog 73 #[.slice a n cap] w fun e w' => e = .returned (.bool (dirOk xs)) ∧ Below w.heap.size w w' := by
  have hlen := hr.len
  have HR := hide hr
  clear hr
  by_cases h20 : n ≤ 20
  · have t20 : decide ((20 : Int) < (n : Int)) = false := by simp; omega
    go_enter Tryz.func73, Tryz.ntmps73
    go_wp2
    go_loopw [3] (fun i wr => ∃ (k : Nat), k ≤ n ∧ i = .int .i64 k ∧ Hid (∀ j, j < k → okAt xs j = true) ∧ Hid (Below w.heap.size w wr)) (fun i _ => n - (intOf i).toNat)
    case atStart => exact ⟨0, by omega, rfl, hide (fun j hj => absurd hj (by omega)), hide (Below.refl _ _)⟩
    case round =>
      clear t20
      obtain ⟨k, hk, rfl, HO, HB⟩ := hrel
      by_cases hlt : k < n
      · have hkf : k < xs.length := by omega
        obtain ⟨b, off, rfl, hbw, e0, e1, e2, e3, e4⟩ := ent_cells (HR.out.later HB.out) k hkf
        have hk2 : (k : Int) < (n : Int) := by omega
        have HOK : Hid (okAt xs k = (entOk (xs[k]) && (decide (k = 0) || klt (xs.getD (k - 1) zeroE).key (xs[k]).key))) := hide (by unfold okAt; rw [getD_at hkf])
        obtain ⟨z, hz⟩ : ∃ z, xs[k] = z := ⟨_, rfl⟩
        rw [hz] at e0 e1 e2 e3 e4 HOK
        have HBAD : Hid (okAt xs k = false → dirOk xs = false) := hide (fun h => dirOk_no hkf h)
        have hbx := Blk5.new wr z
        obtain ⟨W2, hW2⟩ : ∃ W2, W2 = wr.alloc (.cells #[.string z.key, .int .i64 z.seg, .int .i64 z.pos, .int .i64 z.len, .int .i64 z.bat] 71) := ⟨_, rfl⟩
        have HB2 : Hid (Below w.heap.size w W2) := hide (by rw [hW2]; exact HB.out.alloc HB.out.size _)
        have HB3 : Hid (∀ q, Below w.heap.size w (W2.drewN q)) := hide (fun _ => ⟨HB2.out.os, HB2.out.tape, HB2.out.output, HB2.out.size, HB2.out.block⟩)
        go_wp2_with fail
        rw [← hW2]
        rw [← hW2] at hbx
        have HWZ : Hid (W2.heap.size = wr.heap.size + 1) := hide (by rw [hW2]; simp)
        clear hW2 e0 e1 e2 e3 e4
        obtain ⟨y0, y1, y2, y3, y4, -⟩ := cells5 hbx
        clear hbx
        cases q1 : keyB z.key with
        | false =>
          have HKY : Hid (∀ W, _) := hide (fun W => skey_is q1 W)
          have HV := hide (HBAD.out (by rw [HOK.out]; unfold entOk; rw [q1]; simp))
          clear HOK HBAD HO
          refine wp_region_quiet_lit (by kernel_rfl) (by kernel_rfl) ?_
          repeat (
            with_reducible refine wpQuiet_step (fun K hK => ?_)
            go_simp
            first
              | (with_reducible refine hK _ ?_; clear hK K)
              | (rw [if_neg (by simp [undef])]; with_reducible refine hK _ ?_; clear hK K)
              | (apply Exists.intro; refine ⟨fun _ => ?_, hK _ ?_⟩; (first | (go_at_call 106; with_reducible exact Calls.quiet_of_same (HKY.out _))); clear hK K))
          with_reducible refine wpQuiet_nil ?_
          intro _ hw'
          obtain ⟨nq, hw''⟩ := hw'
          subst hw''
          go_wp2
          go_ret
          exact ⟨by rw [HV.out]; rfl, HB3.out _⟩
        | true =>
          have HKY : Hid (∀ W, _) := hide (fun W => skey_is q1 W)
          cases q2 : decide ((1 : Int) ≤ z.seg ∧ z.seg ≤ 100000) with
          | false =>
            have HI1 : Hid (∀ W, _) := hide (fun W => in_no q2 W)
            have HV := hide (HBAD.out (by rw [HOK.out]; unfold entOk; rw [q1, q2]; simp))
            clear HOK HBAD HO
            refine wp_region_quiet_lit (by kernel_rfl) (by kernel_rfl) ?_
            repeat (
              with_reducible refine wpQuiet_step (fun K hK => ?_)
              go_simp
              first
                | (with_reducible refine hK _ ?_; clear hK K)
                | (rw [if_neg (by simp [undef])]; with_reducible refine hK _ ?_; clear hK K)
                | (apply Exists.intro; refine ⟨fun _ => ?_, hK _ ?_⟩; (first | (go_at_call 106; with_reducible exact Calls.quiet_of_same (HKY.out _)) | (go_at_call 72; with_reducible exact Calls.quiet_of_same (HI1.out _))); clear hK K))
            with_reducible refine wpQuiet_nil ?_
            intro _ hw'
            obtain ⟨nq, hw''⟩ := hw'
            subst hw''
            go_wp2
            go_ret
            exact ⟨by rw [HV.out]; rfl, HB3.out _⟩
          | true =>
            have HI1 : Hid (∀ W, _) := hide (fun W => in_yes q2 W)
            cases q3 : decide ((0 : Int) ≤ z.pos) with
            | false =>
              have t3 : decide (z.pos < 0) = true := by have := of_decide_eq_false q3; simp; omega
              have HV := hide (HBAD.out (by rw [HOK.out]; unfold entOk; rw [q1, q2, q3]; simp))
              clear HOK HBAD HO
              refine wp_region_quiet_lit (by kernel_rfl) (by kernel_rfl) ?_
              repeat (
                with_reducible refine wpQuiet_step (fun K hK => ?_)
                go_simp
                first
                  | (with_reducible refine hK _ ?_; clear hK K)
                  | (rw [if_neg (by simp [undef])]; with_reducible refine hK _ ?_; clear hK K)
                  | (apply Exists.intro; refine ⟨fun _ => ?_, hK _ ?_⟩; (first | (go_at_call 106; with_reducible exact Calls.quiet_of_same (HKY.out _)) | (go_at_call 72; with_reducible exact Calls.quiet_of_same (HI1.out _))); clear hK K))
              with_reducible refine wpQuiet_nil ?_
              intro _ hw'
              obtain ⟨nq, hw''⟩ := hw'
              subst hw''
              go_wp2
              go_ret
              exact ⟨by rw [HV.out]; rfl, HB3.out _⟩
            | true =>
              have t3 : decide (z.pos < 0) = false := by have := of_decide_eq_true q3; simp; omega
              cases q4 : decide ((1 : Int) ≤ z.len ∧ z.len ≤ 210) with
              | false =>
                have HI2 : Hid (∀ W, _) := hide (fun W => in_no q4 W)
                have HV := hide (HBAD.out (by rw [HOK.out]; unfold entOk; rw [q1, q2, q3, q4]; simp))
                clear HOK HBAD HO
                refine wp_region_quiet_lit (by kernel_rfl) (by kernel_rfl) ?_
                repeat (
                  with_reducible refine wpQuiet_step (fun K hK => ?_)
                  go_simp
                  first
                    | (with_reducible refine hK _ ?_; clear hK K)
                    | (rw [if_neg (by simp [undef])]; with_reducible refine hK _ ?_; clear hK K)
                    | (apply Exists.intro; refine ⟨fun _ => ?_, hK _ ?_⟩; (first | (go_at_call 106; with_reducible exact Calls.quiet_of_same (HKY.out _)) | (go_at_call 72; with_reducible exact Calls.quiet_of_same (HI1.out _)) | (go_at_call 72; with_reducible exact Calls.quiet_of_same (HI2.out _))); clear hK K))
                with_reducible refine wpQuiet_nil ?_
                intro _ hw'
                obtain ⟨nq, hw''⟩ := hw'
                subst hw''
                go_wp2
                go_ret
                exact ⟨by rw [HV.out]; rfl, HB3.out _⟩
              | true =>
                have HI2 : Hid (∀ W, _) := hide (fun W => in_yes q4 W)
                cases q5 : decide ((1 : Int) ≤ z.bat ∧ z.bat ≤ 1000000) with
                | false =>
                  have HI3 : Hid (∀ W, _) := hide (fun W => in_no q5 W)
                  have HV := hide (HBAD.out (by rw [HOK.out]; unfold entOk; rw [q1, q2, q3, q4, q5]; simp))
                  clear HOK HBAD HO
                  refine wp_region_quiet_lit (by kernel_rfl) (by kernel_rfl) ?_
                  repeat (
                    with_reducible refine wpQuiet_step (fun K hK => ?_)
                    go_simp
                    first
                      | (with_reducible refine hK _ ?_; clear hK K)
                      | (rw [if_neg (by simp [undef])]; with_reducible refine hK _ ?_; clear hK K)
                      | (apply Exists.intro; refine ⟨fun _ => ?_, hK _ ?_⟩; (first | (go_at_call 106; with_reducible exact Calls.quiet_of_same (HKY.out _)) | (go_at_call 72; with_reducible exact Calls.quiet_of_same (HI1.out _)) | (go_at_call 72; with_reducible exact Calls.quiet_of_same (HI2.out _)) | (go_at_call 72; with_reducible exact Calls.quiet_of_same (HI3.out _))); clear hK K))
                  with_reducible refine wpQuiet_nil ?_
                  intro _ hw'
                  obtain ⟨nq, hw''⟩ := hw'
                  subst hw''
                  go_wp2
                  go_ret
                  exact ⟨by rw [HV.out]; rfl, HB3.out _⟩
                | true =>
                  have HI3 : Hid (∀ W, _) := hide (fun W => in_yes q5 W)
                  have HEN : Hid (entOk z = true) := hide (by unfold entOk; rw [q1, q2, q3, q4, q5]; rfl)
                  rw [HEN.out] at HOK
                  clear q1 q2 q3 q4 q5
                  by_cases k0 : k = 0
                  · subst k0
                    have HA2 : Hid (∀ j, j < 0 + 1 → okAt xs j = true) := hide (fun j hj => by obtain rfl : j = 0 := (by omega); rw [HOK.out]; rfl)
                    have kz : decide ((0 : Int) < ((0 : Nat) : Int)) = false := by simp
                    clear HOK HBAD HO
                    refine wp_region_quiet_lit (by kernel_rfl) (by kernel_rfl) ?_
                    repeat (
                      with_reducible refine wpQuiet_step (fun K hK => ?_)
                      go_simp
                      first
                        | (with_reducible refine hK _ ?_; clear hK K)
                        | (rw [if_neg (by simp [undef])]; with_reducible refine hK _ ?_; clear hK K)
                        | (apply Exists.intro; refine ⟨fun _ => ?_, hK _ ?_⟩; (first | (go_at_call 106; with_reducible exact Calls.quiet_of_same (HKY.out _)) | (go_at_call 72; with_reducible exact Calls.quiet_of_same (HI1.out _)) | (go_at_call 72; with_reducible exact Calls.quiet_of_same (HI2.out _)) | (go_at_call 72; with_reducible exact Calls.quiet_of_same (HI3.out _))); clear hK K))
                    with_reducible refine wpQuiet_nil ?_
                    intro _ hw'
                    obtain ⟨nq, hw''⟩ := hw'
                    subst hw''
                    go_wp2
                    go_roundw
                    case rel => exact ⟨1, by omega, by go_num, HA2, hide (HB3.out _)⟩
                    case measure => first | (simp [intOf]; done) | (simp [intOf]; omega)
                  · obtain ⟨j, rfl⟩ : ∃ j, k = j + 1 := ⟨k - 1, by omega⟩
                    have hjf : j < xs.length := by omega
                    obtain ⟨b', o', q0, -, p1, -, -, -, -⟩ := ent_cells (HR.out.later HB2.out) j hjf
                    simp only [Option.some.injEq, Addr.mk.injEq] at q0
                    obtain ⟨rfl, rfl, -⟩ := q0
                    have HOK2 : Hid (okAt xs (j + 1) = klt (xs[j]).key z.key) := hide (by rw [HOK.out, show j + 1 - 1 = j from rfl, getD_at hjf]; simp)
                    obtain ⟨y, hy⟩ : ∃ y, xs[j] = y := ⟨_, rfl⟩
                    rw [hy] at p1 HOK2
                    have hj3 : j < n := by omega
                    have x1 : (0 : Int) ≤ (j : Int) + 1 := by omega
                    have x2 : (j : Int) + 1 < (n : Int) := by omega
                    have x3 : ((j : Int) + 1).toNat = j + 1 := by omega
                    have x4 : (0 : Int) < (j : Int) + 1 := by omega
                    have x5 : (j : Int) < (n : Int) := by omega
                    have x6 : IntKind.i64.wrap (j : Int) = (j : Int) := by rw [IntKind.wrap_i64]; omega
                    have x8 : IntKind.i64.wrap ((j : Int) + 1 - 1) = (j : Int) := by rw [IntKind.wrap_i64]; omega
                    clear hy HOK hk2 k0
                    cases q6 : klt y.key z.key with
                    | false =>
                      have HV := hide (HBAD.out (by rw [HOK2.out, q6]))
                      have t6 : (Op.bytesLess z.key.toList y.key.toList || z.key.toList == y.key.toList) = true := by
                        by_cases hq : z.key = y.key
                        · rw [str_eq _ _ hq]; simp
                        · rw [show Op.bytesLess z.key.toList y.key.toList = true from klt_other q6 hq]; rfl
                      clear HOK2 HBAD HO q6
                      refine wp_region_quiet_lit (by kernel_rfl) (by kernel_rfl) ?_
                      repeat (
                        with_reducible refine wpQuiet_step (fun K hK => ?_)
                        go_simp
                        first
                          | (with_reducible refine hK _ ?_; clear hK K)
                          | (rw [if_neg (by simp [undef])]; with_reducible refine hK _ ?_; clear hK K)
                          | (apply Exists.intro; refine ⟨fun _ => ?_, hK _ ?_⟩; (first | (go_at_call 106; with_reducible exact Calls.quiet_of_same (HKY.out _)) | (go_at_call 72; with_reducible exact Calls.quiet_of_same (HI1.out _)) | (go_at_call 72; with_reducible exact Calls.quiet_of_same (HI2.out _)) | (go_at_call 72; with_reducible exact Calls.quiet_of_same (HI3.out _))); clear hK K))
                      with_reducible refine wpQuiet_nil ?_
                      intro _ hw'
                      obtain ⟨nq, hw''⟩ := hw'
                      subst hw''
                      go_wp2
                      go_ret
                      exact ⟨by rw [HV.out]; rfl, HB3.out _⟩
                    | true =>
                      have HA2 : Hid (∀ i, i < j + 1 + 1 → okAt xs i = true) := hide (fun i hi => by
                        by_cases h : i = j + 1
                        · rw [h, HOK2.out, q6]
                        · exact HO.out i (by omega))
                      have t6 : (Op.bytesLess z.key.toList y.key.toList || z.key.toList == y.key.toList) = false := by
                        rw [show Op.bytesLess z.key.toList y.key.toList = false from klt_asymm q6, str_ne _ _ (fun e => klt_ne q6 e.symm)]; rfl
                      clear HOK2 HBAD HO q6
                      refine wp_region_quiet_lit (by kernel_rfl) (by kernel_rfl) ?_
                      repeat (
                        with_reducible refine wpQuiet_step (fun K hK => ?_)
                        go_simp
                        first
                          | (with_reducible refine hK _ ?_; clear hK K)
                          | (rw [if_neg (by simp [undef])]; with_reducible refine hK _ ?_; clear hK K)
                          | (apply Exists.intro; refine ⟨fun _ => ?_, hK _ ?_⟩; (first | (go_at_call 106; with_reducible exact Calls.quiet_of_same (HKY.out _)) | (go_at_call 72; with_reducible exact Calls.quiet_of_same (HI1.out _)) | (go_at_call 72; with_reducible exact Calls.quiet_of_same (HI2.out _)) | (go_at_call 72; with_reducible exact Calls.quiet_of_same (HI3.out _))); clear hK K))
                      with_reducible refine wpQuiet_nil ?_
                      intro _ hw'
                      obtain ⟨nq, hw''⟩ := hw'
                      subst hw''
                      go_wp2
                      go_roundw
                      case rel => exact ⟨j + 1 + 1, by omega, by go_num, HA2, hide (HB3.out _)⟩
                      case measure => first | (simp [intOf]; done) | (simp [intOf]; omega)
      · obtain rfl : k = n := by omega
        have HV : Hid (dirOk xs = true) := hide (dirOk_yes (by omega) (by rw [hlen]; exact HO.out))
        clear HO
        go_wp2
        go_ret
        exact ⟨by rw [HV.out]; rfl, HB.out⟩
  · have t20 : decide ((20 : Int) < (n : Int)) = true := by simp; omega
    have HV : Hid (dirOk xs = false) := hide (by unfold dirOk; rw [decide_eq_false (by omega)]; rfl)
    go_enter Tryz.func73, Tryz.ntmps73
    go_wp2
    go_ret
    exact ⟨by rw [HV.out]; rfl, Below.refl _ _⟩

end Go.Proofs.YtimpokbcfjgdaaaGreatDoor
namespace Go.Proofs.YtimpokbcfjgdaaaGreatDoor
open Go.RowKit
open Plain

def RiseE (xs : List EntV) : Prop := xs.Pairwise (fun a b => klt a.key b.key = true)
theorem okAt_of {xs : List EntV} (h : dirOk xs = true) (i : Nat) (hi : i < xs.length) : okAt xs i = true := by
  unfold dirOk at h
  rw [Bool.and_eq_true] at h
  exact List.all_eq_true.1 h.2 i (by simpa using hi)
theorem len_of {xs : List EntV} (h : dirOk xs = true) : xs.length ≤ 20 := by
  unfold dirOk at h
  rw [Bool.and_eq_true] at h
  exact of_decide_eq_true h.1
theorem entOk_of {xs : List EntV} (h : dirOk xs = true) : ∀ x, x ∈ xs → entOk x = true := by
  intro x hx
  obtain ⟨i, hi, rfl⟩ := List.mem_iff_getElem.1 hx
  have h1 := okAt_of h i hi
  unfold okAt at h1
  rw [getD_at hi, Bool.and_eq_true] at h1
  exact h1.1
theorem rise_of {xs : List EntV} (h : dirOk xs = true) : RiseE xs := by
  have step : ∀ i, (hi : i + 1 < xs.length) → klt (xs[i]).key (xs[i + 1]).key = true := fun i hi => by
    have h1 := okAt_of h (i + 1) hi
    unfold okAt at h1
    rw [getD_at hi, show i + 1 - 1 = i from rfl, getD_at (show i < xs.length by omega), Bool.and_eq_true, Bool.or_eq_true] at h1
    rcases h1.2 with h2 | h2
    · simp at h2
    · exact h2
  have far : ∀ k i, (hi : i + k + 1 < xs.length) → klt (xs[i]).key (xs[i + k + 1]).key = true := by
    intro k
    induction k with
    | zero => intro i hi; exact step i hi
    | succ k ih => intro i hi; exact klt_trans (ih i (by omega)) (step (i + k + 1) hi)
  unfold RiseE
  rw [List.pairwise_iff_getElem]
  intro i j hi hj hij
  obtain ⟨k, rfl⟩ : ∃ k, j = i + k + 1 := ⟨j - i - 1, by omega⟩
  exact far k i hj
theorem dirOk_of {xs : List EntV} (h1 : xs.length ≤ 20) (h2 : ∀ x, x ∈ xs → entOk x = true) (h3 : RiseE xs) : dirOk xs = true := by
  refine dirOk_yes h1 (fun i hi => ?_)
  unfold okAt
  rw [getD_at hi, h2 _ (List.getElem_mem hi), Bool.true_and, Bool.or_eq_true]
  by_cases h0 : i = 0
  · exact .inl (decide_eq_true h0)
  · refine .inr ?_
    rw [getD_at (show i - 1 < xs.length by omega)]
    exact List.pairwise_iff_getElem.1 h3 (i - 1) i (by omega) hi (by omega)
theorem mem_dropE {xs : List EntV} {key : ByteArray} {x : EntV} : x ∈ dropE xs key ↔ x ∈ xs ∧ ¬ x.key = key := by
  unfold dropE
  rw [List.mem_filter]
  simp
theorem mem_insE {xs : List EntV} {p x : EntV} : x ∈ insE xs p ↔ x = p ∨ x ∈ xs := by
  induction xs with
  | nil => simp [insE]
  | cons a r ih =>
    rw [insE]
    split
    · rw [List.mem_cons]
    · rw [List.mem_cons, ih, List.mem_cons]
      constructor
      · rintro (h | h | h)
        · exact .inr (.inl h)
        · exact .inl h
        · exact .inr (.inr h)
      · rintro (h | h | h)
        · exact .inr (.inl h)
        · exact .inl h
        · exact .inr (.inr h)
theorem rise_insE {xs : List EntV} {p : EntV} (h : RiseE xs) (hn : ∀ x, x ∈ xs → ¬ x.key = p.key) : RiseE (insE xs p) := by
  induction xs with
  | nil => exact List.pairwise_singleton _ _
  | cons a r ih =>
    obtain ⟨h1, h2⟩ := List.pairwise_cons.1 h
    rw [insE]
    split
    · rename_i hk
      refine List.pairwise_cons.2 ⟨fun b hb => ?_, h⟩
      rcases List.mem_cons.1 hb with rfl | hb
      · exact hk
      · exact klt_trans hk (h1 b hb)
    · rename_i hk
      refine List.pairwise_cons.2 ⟨fun b hb => ?_, ih h2 (fun x hx => hn x (List.mem_cons_of_mem _ hx))⟩
      rcases mem_insE.1 hb with rfl | hb
      · exact klt_other (by simpa using hk) (hn a List.mem_cons_self)
      · exact h1 b hb
theorem getE_mem {xs : List EntV} (h : RiseE xs) {z : EntV} (hz : z ∈ xs) : getE xs z.key = some z := by
  induction xs with
  | nil => simp at hz
  | cons a r ih =>
    obtain ⟨h1, h2⟩ := List.pairwise_cons.1 h
    unfold getE
    by_cases he : a.key = z.key
    · rw [List.find?_cons_of_pos (by simpa using he)]
      rcases List.mem_cons.1 hz with rfl | hz
      · rfl
      · exact absurd he (klt_ne (h1 z hz))
    · rw [List.find?_cons_of_neg (by simpa using he)]
      rcases List.mem_cons.1 hz with rfl | hz
      · exact absurd rfl he
      · exact ih h2 hz
theorem getE_not {xs : List EntV} {key : ByteArray} (h : ∀ x, x ∈ xs → ¬ x.key = key) : getE xs key = none := by
  unfold getE
  rw [List.find?_eq_none]
  intro x hx
  simpa using h x hx
theorem dropE_self {xs : List EntV} {key : ByteArray} (h : ∀ x, x ∈ xs → ¬ x.key = key) : dropE xs key = xs := by
  unfold dropE
  rw [List.filter_eq_self]
  intro x hx
  simpa using h x hx
theorem dropE_insE (xs : List EntV) (p : EntV) : dropE (insE xs p) p.key = dropE xs p.key := by
  induction xs with
  | nil => simp [insE, dropE]
  | cons a r ih =>
    unfold dropE at ih ⊢
    rw [insE]
    split
    · rw [List.filter_cons_of_neg (by simp)]
    · by_cases he : a.key = p.key
      · rw [List.filter_cons_of_neg (by simpa using he), List.filter_cons_of_neg (by simpa using he), ih]
      · rw [List.filter_cons_of_pos (by simpa using he), List.filter_cons_of_pos (by simpa using he), ih]

/-- What the law asks of a right directory l, an entry p. -/
structure DirsP (l : List EntV) (p : EntV) : Prop where
  got : getE (putE l p) p.key = some p
  gone : getE (dropE (putE l p) p.key) p.key = none
  ok : dirOk (dropE (putE l p) p.key) = true
  len : (putE l p).length = (dropE (putE l p) p.key).length + 1
  there : ∀ z, z ∈ l → ¬ z.key = p.key → getE (putE l p) z.key = some z
  still : ∀ z, z ∈ l → ¬ z.key = p.key → getE (dropE (putE l p) p.key) z.key = some z
  rise : RiseE (putE l p)
  again : putE (putE l p) p = putE l p
  small : (putE l p).length ≤ 21
theorem dirs_of {l : List EntV} (h : dirOk l = true) (p : EntV) : DirsP l p := by
  have hn : ∀ x, x ∈ dropE l p.key → ¬ x.key = p.key := fun x hx => (mem_dropE.1 hx).2
  have hd : dropE (putE l p) p.key = dropE l p.key := by unfold putE; rw [dropE_insE, dropE_self hn]
  have hr : RiseE (dropE l p.key) := (rise_of h).sublist List.filter_sublist
  have hrp : RiseE (putE l p) := rise_insE hr hn
  have hl := len_of h
  have hdl := dropE_len l p.key
  have hpl : (putE l p).length = (dropE l p.key).length + 1 := insE_len _ _
  refine ⟨getE_mem hrp (mem_insE.2 (.inl rfl)), ?_, ?_, ?_, fun z hz hk => getE_mem hrp (mem_insE.2 (.inr (mem_dropE.2 ⟨hz, hk⟩))), ?_, hrp, ?_, by omega⟩
  · rw [hd]; exact getE_not hn
  · rw [hd]; exact dirOk_of (by omega) (fun x hx => entOk_of h x (mem_dropE.1 hx).1) hr
  · rw [hd, hpl]
  · intro z hz hk
    rw [hd]
    exact getE_mem hr (mem_dropE.2 ⟨hz, hk⟩)
  · show insE (dropE (putE l p) p.key) p = putE l p
    rw [hd]
    rfl

end Go.Proofs.YtimpokbcfjgdaaaGreatDoor
