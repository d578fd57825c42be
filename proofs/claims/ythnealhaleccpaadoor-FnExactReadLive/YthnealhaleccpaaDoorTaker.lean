/-
  impl's taker: what it holds, and what its three methods take from the front of a text.
-/
import Derived.Test.YthnealhaleccpaaDoorRecNum
import Derived.BigQuiet
import Derived.Deep.QuietTactic
namespace Go.Proofs.YthnealhaleccpaaDoor
open Go.RowKit
open Plain

/-- Block B, which w does not have, holds the taker: what is left, and whether a piece was missing; what was there in w is untouched. -/
structure TkAt (w : World) (B : Nat) (s : ByteArray) (f : Bool) (W : World) : Prop where
  row : W.heap[B]? = some (.cells #[.string s, .bool f] 57 (0, 0))
  new : w.heap.size ≤ B
  bel : Below w.heap.size w W
theorem TkAt.cells {w : World} {B : Nat} {s : ByteArray} {f : Bool} {W : World} (h : TkAt w B s f W) : W.cell? ⟨B, 0, none⟩ = some (.string s) ∧ W.cell? ⟨B, 1, none⟩ = some (.bool f) := by
  refine ⟨?_, ?_⟩ <;> (rw [cell_of_row W B _ _ _ _ h.row]; rfl)
theorem TkAt.free {w : World} {B : Nat} {s : ByteArray} {f : Bool} {W : World} (h : TkAt w B s f W) (j : Nat) : W.frozen? ⟨B, j, none⟩ = false := by simp [World.frozen?, h.row]
theorem TkAt.later {w : World} {B : Nat} {s : ByteArray} {f : Bool} {W W' : World} (h : TkAt w B s f W) (hb : Below W.heap.size W W') : TkAt w B s f W' :=
  ⟨(hb.block _ (lt_of_block h.row)).trans h.row, h.new, h.bel.trans (hb.mono h.bel.size)⟩
theorem TkAt.rest {w : World} {B : Nat} {s : ByteArray} {f : Bool} {W : World} (h : TkAt w B s f W) (t : ByteArray) : TkAt w B t f (W.setCell ⟨B, 0, none⟩ (.string t)) := by
  rw [setCell_eq_setRow W B 0 _ _ _ _ h.row]
  exact ⟨setRow_heap W B _ _ _ _ h.row, h.new, below_setRow h.bel h.new _⟩
theorem TkAt.fail {w : World} {B : Nat} {s : ByteArray} {f : Bool} {W : World} (h : TkAt w B s f W) (g : Bool) : TkAt w B s g (W.setCell ⟨B, 1, none⟩ (.bool g)) := by
  rw [setCell_eq_setRow W B 1 _ _ _ _ h.row]
  exact ⟨setRow_heap W B _ _ _ _ h.row, h.new, below_setRow h.bel h.new _⟩

set_option maxRecDepth 100000 in
set_option maxHeartbeats 1000000 in
theorem tkNum_any (w W : World) (B : Nat) (s : ByteArray) (f : Bool) (h : TkAt w B s f W) (hs : s.size ≤ 1048576) :
    Calls Tryd.prog 53 #[.pointer (some ⟨B, 0, none⟩)] W fun e w' => e = .returned (.int .i64 ((rv s).1 : Nat)) ∧ TkAt w B (numT s) (f || decide ((rv s).2 = 0)) w' := by
  obtain ⟨c0, c1⟩ := h.cells
  have f0 := h.free 0
  have f1 := h.free 1
  have HR := hide (implRV_any s hs)
  have HT : Hid (numT s = s.extract (rv s).2 s.size) := hide rfl
  have hbd := rv_bd s
  have HA := hide h
  clear h
  generalize (rv s).1 = n at *
  generalize (rv s).2 = k at *
  obtain ⟨-, -, hk⟩ := hbd
  by_cases h0 : k = 0
  · have t0 : ((k : Int) == 0) = true := by simpa using h0
    have HF : Hid ((f || decide (k = 0)) = true) := hide (by simp [h0])
    clear h0
    go_enter Tryd.func53, Tryd.ntmps53
    go_wp2_with (go_at_call 62; refine (HR.out _).mono ?_; rintro e w1 ⟨rfl, rfl⟩)
    go_ret
    refine ⟨rfl, ?_⟩
    rw [HF.out, HT.out]
    exact (HA.out.fail true).rest _
  · have t0 : ((k : Int) == 0) = false := by simpa using h0
    have HF : Hid ((f || decide (k = 0)) = f) := hide (by simp [h0])
    clear h0
    go_enter Tryd.func53, Tryd.ntmps53
    go_wp2_with (go_at_call 62; refine (HR.out _).mono ?_; rintro e w1 ⟨rfl, rfl⟩)
    go_ret
    refine ⟨rfl, ?_⟩
    rw [HF.out, HT.out]
    exact HA.out.rest _

set_option maxRecDepth 100000 in
set_option maxHeartbeats 1000000 in
theorem tkText_any (w W : World) (B : Nat) (s : ByteArray) (f : Bool) (h : TkAt w B s f W) (hs : s.size ≤ 1048576) :
    Calls Tryd.prog 52 #[.pointer (some ⟨B, 0, none⟩)] W fun e w' => e = .returned (.string (txtV s)) ∧ TkAt w B (txtR s) (f || txtF s) w' := by
  have HN := hide (tkNum_any w W B s f h hs)
  have hz : (numT s).size ≤ s.size := by rw [numT_size]; omega
  have hbd := rv_bd s
  by_cases hlt : (numT s).size < (rv s).1
  · have t1 : decide (((numT s).size : Int) < ((rv s).1 : Int)) = true := by simp; omega
    have HV : Hid (txtV s = ⟨#[]⟩ ∧ txtR s = numT s ∧ (f || txtF s) = true) := hide (by unfold txtV txtR txtF; rw [if_pos hlt, if_pos hlt]; simp [hlt])
    clear h
    generalize (f || decide ((rv s).2 = 0)) = g at *
    generalize (rv s).1 = n at *
    generalize (rv s).2 = k at *
    generalize numT s = s1 at *
    go_enter Tryd.func52, Tryd.ntmps52
    go_wp2_with fail
    refine HN.out.mono ?_
    rintro e w1 ⟨rfl, h1⟩
    obtain ⟨c0, c1⟩ := h1.cells
    have f0 := h1.free 0
    have f1 := h1.free 1
    have HA := hide h1
    clear h1 HN
    go_wp2
    go_ret
    obtain ⟨e1, e2, e3⟩ := HV.out
    rw [e1, e2, e3]
    exact ⟨rfl, HA.out.fail true⟩
  · have t1 : decide (((numT s).size : Int) < ((rv s).1 : Int)) = false := by simp; omega
    have hle : (rv s).1 ≤ (numT s).size := by omega
    have HV : Hid (txtV s = (numT s).extract 0 (rv s).1 ∧ txtR s = (numT s).extract (rv s).1 (numT s).size ∧ (f || txtF s) = (f || decide ((rv s).2 = 0))) := hide (by unfold txtV txtR txtF; rw [if_neg hlt, if_neg hlt]; simp [hlt])
    clear h
    generalize (f || decide ((rv s).2 = 0)) = g at *
    generalize (rv s).1 = n at *
    generalize (rv s).2 = k at *
    generalize numT s = s1 at *
    go_enter Tryd.func52, Tryd.ntmps52
    go_wp2_with fail
    refine HN.out.mono ?_
    rintro e w1 ⟨rfl, h1⟩
    obtain ⟨c0, c1⟩ := h1.cells
    have f0 := h1.free 0
    have f1 := h1.free 1
    have HA := hide h1
    clear h1 HN
    go_wp2
    go_ret
    obtain ⟨e1, e2, e3⟩ := HV.out
    rw [e1, e2, e3]
    exact ⟨rfl, HA.out.rest _⟩

set_option maxRecDepth 100000 in
set_option maxHeartbeats 1000000 in
theorem tkSum_any (w W : World) (B : Nat) (s : ByteArray) (f : Bool) (h : TkAt w B s f W) (hs : s.size ≤ 1048576) :
    Calls Tryd.prog 51 #[.pointer (some ⟨B, 0, none⟩)] W fun e w' => e = .returned (.int .i64 (sumV s : Nat)) ∧ TkAt w B (sumR s) (f || sumF s) w' := by
  obtain ⟨c0, c1⟩ := h.cells
  have f0 := h.free 0
  have f1 := h.free 1
  have HA := hide h
  have HR := hide (implRF4_any s hs)
  clear h
  by_cases h4 : 4 ≤ s.size
  · have hF : sumF s = false := decide_eq_false (by omega)
    have HV : Hid (sumR s = s.extract 4 s.size) := hide (by unfold sumR; rw [if_pos h4])
    rw [hF] at HR ⊢
    rw [Bool.or_false]
    generalize sumV s = n at *
    clear hF
    go_enter Tryd.func51, Tryd.ntmps51
    go_wp2_with (go_at_call 61; refine (HR.out _).mono ?_; rintro e w1 ⟨rfl, rfl⟩)
    go_ret
    rw [HV.out]
    exact ⟨rfl, HA.out.rest _⟩
  · have hF : sumF s = true := decide_eq_true (by omega)
    have HV : Hid (sumR s = s ∧ sumV s = 0) := hide (by unfold sumR sumV; rw [if_neg h4, if_neg h4]; exact ⟨rfl, rfl⟩)
    rw [hF] at HR ⊢
    rw [Bool.or_true]
    generalize sumV s = n at *
    clear hF
    go_enter Tryd.func51, Tryd.ntmps51
    go_wp2_with (go_at_call 61; refine (HR.out _).mono ?_; rintro e w1 ⟨rfl, rfl⟩)
    go_ret
    obtain ⟨e1, e2⟩ := HV.out
    rw [e1, e2]
    exact ⟨rfl, HA.out.fail true⟩

end Go.Proofs.YthnealhaleccpaaDoor
