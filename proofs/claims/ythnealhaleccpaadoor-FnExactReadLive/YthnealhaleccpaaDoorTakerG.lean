/-
  impl's taker's number: all blocks but the taker's own stand.
-/
import Derived.Test.YthnealhaleccpaaDoorTaker
namespace Go.Proofs.YthnealhaleccpaaDoor
open Go.RowKit
open Plain

theorem grown_set {w v : World} {B : Nat} (h : w.grownBy v (some B)) (p : Addr) (hp : p.block = B) (u : Value) : w.grownBy (v.setCell p u) (some B) :=
  ⟨h.os, h.tape, h.output, by simpa using h.size, fun k hk hr => (Below.heap_setCell v p u k (fun e => hr (by rw [e, hp]))).trans (h.block k hk hr)⟩

set_option maxRecDepth 100000 in
set_option maxHeartbeats 1000000 in
theorem tkNum_g (w W : World) (B : Nat) (s : ByteArray) (f : Bool) (h : TkAt w B s f W) (hs : s.size ≤ 1048576) :
    Calls Tryd.prog 53 #[.pointer (some ⟨B, 0, none⟩)] W fun e w' => e = .returned (.int .i64 ((rv s).1 : Nat)) ∧ TkAt w B (numT s) (f || decide ((rv s).2 = 0)) w' ∧ W.grownBy w' (some B) := by
  obtain ⟨c0, c1⟩ := h.cells
  have f0 := h.free 0
  have f1 := h.free 1
  have HR := hide (implRV_any s hs)
  have HT : Hid (numT s = s.extract (rv s).2 s.size) := hide rfl
  have hbd := rv_bd s
  have HA := hide h
  have HG : Hid (W.grownBy W (some B)) := hide ⟨rfl, rfl, rfl, Nat.le_refl _, fun _ _ _ => rfl⟩
  clear h
  generalize (rv s).1 = n at *
  generalize (rv s).2 = k at *
  obtain ⟨-, -, hk⟩ := hbd
  by_cases h0 : k = 0
  · have t0 : ((k : Int) == 0) = true := by simpa using h0
    have HF : Hid ((f || decide (k = 0)) = true) := hide (by simp [h0])
    clear h0
    go_enter Tryd.func53, Tryd.ntmps53
    go_wp2_with (go_at_call 62; refine (HR.out _).mono ?_; rintro e w1 ⟨rfl, rfl⟩)
    go_ret
    refine ⟨rfl, ?_, grown_set (grown_set HG.out _ rfl _) _ rfl _⟩
    rw [HF.out, HT.out]
    exact (HA.out.fail true).rest _
  · have t0 : ((k : Int) == 0) = false := by simpa using h0
    have HF : Hid ((f || decide (k = 0)) = f) := hide (by simp [h0])
    clear h0
    go_enter Tryd.func53, Tryd.ntmps53
    go_wp2_with (go_at_call 62; refine (HR.out _).mono ?_; rintro e w1 ⟨rfl, rfl⟩)
    go_ret
    refine ⟨rfl, ?_, grown_set HG.out _ rfl _⟩
    rw [HF.out, HT.out]
    exact HA.out.rest _

end Go.Proofs.YthnealhaleccpaaDoor
