/-
  impl.takeBody: what follows kind and batch, taken from the front of a text.
-/
import Derived.Test.YtkcjlalkniaapaaDoorTaker
namespace Go.Proofs.YtkcjlalkniaapaaDoor
open Go.RowKit
open Plain

set_option maxRecDepth 100000 in
set_option maxHeartbeats 1000000 in
theorem takeBody_1 (w W : World) (B : Nat) (s : ByteArray) (f : Bool) (h : TkAt w B s f W) (hs : s.size ≤ 1048576) :
    Calls Tryd.prog 78 #[.pointer (some ⟨B, 0, none⟩), .int .i64 1] W fun e w' => e = .returned (.iface 133 (.agg #[.string (txtV s), .string (txtV (txtR s))])) ∧ TkAt w B (txtR (txtR s)) (f || txtF s || txtF (txtR s)) w' := by
  have HA := hide h
  clear h
  go_enter Tryd.func78, Tryd.ntmps78
  go_wp2_with fail
  refine (tkText_any w W B s f HA.out hs).mono ?_
  rintro e w1 ⟨rfl, h1⟩
  have H1 := hide h1
  clear h1 HA
  go_wp2_with fail
  refine (tkText_any w w1 B (txtR s) (f || txtF s) H1.out (by have := txtR_size s; omega)).mono ?_
  rintro e w2 ⟨rfl, h2⟩
  have H2 := hide h2
  clear h2 H1
  go_wp2
  go_ret
  exact ⟨rfl, H2.out⟩

set_option maxRecDepth 100000 in
set_option maxHeartbeats 1000000 in
theorem takeBody_4 (w W : World) (B : Nat) (s : ByteArray) (f : Bool) (h : TkAt w B s f W) (hs : s.size ≤ 1048576) :
    Calls Tryd.prog 78 #[.pointer (some ⟨B, 0, none⟩), .int .i64 4] W fun e w' => e = .returned (.iface 138 (.agg #[.string (txtV s), .string (txtV (txtR s))])) ∧ TkAt w B (txtR (txtR s)) (f || txtF s || txtF (txtR s)) w' := by
  have HA := hide h
  clear h
  go_enter Tryd.func78, Tryd.ntmps78
  go_wp2_with fail
  refine (tkText_any w W B s f HA.out hs).mono ?_
  rintro e w1 ⟨rfl, h1⟩
  have H1 := hide h1
  clear h1 HA
  go_wp2_with fail
  refine (tkText_any w w1 B (txtR s) (f || txtF s) H1.out (by have := txtR_size s; omega)).mono ?_
  rintro e w2 ⟨rfl, h2⟩
  have H2 := hide h2
  clear h2 H1
  go_wp2
  go_ret
  exact ⟨rfl, H2.out⟩

set_option maxRecDepth 100000 in
set_option maxHeartbeats 1000000 in
theorem takeBody_3 (w W : World) (B : Nat) (s : ByteArray) (f : Bool) (h : TkAt w B s f W) (hs : s.size ≤ 1048576) :
    Calls Tryd.prog 78 #[.pointer (some ⟨B, 0, none⟩), .int .i64 3] W fun e w' => e = .returned (.iface 137 (.agg #[.int .i64 ((rv s).1 : Nat), .int .i64 (sumV (numT s) : Nat)])) ∧ TkAt w B (sumR (numT s)) (f || decide ((rv s).2 = 0) || sumF (numT s)) w' := by
  have HA := hide h
  clear h
  go_enter Tryd.func78, Tryd.ntmps78
  go_wp2_with fail
  refine (tkNum_any w W B s f HA.out hs).mono ?_
  rintro e w1 ⟨rfl, h1⟩
  have H1 := hide h1
  clear h1 HA
  go_wp2_with fail
  refine (tkSum_any w w1 B (numT s) (f || decide ((rv s).2 = 0)) H1.out (by have := numT_size s; omega)).mono ?_
  rintro e w2 ⟨rfl, h2⟩
  have H2 := hide h2
  clear h2 H1
  go_wp2
  go_ret
  exact ⟨rfl, H2.out⟩

set_option maxRecDepth 100000 in
set_option maxHeartbeats 1000000 in
theorem takeBody_5 (w W : World) (B : Nat) (s : ByteArray) (f : Bool) (h : TkAt w B s f W) (hs : s.size ≤ 1048576) :
    Calls Tryd.prog 78 #[.pointer (some ⟨B, 0, none⟩), .int .i64 5] W fun e w' => e = .returned (.iface 139 (.agg #[.int .i64 ((rv s).1 : Nat), .int .i64 (sumV (numT s) : Nat)])) ∧ TkAt w B (sumR (numT s)) (f || decide ((rv s).2 = 0) || sumF (numT s)) w' := by
  have HA := hide h
  clear h
  go_enter Tryd.func78, Tryd.ntmps78
  go_wp2_with fail
  refine (tkNum_any w W B s f HA.out hs).mono ?_
  rintro e w1 ⟨rfl, h1⟩
  have H1 := hide h1
  clear h1 HA
  go_wp2_with fail
  refine (tkSum_any w w1 B (numT s) (f || decide ((rv s).2 = 0)) H1.out (by have := numT_size s; omega)).mono ?_
  rintro e w2 ⟨rfl, h2⟩
  have H2 := hide h2
  clear h2 H1
  go_wp2
  go_ret
  exact ⟨rfl, H2.out⟩

set_option maxRecDepth 100000 in
set_option maxHeartbeats 1000000 in
theorem takeBody_2 (w W : World) (B : Nat) (s : ByteArray) (f : Bool) (h : TkAt w B s f W) (hs : s.size ≤ 1048576) :
    Calls Tryd.prog 78 #[.pointer (some ⟨B, 0, none⟩), .int .i64 2] W fun e w' => e = .returned (.iface 135 (.agg #[.string (txtV s)])) ∧ TkAt w B (txtR s) (f || txtF s) w' := by
  have HA := hide h
  clear h
  go_enter Tryd.func78, Tryd.ntmps78
  go_wp2_with fail
  refine (tkText_any w W B s f HA.out hs).mono ?_
  rintro e w1 ⟨rfl, h1⟩
  have H1 := hide h1
  clear h1 HA
  go_wp2
  go_ret
  exact ⟨rfl, H1.out⟩

set_option maxRecDepth 100000 in
set_option maxHeartbeats 1000000 in
theorem takeBody_none (k : Int) (w W : World) (B : Nat) (s : ByteArray) (f : Bool) (h : TkAt w B s f W) (k1 : k ≠ 1) (k2 : k ≠ 2) (k3 : k ≠ 3) (k4 : k ≠ 4) (k5 : k ≠ 5) :
    Calls Tryd.prog 78 #[.pointer (some ⟨B, 0, none⟩), .int .i64 k] W fun e w' => e = .returned .nilIface ∧ TkAt w B s f w' := by
  have HA := hide h
  have n1 : (k == 1) = false := by simpa using k1
  have n2 : (k == 2) = false := by simpa using k2
  have n3 : (k == 3) = false := by simpa using k3
  have n4 : (k == 4) = false := by simpa using k4
  have n5 : (k == 5) = false := by simpa using k5
  clear k1 k2 k3 k4 k5 h
  go_enter Tryd.func78, Tryd.ntmps78
  go_wp2
  go_ret
  exact ⟨rfl, HA.out⟩

end Go.Proofs.YtkcjlalkniaapaaDoor
