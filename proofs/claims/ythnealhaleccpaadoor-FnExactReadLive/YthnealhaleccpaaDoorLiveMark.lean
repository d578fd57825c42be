/-
  The laws' heldIntS, markLive and heldLive.
-/
import Derived.Test.YthnealhaleccpaaDoorIntMark
import Derived.Test.YthnealhaleccpaaDoorLiveBase
namespace Go.Proofs.YthnealhaleccpaaDoor
open Go.RowKit
open Plain

set_option maxRecDepth 100000 in
set_option maxHeartbeats 1000000 in
theorem heldIntS_any (w : World) (a : Option Addr) (n cap : Nat) (hn : n ≤ 1099511627776) (k : Nat) (hk : k ≤ 4398046511104) (hr : IRow w 0 a n (upI n k)) :
    Calls Tryd.prog 36 #[.slice a n cap, .int .i64 k] w fun e w' => e = .returned (.int .i64 (k + n : Nat)) ∧ Below w.heap.size w w' := by
  have HR := hide hr
  clear hr
  go_enter Tryd.func36, Tryd.ntmps36
  go_wp2
  go_loopw [1, 5] (fun v i wr => ∃ j : Nat, j ≤ n ∧ i = .int .i64 j ∧ v = .int .i64 (k + j : Nat) ∧ Hid (Below w.heap.size w wr)) (fun _ i _ => n - (intOf i).toNat)
  case atStart => exact ⟨0, by omega, rfl, by simp, hide (Below.refl _ _)⟩
  case round =>
    obtain ⟨j, hj, rfl, rfl, HB⟩ := hrel
    by_cases hlt : j < n
    · have hju : j < (upI n k).length := by rw [upI_length]; exact hlt
      obtain ⟨b, off, rfl, -, hbw, e1⟩ := (HR.out.later HB.out (Nat.le_refl _)).cells j hju
      have hg := upI_get n k j hlt
      rw [List.getElem?_eq_getElem hju] at hg
      injection hg with hg
      rw [hg] at e1
      have HT : Hid (((k + j : Nat) : Int) + 1 = ((k + (j + 1) : Nat) : Int)) := hide (by omega)
      have htb : k + j ≤ 8796093022208 := by omega
      clear hg hju
      generalize k + j = t at *
      go_wp2
      first
        | (go_region; go_wp2)
        | skip
      go_roundw
      case rel => exact ⟨j + 1, by omega, by go_num, by rw [HT.out], hide (by first | exact HB.out | exact HB.out.drew)⟩
      case measure => first | (simp [intOf]; done) | (simp [intOf]; omega)
    · obtain rfl : j = n := by omega
      go_wp2
      go_ret
      exact ⟨rfl, HB.out⟩

set_option maxRecDepth 100000 in
set_option maxHeartbeats 1000000 in
theorem heldLive_any (w : World) (x : Int) (a : Option Addr) (n cap : Nat) (hn : n ≤ 1048576) (k : Nat) (hk : k ≤ 1048576) (hr : IRow w 0 a n (upI n k)) :
    Calls Tryd.prog 15 #[.agg #[.int .i64 x, .slice a n cap], .int .i64 k] w fun e w' => e = .returned (.int .i64 (k + n : Nat)) ∧ Below w.heap.size w w' := by
  obtain ⟨W, hW⟩ : ∃ W, W = w.alloc (.cells #[.int .i64 x, .slice a n cap] 27) := ⟨_, rfl⟩
  have HA : Hid (LvAt w w.heap.size 27 x a n cap (upI n k) W) := hide (by rw [hW]; exact LvAt.new 27 x cap hr)
  have HH := hide (heldIntS_any W a n cap (by omega) k (by omega) HA.out.ids)
  obtain ⟨t, ht⟩ : ∃ t : Int, ((k + n : Nat) : Int) = t := ⟨_, rfl⟩
  have t0 : decide (t < 0) = false := by simp; omega
  rw [ht] at HH ⊢
  clear hr ht
  go_enter Tryd.func15, Tryd.ntmps15
  go_wp2_with fail
  rw [← hW]
  clear hW
  refine HH.out.mono ?_
  rintro e w1 ⟨rfl, hb1⟩
  have HB := hide (HA.out.later hb1).bel
  clear hb1 HA HH
  go_wp2
  go_ret
  exact ⟨rfl, HB.out⟩

set_option maxRecDepth 100000 in
set_option maxHeartbeats 1000000 in
theorem markLive_any (w : World) (base : Nat) (x : Int) (a : Option Addr) (n cap : Nat) (zs : List Int) (hn : n ≤ 1048576) (k : Nat) (hk : k ≤ 1048576) (ho : IOwn w base (.slice a n cap) zs) :
    Calls Tryd.prog 14 #[.agg #[.int .i64 x, .slice a n cap], .int .i64 k] w fun e w' => e = .returned (.int .i64 (k + n : Nat)) ∧ IOwn w' base (.slice a n cap) (upI n k) ∧ w.grownBy w' (Value.slice a n cap).ownBlock := by
  obtain ⟨W, hW⟩ : ∃ W, W = w.alloc (.cells #[.int .i64 x, .slice a n cap] 27) := ⟨_, rfl⟩
  have hbw : Below w.heap.size w W := by rw [hW]; exact (Below.refl _ _).alloc (Nat.le_refl _) _
  have HH := hide (markIntS_any W base a n cap zs (ho.later hbw (Nat.le_refl _)) (by omega) k (by omega))
  have HG := hide (below_grown (Value.slice a n cap).ownBlock hbw)
  clear ho hbw
  go_enter Tryd.func14, Tryd.ntmps14
  go_wp2_with fail
  rw [← hW]
  clear hW
  refine HH.out.mono ?_
  rintro e w1 ⟨rfl, ho1, hg1⟩
  have HO := hide ho1
  have HG1 := hide (grown_chain HG.out hg1)
  clear hg1 HH HG ho1
  go_wp2
  go_ret
  exact ⟨rfl, HO.out, HG1.out⟩

end Go.Proofs.YthnealhaleccpaaDoor
