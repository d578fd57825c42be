/-
  What impl.ReadVar answers at every text of at most 1048576 bytes; it leaves the world as it was. Contracts of chapter 1's functions at every number, as records want them: what they answer in whatever world. impl's taker: what it holds, and what its three methods take from the front of a text. impl's taker's number: all blocks but the taker's own stand. impl's taker's text and sum: all blocks but the taker's own stand. impl.takeEntry: an entry off a taker. append at a row of entries of the call's own, as one step of a statement whose order is open.
-/
import Derived.Test.YtimpokbcfjgdaaaDoorG00
import Derived.Test.YtimpokbcfjgdaaaDoorG04
import Derived.Test.YtimpokbcfjgdaaaDoorG06
import Derived.Test.YtimpokbcfjgdaaaDoorMRVarSpec
import Derived.BigQuiet
import Derived.Deep.QuietTactic
import Derived.Test.YtimpokbcfjgdaaaDoorMEntS
import Derived.Maps.AppendAt
namespace Go.Proofs.YtimpokbcfjgdaaaDoor
open Go.RowKit
open Plain

theorem and127_u8 (b : Nat) (h : b < 256) : bits .and .u8 (b : Int) 127 = ((b % 128 : Nat) : Int) := by
  have := u8_and_nat b 127 h (by omega)
  rw [nat_mask7] at this
  exact this
theorem pow128 (k : Nat) : (2 : Nat) ^ (7 * k) = 128 ^ k := by rw [Nat.pow_mul]
theorem pow128_le (k : Nat) (h : k ≤ 6) : 128 ^ k ≤ 4398046511104 := by
  have h2 : 128 ^ k ≤ 128 ^ 6 := Nat.pow_le_pow_right (by omega) h
  have h3 : (128 : Nat) ^ 6 = 4398046511104 := by decide
  omega

/-- 'n |= int(c&127) << (7 * i)'. -/
theorem or_step (l : List Nat) (b k : Nat) (hl : l.length = k) (hk : k ≤ 6) : bits .or .i64 ((vval l : Nat) : Int) (wrap64 ((b : Int) % 128 * 2 ^ (7 * k))) = ((vval (l ++ [b]) : Nat) : Int) := by
  have h1 := vval_lt l
  rw [hl] at h1
  have h2 := pow128_le k hk
  have h3 := Nat.mod_lt b (show 0 < 128 by omega)
  have e : (b : Int) % 128 * 2 ^ (7 * k) = ((b % 128 * 128 ^ k : Nat) : Int) := by rw [← pow128 k]; norm_cast
  have h4 : b % 128 * 128 ^ k ≤ 127 * 4398046511104 := Nat.mul_le_mul (by omega) h2
  rw [e, IntWalk.wrap64_in _ ⟨by omega, by omega⟩, i64_or_nat _ _ (by omega) (by omega), vval_snoc, hl, Nat.or_comm, nat_join (7 * k) _ _ (by rw [pow128]; exact Nat.mul_mod_left _ _) (by rw [pow128]; exact h1), Nat.add_comm]

set_option maxRecDepth 100000 in
set_option maxHeartbeats 400000 in
theorem implReadVar_any (s : ByteArray) (w : World) (hs : s.size ≤ 1048576) :
    Calls Tryd.prog 51 #[.string s] w fun e w' => (∃ n k : Nat, e = .returned (.tuple #[.int .i64 n, .int .i64 k]) ∧ RV s n k) ∧ w = w' := by
  obtain ⟨m, hm, hms, hm7⟩ : ∃ m : Nat, ((min (s.size : Int) 7) = (m : Int)) ∧ m ≤ s.size ∧ m ≤ 7 := ⟨min s.size 7, by omega, by omega, by omega⟩
  have HM : Hid (m = 7 ∨ m = s.size) := hide (by omega)
  go_enter Tryd.func51, Tryd.ntmps51
  go_wp2
  all_goals
    go_loop [4, 9] (fun n i => ∃ k : Nat, k ≤ m ∧ i = .int .i64 k ∧ n = .int .i64 (vval ((bl s).take k)) ∧ Hid (∀ j, j < k → 128 ≤ (bl s).getD j 0)) (fun _ i => m - (intOf i).toNat)
    case atStart => exact ⟨0, Nat.zero_le _, rfl, rfl, hide (by intro j hj; omega)⟩
    case round =>
      obtain ⟨k, hk, rfl, rfl, HA⟩ := hrel
      by_cases hlt : k < m
      · have hk2 : k < s.size := by omega
        have hc := UInt8.toNat_lt s[k]
        have e1 := and127_u8 s[k].toNat hc
        have HN : Hid (bits .or .i64 ((vval ((bl s).take k) : Nat) : Int) (wrap64 ((s[k].toNat : Int) % 128 * 2 ^ (7 * k))) = ((vval ((bl s).take (k + 1)) : Nat) : Int)) := hide (by
          rw [bl_take_succ s k hk2]
          exact or_step _ _ k (by rw [List.length_take, bl_length]; omega) (by omega))
        have HG := hide (getD_bl s k hk2)
        by_cases hbig : s[k].toNat < 128
        · by_cases hk0 : 0 < k
          · by_cases hz : s[k].toNat = 0
            · have hz2 : ((s[k].toNat : Int) == 0) = true := by simp [hz]
              have HZ := hide hz
              clear hz
              go_wp2
              go_ret2
              exact ⟨⟨0, 0, rfl, RV_nought s k (by omega) hk2 HA.out hk0 (by rw [HG.out]; exact HZ.out)⟩, rfl⟩
            · have hz2 : ((s[k].toNat : Int) == 0) = false := by simp; omega
              go_wp2
              go_ret2
              exact ⟨⟨_, k + 1, ret_ints HN.out (by omega), RV_hit s k (by omega) hk2 HA.out (by rw [HG.out]; exact hbig) (Or.inr (by rw [HG.out]; exact hz))⟩, rfl⟩
          · go_wp2
            go_ret2
            exact ⟨⟨_, k + 1, ret_ints HN.out (by omega), RV_hit s k (by omega) hk2 HA.out (by rw [HG.out]; exact hbig) (Or.inl (by omega))⟩, rfl⟩
        · go_wp2
          go_round
          case rel => exact ⟨k + 1, by omega, by go_num, val_int HN.out, hide (by
            intro j hj
            by_cases hjk : j < k
            · exact HA.out j hjk
            · obtain rfl : j = k := by omega
              rw [HG.out]; omega)⟩
          case measure => simp [intOf]; omega
      · obtain rfl : k = m := by omega
        go_wp2
        go_ret2
        exact ⟨⟨0, 0, rfl, RV_none s k HM.out HA.out⟩, rfl⟩

end Go.Proofs.YtimpokbcfjgdaaaDoor
namespace Go.Proofs.YtimpokbcfjgdaaaDoor
open Go.RowKit
open Plain

theorem implVar_any (n : Int) : Ans 22 #[.int .i64 n] (.string (varS n)) := by
  intro w
  by_cases h : 0 ≤ n ∧ n ≤ 562949953421311
  · obtain ⟨m, rfl⟩ := Int.eq_ofNat_of_zero_le h.1
    rw [varS_in m (by omega)]
    exact implVar_yes m w (by omega)
  · rw [varS_out n (by omega)]
    refine (implVar_no n w (by omega)).mono ?_
    rintro e w' ⟨rfl, rfl⟩
    exact ⟨rfl, Below.refl _ _⟩
theorem specVar_any (n : Int) : Ans 16 #[.int .i64 n] (.string (varS n)) := by
  intro w
  by_cases h : 0 ≤ n ∧ n ≤ 562949953421311
  · obtain ⟨m, rfl⟩ := Int.eq_ofNat_of_zero_le h.1
    rw [varS_in m (by omega)]
    exact specVar_yes m w (by omega)
  · rw [varS_out n (by omega)]
    refine (specVar_no n w (by omega)).mono ?_
    rintro e w' ⟨rfl, rfl⟩
    exact ⟨rfl, Below.refl _ _⟩
theorem implFix4_any (n : Int) (h1 : n ≤ 9223372036854775807) : Ans 24 #[.int .i64 n, .int .i64 4] (.string (fixN n 4)) := by
  intro w
  by_cases h : 0 ≤ n
  · obtain ⟨m, rfl⟩ := Int.eq_ofNat_of_zero_le h
    have e : fixN (m : Int) 4 = fixStr m 4 := by unfold fixN; rw [if_pos h, Int.toNat_natCast]
    rw [e]
    exact implFixed_yes m 4 w (by omega) (by omega) (by omega)
  · have e : fixN n 4 = ⟨#[]⟩ := by unfold fixN; rw [if_neg h]
    rw [e]
    refine (implFixed_no n 4 w (by omega)).mono ?_
    rintro e w' ⟨rfl, rfl⟩
    exact ⟨rfl, Below.refl _ _⟩
theorem specFix4_any (n : Int) (h1 : n ≤ 9223372036854775807) : Ans 17 #[.int .i64 n, .int .i64 4] (.string (fixN n 4)) := by
  intro w
  by_cases h : 0 ≤ n
  · obtain ⟨m, rfl⟩ := Int.eq_ofNat_of_zero_le h
    have e : fixN (m : Int) 4 = fixStr m 4 := by unfold fixN; rw [if_pos h, Int.toNat_natCast]
    rw [e]
    exact specFixed_yes m 4 w (by omega) (by omega) (by omega)
  · have e : fixN n 4 = ⟨#[]⟩ := by unfold fixN; rw [if_neg h]
    rw [e]
    refine (specFixed_no n 4 w (by omega)).mono ?_
    rintro e w' ⟨rfl, rfl⟩
    exact ⟨rfl, Below.refl _ _⟩
theorem implRV_any (s : ByteArray) (hs : s.size ≤ 1048576) (w : World) : Calls Tryd.prog 51 #[.string s] w fun e w' => e = .returned (.tuple #[.int .i64 ((rv s).1 : Nat), .int .i64 ((rv s).2 : Nat)]) ∧ w = w' := by
  refine (implReadVar_any s w hs).mono ?_
  rintro e w' ⟨⟨n, k, rfl, h⟩, hb⟩
  rw [rv_of h]
  exact ⟨rfl, hb⟩
theorem specRV_any (s : ByteArray) (hs : s.size ≤ 1048576) : Ans 43 #[.string s] (.tuple #[.int .i64 ((rv s).1 : Nat), .int .i64 ((rv s).2 : Nat)]) := by
  intro w
  refine (specReadVar_any s w hs).mono ?_
  rintro e w' ⟨⟨n, k, rfl, h⟩, hb⟩
  rw [rv_of h]
  exact ⟨rfl, hb⟩
theorem implRF4_any (s : ByteArray) (hs : s.size ≤ 1048576) (w : World) : Calls Tryd.prog 44 #[.string s, .int .i64 4] w fun e w' => e = .returned (.tuple #[.int .i64 (sumV s : Nat), .bool (!sumF s)]) ∧ w = w' := by
  by_cases h : 4 ≤ s.size
  · have e1 : sumV s = fixVal s 4 := by unfold sumV; rw [if_pos h]
    have e2 : sumF s = false := decide_eq_false (by omega)
    rw [e1, e2]
    exact implReadFixed_yes s 4 w hs (by omega) (by omega) h
  · have e1 : sumV s = 0 := by unfold sumV; rw [if_neg h]
    have e2 : sumF s = true := decide_eq_true (by omega)
    rw [e1, e2]
    exact implReadFixed_no s 4 w hs (by omega)

end Go.Proofs.YtimpokbcfjgdaaaDoor
namespace Go.Proofs.YtimpokbcfjgdaaaDoor
open Go.RowKit
open Plain

/-- Block B, which w does not have, holds the taker: what is left, and whether a piece was missing; what was there in w is untouched. -/
structure TkAt (w : World) (B : Nat) (s : ByteArray) (f : Bool) (W : World) : Prop where
  row : W.heap[B]? = some (.cells #[.string s, .bool f] 63 (0, 0))
  new : w.heap.size ≤ B
  bel : Below w.heap.size w W
theorem TkAt.cells {w : World} {B : Nat} {s : ByteArray} {f : Bool} {W : World} (h : TkAt w B s f W) : W.cell? ⟨B, 0, none⟩ = some (.string s) ∧ W.cell? ⟨B, 1, none⟩ = some (.bool f) := by
  refine ⟨?_, ?_⟩ <;> (rw [cell_of_row W B _ _ _ _ h.row]; rfl)
theorem TkAt.free {w : World} {B : Nat} {s : ByteArray} {f : Bool} {W : World} (h : TkAt w B s f W) (j : Nat) : W.frozen? ⟨B, j, none⟩ = false := by simp [World.frozen?, h.row]
theorem TkAt.later {w : World} {B : Nat} {s : ByteArray} {f : Bool} {W W' : World} (h : TkAt w B s f W) (hb : Below W.heap.size W W') : TkAt w B s f W' :=
  ⟨(hb.block _ (lt_of_block h.row)).trans h.row, h.new, h.bel.trans (hb.mono h.bel.size)⟩
theorem TkAt.rest {w : World} {B : Nat} {s : ByteArray} {f : Bool} {W : World} (h : TkAt w B s f W) (t : ByteArray) : TkAt w B t f (W.setCell ⟨B, 0, none⟩ (.string t)) := by
  rw [setCell_eq_setRow W B 0 _ _ _ _ h.row]
  exact ⟨setRow_heap W B _ _ _ _ h.row, h.new, below_setRow h.bel h.new _⟩
theorem TkAt.fail {w : World} {B : Nat} {s : ByteArray} {f : Bool} {W : World} (h : TkAt w B s f W) (g : Bool) : TkAt w B s g (W.setCell ⟨B, 1, none⟩ (.bool g)) := by
  rw [setCell_eq_setRow W B 1 _ _ _ _ h.row]
  exact ⟨setRow_heap W B _ _ _ _ h.row, h.new, below_setRow h.bel h.new _⟩

set_option maxRecDepth 100000 in
set_option maxHeartbeats 1000000 in
theorem tkNum_any (w W : World) (B : Nat) (s : ByteArray) (f : Bool) (h : TkAt w B s f W) (hs : s.size ≤ 1048576) :
    Calls Tryd.prog 45 #[.pointer (some ⟨B, 0, none⟩)] W fun e w' => e = .returned (.int .i64 ((rv s).1 : Nat)) ∧ TkAt w B (numT s) (f || decide ((rv s).2 = 0)) w' := by
  obtain ⟨c0, c1⟩ := h.cells
  have f0 := h.free 0
  have f1 := h.free 1
  have HR := hide (implRV_any s hs)
  have HT : Hid (numT s = s.extract (rv s).2 s.size) := hide rfl
  have hbd := rv_bd s
  have HA := hide h
  clear h
  generalize (rv s).1 = n at *
  generalize (rv s).2 = k at *
  obtain ⟨-, -, hk⟩ := hbd
  by_cases h0 : k = 0
  · have t0 : ((k : Int) == 0) = true := by simpa using h0
    have HF : Hid ((f || decide (k = 0)) = true) := hide (by simp [h0])
    clear h0
    go_enter Tryd.func45, Tryd.ntmps45
    go_wp2_with (go_at_call 51; refine (HR.out _).mono ?_; rintro e w1 ⟨rfl, rfl⟩)
    go_ret
    refine ⟨rfl, ?_⟩
    rw [HF.out, HT.out]
    exact (HA.out.fail true).rest _
  · have t0 : ((k : Int) == 0) = false := by simpa using h0
    have HF : Hid ((f || decide (k = 0)) = f) := hide (by simp [h0])
    clear h0
    go_enter Tryd.func45, Tryd.ntmps45
    go_wp2_with (go_at_call 51; refine (HR.out _).mono ?_; rintro e w1 ⟨rfl, rfl⟩)
    go_ret
    refine ⟨rfl, ?_⟩
    rw [HF.out, HT.out]
    exact HA.out.rest _

set_option maxRecDepth 100000 in
set_option maxHeartbeats 1000000 in
theorem tkText_any (w W : World) (B : Nat) (s : ByteArray) (f : Bool) (h : TkAt w B s f W) (hs : s.size ≤ 1048576) :
    Calls Tryd.prog 52 #[.pointer (some ⟨B, 0, none⟩)] W fun e w' => e = .returned (.string (txtV s)) ∧ TkAt w B (txtR s) (f || txtF s) w' := by
  have HN := hide (tkNum_any w W B s f h hs)
  have hz : (numT s).size ≤ s.size := by rw [numT_size]; omega
  have hbd := rv_bd s
  by_cases hlt : (numT s).size < (rv s).1
  · have t1 : decide (((numT s).size : Int) < ((rv s).1 : Int)) = true := by simp; omega
    have HV : Hid (txtV s = ⟨#[]⟩ ∧ txtR s = numT s ∧ (f || txtF s) = true) := hide (by unfold txtV txtR txtF; rw [if_pos hlt, if_pos hlt]; simp [hlt])
    clear h
    generalize (f || decide ((rv s).2 = 0)) = g at *
    generalize (rv s).1 = n at *
    generalize (rv s).2 = k at *
    generalize numT s = s1 at *
    go_enter Tryd.func52, Tryd.ntmps52
    go_wp2_with fail
    refine HN.out.mono ?_
    rintro e w1 ⟨rfl, h1⟩
    obtain ⟨c0, c1⟩ := h1.cells
    have f0 := h1.free 0
    have f1 := h1.free 1
    have HA := hide h1
    clear h1 HN
    go_wp2
    go_ret
    obtain ⟨e1, e2, e3⟩ := HV.out
    rw [e1, e2, e3]
    exact ⟨rfl, HA.out.fail true⟩
  · have t1 : decide (((numT s).size : Int) < ((rv s).1 : Int)) = false := by simp; omega
    have hle : (rv s).1 ≤ (numT s).size := by omega
    have HV : Hid (txtV s = (numT s).extract 0 (rv s).1 ∧ txtR s = (numT s).extract (rv s).1 (numT s).size ∧ (f || txtF s) = (f || decide ((rv s).2 = 0))) := hide (by unfold txtV txtR txtF; rw [if_neg hlt, if_neg hlt]; simp [hlt])
    clear h
    generalize (f || decide ((rv s).2 = 0)) = g at *
    generalize (rv s).1 = n at *
    generalize (rv s).2 = k at *
    generalize numT s = s1 at *
    go_enter Tryd.func52, Tryd.ntmps52
    go_wp2_with fail
    refine HN.out.mono ?_
    rintro e w1 ⟨rfl, h1⟩
    obtain ⟨c0, c1⟩ := h1.cells
    have f0 := h1.free 0
    have f1 := h1.free 1
    have HA := hide h1
    clear h1 HN
    go_wp2
    go_ret
    obtain ⟨e1, e2, e3⟩ := HV.out
    rw [e1, e2, e3]
    exact ⟨rfl, HA.out.rest _⟩

set_option maxRecDepth 100000 in
set_option maxHeartbeats 1000000 in
theorem tkSum_any (w W : World) (B : Nat) (s : ByteArray) (f : Bool) (h : TkAt w B s f W) (hs : s.size ≤ 1048576) :
    Calls Tryd.prog 30 #[.pointer (some ⟨B, 0, none⟩)] W fun e w' => e = .returned (.int .i64 (sumV s : Nat)) ∧ TkAt w B (sumR s) (f || sumF s) w' := by
  obtain ⟨c0, c1⟩ := h.cells
  have f0 := h.free 0
  have f1 := h.free 1
  have HA := hide h
  have HR := hide (implRF4_any s hs)
  clear h
  by_cases h4 : 4 ≤ s.size
  · have hF : sumF s = false := decide_eq_false (by omega)
    have HV : Hid (sumR s = s.extract 4 s.size) := hide (by unfold sumR; rw [if_pos h4])
    rw [hF] at HR ⊢
    rw [Bool.or_false]
    generalize sumV s = n at *
    clear hF
    go_enter Tryd.func30, Tryd.ntmps30
    go_wp2_with (go_at_call 44; refine (HR.out _).mono ?_; rintro e w1 ⟨rfl, rfl⟩)
    go_ret
    rw [HV.out]
    exact ⟨rfl, HA.out.rest _⟩
  · have hF : sumF s = true := decide_eq_true (by omega)
    have HV : Hid (sumR s = s ∧ sumV s = 0) := hide (by unfold sumR sumV; rw [if_neg h4, if_neg h4]; exact ⟨rfl, rfl⟩)
    rw [hF] at HR ⊢
    rw [Bool.or_true]
    generalize sumV s = n at *
    clear hF
    go_enter Tryd.func30, Tryd.ntmps30
    go_wp2_with (go_at_call 44; refine (HR.out _).mono ?_; rintro e w1 ⟨rfl, rfl⟩)
    go_ret
    obtain ⟨e1, e2⟩ := HV.out
    rw [e1, e2]
    exact ⟨rfl, HA.out.fail true⟩

end Go.Proofs.YtimpokbcfjgdaaaDoor
namespace Go.Proofs.YtimpokbcfjgdaaaDoor
open Go.RowKit
open Plain

theorem grown_setT {w v : World} {B : Nat} (h : w.grownBy v (some B)) (p : Addr) (hp : p.block = B) (u : Value) : w.grownBy (v.setCell p u) (some B) :=
  ⟨h.os, h.tape, h.output, by simpa using h.size, fun k hk hr => (Below.heap_setCell v p u k (fun e => hr (by rw [e, hp]))).trans (h.block k hk hr)⟩

set_option maxRecDepth 100000 in
set_option maxHeartbeats 1000000 in
theorem tkNum_g (w W : World) (B : Nat) (s : ByteArray) (f : Bool) (h : TkAt w B s f W) (hs : s.size ≤ 1048576) :
    Calls Tryd.prog 45 #[.pointer (some ⟨B, 0, none⟩)] W fun e w' => e = .returned (.int .i64 ((rv s).1 : Nat)) ∧ TkAt w B (numT s) (f || decide ((rv s).2 = 0)) w' ∧ W.grownBy w' (some B) := by
  obtain ⟨c0, c1⟩ := h.cells
  have f0 := h.free 0
  have f1 := h.free 1
  have HR := hide (implRV_any s hs)
  have HT : Hid (numT s = s.extract (rv s).2 s.size) := hide rfl
  have hbd := rv_bd s
  have HA := hide h
  have HG : Hid (W.grownBy W (some B)) := hide ⟨rfl, rfl, rfl, Nat.le_refl _, fun _ _ _ => rfl⟩
  clear h
  generalize (rv s).1 = n at *
  generalize (rv s).2 = k at *
  obtain ⟨-, -, hk⟩ := hbd
  by_cases h0 : k = 0
  · have t0 : ((k : Int) == 0) = true := by simpa using h0
    have HF : Hid ((f || decide (k = 0)) = true) := hide (by simp [h0])
    clear h0
    go_enter Tryd.func45, Tryd.ntmps45
    go_wp2_with (go_at_call 51; refine (HR.out _).mono ?_; rintro e w1 ⟨rfl, rfl⟩)
    go_ret
    refine ⟨rfl, ?_, grown_setT (grown_setT HG.out _ rfl _) _ rfl _⟩
    rw [HF.out, HT.out]
    exact (HA.out.fail true).rest _
  · have t0 : ((k : Int) == 0) = false := by simpa using h0
    have HF : Hid ((f || decide (k = 0)) = f) := hide (by simp [h0])
    clear h0
    go_enter Tryd.func45, Tryd.ntmps45
    go_wp2_with (go_at_call 51; refine (HR.out _).mono ?_; rintro e w1 ⟨rfl, rfl⟩)
    go_ret
    refine ⟨rfl, ?_, grown_setT HG.out _ rfl _⟩
    rw [HF.out, HT.out]
    exact HA.out.rest _

end Go.Proofs.YtimpokbcfjgdaaaDoor
namespace Go.Proofs.YtimpokbcfjgdaaaDoor
open Go.RowKit
open Plain

set_option maxRecDepth 100000 in
set_option maxHeartbeats 1000000 in
theorem tkText_g (w W : World) (B : Nat) (s : ByteArray) (f : Bool) (h : TkAt w B s f W) (hs : s.size ≤ 1048576) :
    Calls Tryd.prog 52 #[.pointer (some ⟨B, 0, none⟩)] W fun e w' => e = .returned (.string (txtV s)) ∧ TkAt w B (txtR s) (f || txtF s) w' ∧ W.grownBy w' (some B) := by
  have HN := hide (tkNum_g w W B s f h hs)
  have hz : (numT s).size ≤ s.size := by rw [numT_size]; omega
  have hbd := rv_bd s
  by_cases hlt : (numT s).size < (rv s).1
  · have t1 : decide (((numT s).size : Int) < ((rv s).1 : Int)) = true := by simp; omega
    have HV : Hid (txtV s = ⟨#[]⟩ ∧ txtR s = numT s ∧ (f || txtF s) = true) := hide (by unfold txtV txtR txtF; rw [if_pos hlt, if_pos hlt]; simp [hlt])
    clear h
    generalize (f || decide ((rv s).2 = 0)) = g at *
    generalize (rv s).1 = n at *
    generalize (rv s).2 = k at *
    generalize numT s = s1 at *
    go_enter Tryd.func52, Tryd.ntmps52
    go_wp2_with fail
    refine HN.out.mono ?_
    rintro e w1 ⟨rfl, h1, g1⟩
    have HG1 := hide g1
    obtain ⟨c0, c1⟩ := h1.cells
    have f0 := h1.free 0
    have f1 := h1.free 1
    have HA := hide h1
    clear h1 g1 HN
    go_wp2
    go_ret
    obtain ⟨e1, e2, e3⟩ := HV.out
    rw [e1, e2, e3]
    exact ⟨rfl, HA.out.fail true, grown_setT HG1.out _ rfl _⟩
  · have t1 : decide (((numT s).size : Int) < ((rv s).1 : Int)) = false := by simp; omega
    have hle : (rv s).1 ≤ (numT s).size := by omega
    have HV : Hid (txtV s = (numT s).extract 0 (rv s).1 ∧ txtR s = (numT s).extract (rv s).1 (numT s).size ∧ (f || txtF s) = (f || decide ((rv s).2 = 0))) := hide (by unfold txtV txtR txtF; rw [if_neg hlt, if_neg hlt]; simp [hlt])
    clear h
    generalize (f || decide ((rv s).2 = 0)) = g at *
    generalize (rv s).1 = n at *
    generalize (rv s).2 = k at *
    generalize numT s = s1 at *
    go_enter Tryd.func52, Tryd.ntmps52
    go_wp2_with fail
    refine HN.out.mono ?_
    rintro e w1 ⟨rfl, h1, g1⟩
    have HG1 := hide g1
    obtain ⟨c0, c1⟩ := h1.cells
    have f0 := h1.free 0
    have f1 := h1.free 1
    have HA := hide h1
    clear h1 g1 HN
    go_wp2
    go_ret
    obtain ⟨e1, e2, e3⟩ := HV.out
    rw [e1, e2, e3]
    exact ⟨rfl, HA.out.rest _, grown_setT HG1.out _ rfl _⟩

set_option maxRecDepth 100000 in
set_option maxHeartbeats 1000000 in
theorem tkSum_g (w W : World) (B : Nat) (s : ByteArray) (f : Bool) (h : TkAt w B s f W) (hs : s.size ≤ 1048576) :
    Calls Tryd.prog 30 #[.pointer (some ⟨B, 0, none⟩)] W fun e w' => e = .returned (.int .i64 (sumV s : Nat)) ∧ TkAt w B (sumR s) (f || sumF s) w' ∧ W.grownBy w' (some B) := by
  obtain ⟨c0, c1⟩ := h.cells
  have f0 := h.free 0
  have f1 := h.free 1
  have HA := hide h
  have HG : Hid (W.grownBy W (some B)) := hide ⟨rfl, rfl, rfl, Nat.le_refl _, fun _ _ _ => rfl⟩
  have HR := hide (implRF4_any s hs)
  clear h
  by_cases h4 : 4 ≤ s.size
  · have hF : sumF s = false := decide_eq_false (by omega)
    have HV : Hid (sumR s = s.extract 4 s.size) := hide (by unfold sumR; rw [if_pos h4])
    rw [hF] at HR ⊢
    rw [Bool.or_false]
    generalize sumV s = n at *
    clear hF
    go_enter Tryd.func30, Tryd.ntmps30
    go_wp2_with (go_at_call 44; refine (HR.out _).mono ?_; rintro e w1 ⟨rfl, rfl⟩)
    go_ret
    rw [HV.out]
    exact ⟨rfl, HA.out.rest _, grown_setT HG.out _ rfl _⟩
  · have hF : sumF s = true := decide_eq_true (by omega)
    have HV : Hid (sumR s = s ∧ sumV s = 0) := hide (by unfold sumR sumV; rw [if_neg h4, if_neg h4]; exact ⟨rfl, rfl⟩)
    rw [hF] at HR ⊢
    rw [Bool.or_true]
    generalize sumV s = n at *
    clear hF
    go_enter Tryd.func30, Tryd.ntmps30
    go_wp2_with (go_at_call 44; refine (HR.out _).mono ?_; rintro e w1 ⟨rfl, rfl⟩)
    go_ret
    obtain ⟨e1, e2⟩ := HV.out
    rw [e1, e2]
    exact ⟨rfl, HA.out.fail true, grown_setT HG.out _ rfl _⟩

end Go.Proofs.YtimpokbcfjgdaaaDoor
namespace Go.Proofs.YtimpokbcfjgdaaaDoor
open Go.RowKit
open Plain

/-- The taker's block, the answer's block and the entry's behind it; all else that was there stands. -/
structure TEAt (w W0 : World) (B R V : Nat) (s : ByteArray) (f : Bool) (k : ByteArray) (a b c d : Int) (W : World) : Prop where
  tk : TkAt w B s f W
  res : W.heap[R]? = some (.cells #[.string ⟨#[]⟩, .int .i64 0, .int .i64 0, .int .i64 0, .int .i64 0] 41 (0, 0))
  row : W.heap[V]? = some (.cells #[.string k, .int .i64 a, .int .i64 b, .int .i64 c, .int .i64 d] 41 (0, 0))
  lt : B < R ∧ R < V
  pos : W0.heap.size ≤ R
  grown : W0.grownBy W (some B)
theorem TEAt.call {w W0 : World} {B R V : Nat} {s s' : ByteArray} {f f' : Bool} {k : ByteArray} {a b c d : Int} {W W' : World} (h : TEAt w W0 B R V s f k a b c d W) (ht : TkAt w B s' f' W') (hg : W.grownBy W' (some B)) : TEAt w W0 B R V s' f' k a b c d W' := by
  have hl := h.lt
  exact ⟨ht, (hg.block R (lt_of_block h.res) (fun e => by injection e with e; omega)).trans h.res, (hg.block V (lt_of_block h.row) (fun e => by injection e with e; omega)).trans h.row, h.lt, h.pos, ⟨hg.os.trans h.grown.os, hg.tape.trans h.grown.tape, hg.output.trans h.grown.output, Nat.le_trans h.grown.size hg.size, fun i hi hr => (hg.block i (Nat.lt_of_lt_of_le hi h.grown.size) hr).trans (h.grown.block i hi hr)⟩⟩
theorem grown_setN {w v : World} {B : Nat} (h : w.grownBy v (some B)) (p : Addr) (hp : w.heap.size ≤ p.block) (u : Value) : w.grownBy (v.setCell p u) (some B) :=
  ⟨h.os, h.tape, h.output, by simpa using h.size, fun k hk hr => (Below.heap_setCell v p u k (by omega)).trans (h.block k hk hr)⟩
theorem tk_set {w W : World} {B : Nat} {s : ByteArray} {f : Bool} (h : TkAt w B s f W) (p : Addr) (hp : B < p.block) (u : Value) : TkAt w B s f (W.setCell p u) :=
  ⟨by rw [Below.heap_setCell W _ _ _ (by omega)]; exact h.row, h.new, h.bel.setCell (by have := h.new; omega) _⟩
/-- A field of the entry is written. -/
theorem TEAt.put {w W0 : World} {B R V : Nat} {s : ByteArray} {f : Bool} {k k' : ByteArray} {a b c d a' b' c' d' : Int} {W : World} (h : TEAt w W0 B R V s f k a b c d W) (j : Nat) (v : Value) (hv : (#[Value.string k, .int .i64 a, .int .i64 b, .int .i64 c, .int .i64 d] : Array Value).setIfInBounds j v = #[.string k', .int .i64 a', .int .i64 b', .int .i64 c', .int .i64 d']) : TEAt w W0 B R V s f k' a' b' c' d' (W.setCell ⟨V, j, none⟩ v) := by
  have hl := h.lt
  have hp := h.pos
  refine ⟨tk_set h.tk _ (by dsimp only; omega) _, ?_, ?_, h.lt, h.pos, grown_setN h.grown _ (by dsimp only; omega) _⟩
  · rw [Below.heap_setCell W _ _ _ (by dsimp only; omega)]
    exact h.res
  · rw [setCell_eq_setRow W V j _ _ _ _ h.row, ← hv]
    exact setRow_heap W V _ _ _ _ h.row
theorem TEAt.cells {w W0 : World} {B R V : Nat} {s : ByteArray} {f : Bool} {k : ByteArray} {a b c d : Int} {W : World} (h : TEAt w W0 B R V s f k a b c d W) :
    W.cell? ⟨V, 0, none⟩ = some (.string k) ∧ W.cell? ⟨V, 1, none⟩ = some (.int .i64 a) ∧ W.cell? ⟨V, 2, none⟩ = some (.int .i64 b) ∧ W.cell? ⟨V, 3, none⟩ = some (.int .i64 c) ∧ W.cell? ⟨V, 4, none⟩ = some (.int .i64 d) ∧ W.frozen? ⟨V, 0, none⟩ = false ∧ W.frozen? ⟨V, 1, none⟩ = false ∧ W.frozen? ⟨V, 2, none⟩ = false ∧ W.frozen? ⟨V, 3, none⟩ = false ∧ W.frozen? ⟨V, 4, none⟩ = false := by
  have hf : ∀ j, W.frozen? ⟨V, j, none⟩ = false := fun j => by simp [World.frozen?, h.row]
  refine ⟨?_, ?_, ?_, ?_, ?_, hf 0, hf 1, hf 2, hf 3, hf 4⟩ <;> rw [cell_of_row W V _ _ _ _ h.row] <;> rfl

set_option maxRecDepth 100000 in
set_option maxHeartbeats 4000000 in
theorem takeEnt_g (w W : World) (B : Nat) (s : ByteArray) (f : Bool) (h : TkAt w B s f W) (hs : s.size ≤ 1048576) :
    Calls Tryd.prog 46 #[.pointer (some ⟨B, 0, none⟩)] W fun e w' => e = .returned (.agg #[.string (entV s).key, .int .i64 (entV s).seg, .int .i64 (entV s).pos, .int .i64 (entV s).len, .int .i64 (entV s).bat]) ∧ TkAt w B (entR s) (entF f s) w' ∧ W.grownBy w' (some B) := by
  have hBl := lt_of_block h.row
  obtain ⟨W2, hW2⟩ : ∃ W2, W2 = (W.alloc (.cells #[.string ⟨#[]⟩, .int .i64 0, .int .i64 0, .int .i64 0, .int .i64 0] 41)).alloc (.cells #[.string ⟨#[]⟩, .int .i64 0, .int .i64 0, .int .i64 0, .int .i64 0] 41) := ⟨_, rfl⟩
  have HA0 : Hid (TEAt w W B W.heap.size (W.heap.size + 1) s f ⟨#[]⟩ 0 0 0 0 W2) := hide (by
    rw [hW2]
    have hb := al2 W (.cells #[.string ⟨#[]⟩, .int .i64 0, .int .i64 0, .int .i64 0, .int .i64 0] 41) (.cells #[.string ⟨#[]⟩, .int .i64 0, .int .i64 0, .int .i64 0, .int .i64 0] 41)
    refine ⟨h.later hb, ?_, ?_, ⟨hBl, by omega⟩, Nat.le_refl _, ⟨hb.os, hb.tape, hb.output, hb.size, fun i hi _ => hb.block i hi⟩⟩
    · rw [Below.heap_alloc _ _ _ (by simp)]
      exact heap_alloc_new W _
    · have h2 := heap_alloc_new (W.alloc (.cells #[.string ⟨#[]⟩, .int .i64 0, .int .i64 0, .int .i64 0, .int .i64 0] 41)) (.cells #[.string ⟨#[]⟩, .int .i64 0, .int .i64 0, .int .i64 0, .int .i64 0] 41)
      rw [World.size_alloc] at h2
      exact h2)
  have hz0 := txtR_size s
  have hz1 : (numT (txtR s)).size ≤ (txtR s).size := by have := numT_size (txtR s); omega
  have hz2 : (numT (numT (txtR s))).size ≤ (numT (txtR s)).size := by have := numT_size (numT (txtR s)); omega
  have hz3 : (numT (numT (numT (txtR s)))).size ≤ (numT (numT (txtR s))).size := by have := numT_size (numT (numT (txtR s))); omega
  clear h
  go_enter Tryd.func46, Tryd.ntmps46
  obtain ⟨N, hN⟩ : ∃ N, W.heap.size + 1 = N := ⟨_, rfl⟩
  rw [hN] at HA0
  go_wp2_with fail
  rw [← hW2]
  clear hW2
  clear hN
  refine (tkText_g w W2 B (s) _ HA0.out.tk (by omega)).mono ?_
  rintro e w1 ⟨rfl, h1, g1⟩
  have hA1 := HA0.out.call h1 g1
  obtain ⟨y0, y1, y2, y3, y4, f0, f1, f2, f3, f4⟩ := hA1.cells
  have HA1 := hide (hA1.put (k' := (txtV s)) (a' := 0) (b' := 0) (c' := 0) (d' := 0) 0 (.string (txtV s)) rfl)
  clear hA1 h1 g1 HA0
  go_wp2_with fail
  refine (tkNum_g w _ B (txtR s) _ HA1.out.tk (by omega)).mono ?_
  rintro e w2 ⟨rfl, h2, g2⟩
  have hA2 := HA1.out.call h2 g2
  obtain ⟨y0, y1, y2, y3, y4, f0, f1, f2, f3, f4⟩ := hA2.cells
  have HA2 := hide (hA2.put (k' := (txtV s)) (a' := (((rv (txtR s)).1 : Nat) : Int)) (b' := 0) (c' := 0) (d' := 0) 1 (.int .i64 (((rv (txtR s)).1 : Nat) : Int)) rfl)
  clear hA2 h2 g2 HA1
  go_wp2_with fail
  refine (tkNum_g w _ B (numT (txtR s)) _ HA2.out.tk (by omega)).mono ?_
  rintro e w3 ⟨rfl, h3, g3⟩
  have hA3 := HA2.out.call h3 g3
  obtain ⟨y0, y1, y2, y3, y4, f0, f1, f2, f3, f4⟩ := hA3.cells
  have HA3 := hide (hA3.put (k' := (txtV s)) (a' := (((rv (txtR s)).1 : Nat) : Int)) (b' := (((rv (numT (txtR s))).1 : Nat) : Int)) (c' := 0) (d' := 0) 2 (.int .i64 (((rv (numT (txtR s))).1 : Nat) : Int)) rfl)
  clear hA3 h3 g3 HA2
  go_wp2_with fail
  refine (tkNum_g w _ B (numT (numT (txtR s))) _ HA3.out.tk (by omega)).mono ?_
  rintro e w4 ⟨rfl, h4, g4⟩
  have hA4 := HA3.out.call h4 g4
  obtain ⟨y0, y1, y2, y3, y4, f0, f1, f2, f3, f4⟩ := hA4.cells
  have HA4 := hide (hA4.put (k' := (txtV s)) (a' := (((rv (txtR s)).1 : Nat) : Int)) (b' := (((rv (numT (txtR s))).1 : Nat) : Int)) (c' := (((rv (numT (numT (txtR s)))).1 : Nat) : Int)) (d' := 0) 3 (.int .i64 (((rv (numT (numT (txtR s)))).1 : Nat) : Int)) rfl)
  clear hA4 h4 g4 HA3
  go_wp2_with fail
  refine (tkNum_g w _ B (numT (numT (numT (txtR s)))) _ HA4.out.tk (by omega)).mono ?_
  rintro e w5 ⟨rfl, h5, g5⟩
  have hA5 := HA4.out.call h5 g5
  obtain ⟨y0, y1, y2, y3, y4, f0, f1, f2, f3, f4⟩ := hA5.cells
  obtain ⟨r0, r1, r2, r3, r4, k0, k1, k2, k3, k4⟩ := cells5 hA5.res
  have HA5 := hide hA5
  have hne : N ≠ W.heap.size := by have := hA5.lt; omega
  have hne2 : W.heap.size ≠ N := by have := hA5.lt; omega
  have HV : Hid (entV s = ⟨txtV s, (((rv (txtR s)).1 : Nat) : Int), (((rv (numT (txtR s))).1 : Nat) : Int), (((rv (numT (numT (txtR s)))).1 : Nat) : Int), (((rv (numT (numT (numT (txtR s))))).1 : Nat) : Int)⟩) := hide rfl
  clear hA5 h5 g5 HA4 hz0 hz1 hz2 hz3
  generalize (((rv (txtR s)).1 : Nat) : Int) = z1 at *
  generalize (((rv (numT (txtR s))).1 : Nat) : Int) = z2 at *
  generalize (((rv (numT (numT (txtR s)))).1 : Nat) : Int) = z3 at *
  generalize (((rv (numT (numT (numT (txtR s))))).1 : Nat) : Int) = z4 at *
  generalize txtV s = key at *
  go_wp2
  refine bodyPost_ret (v := .agg #[.string key, .int .i64 z1, .int .i64 z2, .int .i64 z3, .int .i64 z4]) (by simp [results, Tryd.results46, go_sem, *]) rfl ?_
  rw [HV.out]
  have hp := HA5.out.pos
  have hl := HA5.out.lt
  refine ⟨rfl, ?_, ?_⟩
  · iterate 6 (refine tk_set ?_ _ (by dsimp only; omega) _)
    exact HA5.out.tk
  · iterate 6 (refine grown_setN ?_ _ (by dsimp only; omega) _)
    exact HA5.out.grown

end Go.Proofs.YtimpokbcfjgdaaaDoor
namespace Go.Proofs.YtimpokbcfjgdaaaDoor
open Go.RowKit
open Plain

/-- 'out = append(out, p)', out a row of entries of the call's own, as one step of a statement whose order is open. -/
theorem step_app_ent {ops : Array Oper} {o : Oper} {act : Act} {K : Act → World → Prop} {Q : Exit → Act → World → Prop} {E : Prop} (hgd : o.guard = none) (s x : Operand)
    (ho : o.op = .call { callee := .builtin .append, args := #[s, x], argTypes := #[27, 27] }) {w : World} {base : Nat} {v : Value} {xs : List EntV} (p : EntV) (hown : entSh.Own 41 w base v xs) (hb : base ≤ w.heap.size) (hn : xs.length ≤ 1099511627775)
    {Wp : World} (hWp : Wp = w.alloc (.cells #[.string p.key, .int .i64 p.seg, .int .i64 p.pos, .int .i64 p.len, .int .i64 p.bat] 41)) (hs : act.eval s = v) (hx : act.eval x = .slice (some ⟨w.heap.size, 0, none⟩) 1 1)
    (h : ∀ a' n' cap' w', n' = xs.length + 1 → entSh.Own 41 w' base (.slice a' n' cap') (xs ++ [p]) → w.grownBy w' v.ownBlock → ((Value.slice a' n' cap').ownBlock = v.ownBlock ∨ ∃ g, (Value.slice a' n' cap').ownBlock = some g ∧ w.heap.size ≤ g) → K (act.put o.dst (.slice a' n' cap')) w') :
    if Region.wanted o (yielded ops act.tmps) = true then Oper.wp Tryd.prog o act Wp K Q else E := by
  subst hWp
  rw [if_pos (by simp [Region.wanted, hgd])]
  obtain ⟨i0, hi, hz0, hz1, hz2⟩ := info_parts Tryd.infoEnt
  have hA : Below w.heap.size w (w.alloc (.cells (entSh.cells p).toArray 41)) := (Below.refl _ _).alloc (Nat.le_refl _) _
  have hgA : w.grownBy (w.alloc (.cells (entSh.cells p).toArray 41)) v.ownBlock := ⟨hA.os, hA.tape, hA.output, hA.size, fun k hk _ => hA.block k hk⟩
  have ho1 : (w.alloc (.cells (entSh.cells p).toArray 41)).ownsRow base 41 5 v xs.length (entSh.flat xs) := hown.later hA (Nat.le_refl _)
  have hmul : (xs.length + 1) * 48 ≤ 140737488355328 := by omega
  obtain ⟨v', w', hrun, ho', hg, -, hat⟩ := run_append_own_at (P := Tryd.prog) (w.alloc (.cells (entSh.cells p).toArray 41)) base 27 o.type 41 i0 _ 5 48 Tryd.underlying27 hi hz0 hz1 hz2 rfl (by decide) v xs.length (entSh.flat xs) ho1 ⟨w.heap.size, 0, none⟩ 1 1 (entSh.flat [p]) rfl (Shape.Row.single entSh 41 w p).src (entSh.flat_one [p]) (by unfold maxLen; omega) hmul (Nat.le_trans hb hA.size)
  have hval : ∃ a' cap', v' = .slice a' (xs.length + 1) cap' := by
    rcases ho'.2 with ⟨e, h0⟩ | ⟨g, cap, cur, e, _⟩
    · exact ⟨none, 0, by rw [e, h0]⟩
    · exact ⟨_, _, e⟩
  obtain ⟨a', cap', rfl⟩ := hval
  have hrun' : (Builtin.append_ #[27, 27] o.type #[v, .slice (some ⟨w.heap.size, 0, none⟩) 1 1]).run Tryd.prog (w.alloc (.cells #[.string p.key, .int .i64 p.seg, .int .i64 p.pos, .int .i64 p.len, .int .i64 p.bat] 41)) = .ok (.slice a' (xs.length + 1) cap') w' := hrun
  unfold Oper.wp
  simp [execOp, ho, resolve, invoke, builtin, hs, hx, hrun', Result.andThen]
  refine h a' _ cap' w' rfl ?_ (gchain hgA hg) (hat.imp id (fun e => ⟨_, e, hA.size⟩))
  unfold Shape.Own
  rw [List.length_append, entSh.flat_append]
  exact ho'

end Go.Proofs.YtimpokbcfjgdaaaDoor
