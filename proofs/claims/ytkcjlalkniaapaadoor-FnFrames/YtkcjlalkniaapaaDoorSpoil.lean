/-
  What spec's l1Spoil answers: a text with a byte turned, dropped or added.
-/
import Derived.Test.YtkcjlalkniaapaaDoorDrawT
import Derived.Deep.RegionWith
import Derived.Deep.RegionHeld
namespace Go.Proofs.YtkcjlalkniaapaaDoor
open Go.RowKit
open Plain

/-- A text with a byte turned, dropped or added. -/
def spV (zs : List Int) (s : ByteArray) (st : Nat × Int) : ByteArray :=
  if s.size = 0 then strOfNums (tV zs 3 st)
  else if lV zs 4 (lS zs s.size st) = 0 then s.extract 0 (lV zs s.size st).toNat ++ s.extract ((lV zs s.size st).toNat + 1) s.size
  else if lV zs 4 (lS zs s.size st) = 1 then s.extract 0 (lV zs s.size st).toNat ++ strOfNums [bV zs (lS zs 4 (lS zs s.size st))] ++ s.extract (lV zs s.size st).toNat s.size
  else if lV zs 4 (lS zs s.size st) = 2 then s.extract 0 (lV zs s.size st).toNat
  else s.extract 0 (lV zs s.size st).toNat ++ strOfNums [bits .xor .i64 ((byteAt s (lV zs s.size st).toNat : Nat) : Int) (1 + lV zs 255 (lS zs 4 (lS zs s.size st))) % 256] ++ s.extract ((lV zs s.size st).toNat + 1) s.size

set_option maxRecDepth 100000 in
set_option maxHeartbeats 400000 in
theorem spoil_empty (s : ByteArray) (_hs : s.size ≤ 1000) (w : World) (B : Nat) (a : Option Addr) (len cap : Nat) (zs : List Int) (st : Nat × Int) (hc : CurAt w B a len cap zs st) (hz : s.size = 0) :
    Calls Tryd.prog 64 #[.pointer (some ⟨B, 0, none⟩), .string s] w fun e w' => e = .returned (.string (spV zs s st)) ∧ w.grownBy w' (some B) := by
  have HC := hide hc
  clear hc
  have HV : Hid (spV zs s st = strOfNums (tV zs 3 st)) := hide (by unfold spV; rw [if_pos hz])
  have hq : ((s.size : Int) == 0) = true := by simp [hz]
  clear hz
  go_enter Tryd.func64, Tryd.ntmps64
  go_wp2_with fail
  refine (text_any 3 (by omega) (by omega) w B a len cap zs st HC.out).mono ?_
  rintro e w1 ⟨rfl, _, hg1⟩
  have HG1 := hide hg1
  clear hg1
  go_wp2
  go_ret
  exact ⟨by rw [HV.out]; rfl, HG1.out⟩
set_option maxRecDepth 100000 in
set_option maxHeartbeats 1000000 in
theorem spoil_drop (s : ByteArray) (hs : s.size ≤ 1000) (w : World) (B : Nat) (a : Option Addr) (len cap : Nat) (zs : List Int) (st : Nat × Int) (hc : CurAt w B a len cap zs st) (hz : ¬ s.size = 0) (h0 : lV zs 4 (lS zs s.size st) = 0) :
    Calls Tryd.prog 64 #[.pointer (some ⟨B, 0, none⟩), .string s] w fun e w' => e = .returned (.string (spV zs s st)) ∧ w.grownBy w' (some B) := by
  have HC := hide hc
  clear hc
  have hq : ((s.size : Int) == 0) = false := by rw [beq_eq_false_iff_ne]; omega
  have hb := lV_bd zs (s.size : Int) st (by omega)
  obtain ⟨k, hk⟩ := Int.eq_ofNat_of_zero_le hb.1
  have hk1 : k < s.size := by omega
  have HK : Hid (lV zs s.size st = (k : Int)) := hide hk
  have HK2 : Hid ((lV zs s.size st).toNat = k) := hide (by rw [hk]; exact Int.toNat_natCast k)
  clear hb hk
  have HV : Hid (spV zs s st = s.extract 0 k ++ s.extract (k + 1) s.size) := hide (by unfold spV; rw [if_neg hz, if_pos h0, HK2.out])
  have hq0 : (lV zs 4 (lS zs s.size st) == 0) = true := by simpa using h0
  clear h0 hz
  go_enter Tryd.func64, Tryd.ntmps64
  go_wp2_with fail
  refine (below_any (s.size : Int) w B a len cap zs st HC.out).mono ?_
  rintro e w1 ⟨rfl, hc1, hg1⟩
  rw [HK.out]
  have HC1 := hide hc1
  have HG1 := hide hg1
  clear hc1 hg1
  go_wp2_with fail
  refine (below_any 4 w1 B a len cap zs (lS zs s.size st) HC1.out).mono ?_
  rintro e w2 ⟨rfl, hc2, hg2⟩
  have HG2 := hide (grown_trans HG1.out hg2)
  clear hc2 hg2
  go_wp2
  go_quiet (fail)
  go_wp2
  go_ret
  exact ⟨by rw [HV.out]; rfl, grown_same HG2.out rfl rfl rfl rfl⟩
set_option maxRecDepth 100000 in
set_option maxHeartbeats 2000000 in
theorem spoil_add (s : ByteArray) (hs : s.size ≤ 1000) (w : World) (B : Nat) (a : Option Addr) (len cap : Nat) (zs : List Int) (st : Nat × Int) (hc : CurAt w B a len cap zs st) (hz : ¬ s.size = 0) (h0 : ¬ lV zs 4 (lS zs s.size st) = 0) (h1 : lV zs 4 (lS zs s.size st) = 1) :
    Calls Tryd.prog 64 #[.pointer (some ⟨B, 0, none⟩), .string s] w fun e w' => e = .returned (.string (spV zs s st)) ∧ w.grownBy w' (some B) := by
  have HC := hide hc
  clear hc
  have hq : ((s.size : Int) == 0) = false := by rw [beq_eq_false_iff_ne]; omega
  have hb := lV_bd zs (s.size : Int) st (by omega)
  obtain ⟨k, hk⟩ := Int.eq_ofNat_of_zero_le hb.1
  have hk1 : k < s.size := by omega
  have HK : Hid (lV zs s.size st = (k : Int)) := hide hk
  have HK2 : Hid ((lV zs s.size st).toNat = k) := hide (by rw [hk]; exact Int.toNat_natCast k)
  clear hb hk
  have hq0 : (lV zs 4 (lS zs s.size st) == 0) = false := by simpa using h0
  have HV : Hid (spV zs s st = s.extract 0 k ++ strOfNums [bV zs (lS zs 4 (lS zs s.size st))] ++ s.extract k s.size) := hide (by unfold spV; rw [if_neg hz, if_neg h0, if_pos h1, HK2.out])
  have hq1 : (lV zs 4 (lS zs s.size st) == 1) = true := by simpa using h1
  have hbb := bV_bd zs (lS zs 4 (lS zs s.size st))
  have hw8 : IntKind.u8.wrap (bV zs (lS zs 4 (lS zs s.size st))) = bV zs (lS zs 4 (lS zs s.size st)) := by rw [IntKind.wrap_u8']; omega
  have hcv := cv_one
  have hsz : (strOfNums [bV zs (lS zs 4 (lS zs s.size st))]).size = 1 := by rw [strOfNums_size]; rfl
  clear h0 h1 hz
  go_enter Tryd.func64, Tryd.ntmps64
  go_wp2_with fail
  refine (below_any (s.size : Int) w B a len cap zs st HC.out).mono ?_
  rintro e w1 ⟨rfl, hc1, hg1⟩
  rw [HK.out]
  have HC1 := hide hc1
  have HG1 := hide hg1
  clear hc1 hg1
  go_wp2_with fail
  refine (below_any 4 w1 B a len cap zs (lS zs s.size st) HC1.out).mono ?_
  rintro e w2 ⟨rfl, hc2, hg2⟩
  have HC2 : Hid (CurAt w2.drew B a len cap zs (lS zs 4 (lS zs s.size st))) := hide (hc2.same rfl)
  have HG2 : Hid (w.grownBy w2.drew (some B)) := hide (grown_same (grown_trans HG1.out hg2) rfl rfl rfl rfl)
  clear hc2 hg2
  go_wp2
  go_region_with (go_at_call 57; refine (byte_any w2.drew B a len cap zs (lS zs 4 (lS zs s.size st)) HC2.out).mono ?_; rintro e w3 ⟨rfl, hc3, hg3⟩; have HG3 := hide (grown_trans HG2.out hg3); clear hc3 hg3)
  all_goals
    go_wp2
    go_ret
    exact ⟨by rw [HV.out]; rfl, grown_trans HG3.out (World.grownBy_alloc _ _ _)⟩
set_option maxRecDepth 100000 in
set_option maxHeartbeats 1000000 in
theorem spoil_cut (s : ByteArray) (hs : s.size ≤ 1000) (w : World) (B : Nat) (a : Option Addr) (len cap : Nat) (zs : List Int) (st : Nat × Int) (hc : CurAt w B a len cap zs st) (hz : ¬ s.size = 0) (h0 : ¬ lV zs 4 (lS zs s.size st) = 0) (h1 : ¬ lV zs 4 (lS zs s.size st) = 1) (h2 : lV zs 4 (lS zs s.size st) = 2) :
    Calls Tryd.prog 64 #[.pointer (some ⟨B, 0, none⟩), .string s] w fun e w' => e = .returned (.string (spV zs s st)) ∧ w.grownBy w' (some B) := by
  have HC := hide hc
  clear hc
  have hq : ((s.size : Int) == 0) = false := by rw [beq_eq_false_iff_ne]; omega
  have hb := lV_bd zs (s.size : Int) st (by omega)
  obtain ⟨k, hk⟩ := Int.eq_ofNat_of_zero_le hb.1
  have hk1 : k < s.size := by omega
  have HK : Hid (lV zs s.size st = (k : Int)) := hide hk
  have HK2 : Hid ((lV zs s.size st).toNat = k) := hide (by rw [hk]; exact Int.toNat_natCast k)
  clear hb hk
  have hq0 : (lV zs 4 (lS zs s.size st) == 0) = false := by simpa using h0
  have hq1 : (lV zs 4 (lS zs s.size st) == 1) = false := by simpa using h1
  have HV : Hid (spV zs s st = s.extract 0 k) := hide (by unfold spV; rw [if_neg hz, if_neg h0, if_neg h1, if_pos h2, HK2.out])
  have hq2 : (lV zs 4 (lS zs s.size st) == 2) = true := by simpa using h2
  clear h0 h1 h2 hz
  go_enter Tryd.func64, Tryd.ntmps64
  go_wp2_with fail
  refine (below_any (s.size : Int) w B a len cap zs st HC.out).mono ?_
  rintro e w1 ⟨rfl, hc1, hg1⟩
  rw [HK.out]
  have HC1 := hide hc1
  have HG1 := hide hg1
  clear hc1 hg1
  go_wp2_with fail
  refine (below_any 4 w1 B a len cap zs (lS zs s.size st) HC1.out).mono ?_
  rintro e w2 ⟨rfl, hc2, hg2⟩
  have HG2 := hide (grown_trans HG1.out hg2)
  clear hc2 hg2
  go_wp2
  go_ret
  exact ⟨by rw [HV.out]; rfl, HG2.out⟩

set_option maxRecDepth 100000 in
set_option maxHeartbeats 1000000 in
theorem spoil_turn (s : ByteArray) (hs : s.size ≤ 1000) (w : World) (B : Nat) (a : Option Addr) (len cap : Nat) (zs : List Int) (st : Nat × Int) (hc : CurAt w B a len cap zs st) (hz : ¬ s.size = 0) (h0 : ¬ lV zs 4 (lS zs s.size st) = 0) (h1 : ¬ lV zs 4 (lS zs s.size st) = 1) (h2 : ¬ lV zs 4 (lS zs s.size st) = 2) :
    Calls Tryd.prog 64 #[.pointer (some ⟨B, 0, none⟩), .string s] w fun e w' => e = .returned (.string (spV zs s st)) ∧ w.grownBy w' (some B) := by
  have HC := hide hc
  clear hc
  have hq : ((s.size : Int) == 0) = false := by rw [beq_eq_false_iff_ne]; omega
  have hb := lV_bd zs (s.size : Int) st (by omega)
  obtain ⟨k, hk⟩ := Int.eq_ofNat_of_zero_le hb.1
  have hk1 : k < s.size := by omega
  have HK : Hid (lV zs s.size st = (k : Int)) := hide hk
  have HK2 : Hid ((lV zs s.size st).toNat = k) := hide (by rw [hk]; exact Int.toNat_natCast k)
  clear hb hk
  have hq0 : (lV zs 4 (lS zs s.size st) == 0) = false := by simpa using h0
  have hq1 : (lV zs 4 (lS zs s.size st) == 1) = false := by simpa using h1
  have hq2 : (lV zs 4 (lS zs s.size st) == 2) = false := by simpa using h2
  have hc8 := byteAt_lt s k
  have HV : Hid (spV zs s st = s.extract 0 k ++ strOfNums [bits .xor .i64 ((byteAt s k : Nat) : Int) (1 + lV zs 255 (lS zs 4 (lS zs s.size st))) % 256] ++ s.extract (k + 1) s.size) := hide (by unfold spV; rw [if_neg hz, if_neg h0, if_neg h1, if_neg h2, HK2.out])
  have hbb := lV_bd zs 255 (lS zs 4 (lS zs s.size st)) (by omega)
  have hcv := cv_one
  have e8 : byteAt s k = s[k].toNat := byteAt_eq s k hk1
  rw [e8] at HV hc8
  have hw1 : IntKind.i64.wrap ((s[k].toNat : Nat) : Int) = ((s[k].toNat : Nat) : Int) := by rw [IntKind.wrap_i64]; omega
  have hw2 : IntKind.i64.wrap (1 + lV zs 255 (lS zs 4 (lS zs s.size st))) = 1 + lV zs 255 (lS zs 4 (lS zs s.size st)) := by rw [IntKind.wrap_i64]; omega
  have hw3 : ∀ x : Int, IntKind.u8.wrap x = x % 256 := fun x => IntKind.wrap_u8' x
  have hsz : ∀ x : Int, (strOfNums [x]).size = 1 := fun x => by rw [strOfNums_size]; rfl
  clear h0 h1 h2 hz e8
  go_enter Tryd.func64, Tryd.ntmps64
  go_wp2_with fail
  refine (below_any (s.size : Int) w B a len cap zs st HC.out).mono ?_
  rintro e w1 ⟨rfl, hc1, hg1⟩
  rw [HK.out]
  have HC1 := hide hc1
  have HG1 := hide hg1
  clear hc1 hg1
  go_wp2_with fail
  refine (below_any 4 w1 B a len cap zs (lS zs s.size st) HC1.out).mono ?_
  rintro e w2 ⟨rfl, hc2, hg2⟩
  have HC2 : Hid (CurAt w2.drew B a len cap zs (lS zs 4 (lS zs s.size st))) := hide (hc2.same rfl)
  have HG2 : Hid (w.grownBy w2.drew (some B)) := hide (grown_same (grown_trans HG1.out hg2) rfl rfl rfl rfl)
  clear hc2 hg2
  go_wp2
  have hk2 : (k : Int) < (s.size : Int) := by omega
  have hk3 : (k : Int) + 1 ≤ (s.size : Int) := by omega
  have hk4 : (0 : Int) ≤ (k : Int) + 1 := by omega
  have hw4 : IntKind.i64.wrap ((k : Int) + 1) = (k : Int) + 1 := by rw [IntKind.wrap_i64]; omega
  have hk5 : k ≤ s.size := by omega
  have hix : ∀ wx : World, (Instr.index 9 (.string s) (.int .i64 (k : Int))).run Tryd.prog wx = .ok (.int .u8 ((s[k].toNat : Nat) : Int)) wx := fun wx => by
    have e := run_index_string (P := Tryd.prog) wx 9 s .i64 (k : Int) Tryd.underlying9
    rw [dif_pos ⟨by omega, by omega⟩] at e
    exact e
  go_region_held (fun _ => True) (trivial) ((go_at_call 33; refine (below_any 255 w2.drew B a len cap zs (lS zs 4 (lS zs s.size st)) HC2.out).mono ?_; rintro e w3 ⟨rfl, hc3, hg3⟩; have HG3 := hide (grown_trans HG2.out hg3); clear hc3 hg3))
  all_goals
    go_wp2
    go_ret
    exact ⟨by rw [HV.out]; rfl, grown_trans HG3.out (World.grownBy_alloc _ _ _)⟩
theorem spoil_any (s : ByteArray) (hs : s.size ≤ 1000) (w : World) (B : Nat) (a : Option Addr) (len cap : Nat) (zs : List Int) (st : Nat × Int) (hc : CurAt w B a len cap zs st) :
    Calls Tryd.prog 64 #[.pointer (some ⟨B, 0, none⟩), .string s] w fun e w' => e = .returned (.string (spV zs s st)) ∧ w.grownBy w' (some B) := by
  by_cases hz : s.size = 0
  · exact spoil_empty s hs w B a len cap zs st hc hz
  · by_cases h0 : lV zs 4 (lS zs s.size st) = 0
    · exact spoil_drop s hs w B a len cap zs st hc hz h0
    · by_cases h1 : lV zs 4 (lS zs s.size st) = 1
      · exact spoil_add s hs w B a len cap zs st hc hz h0 h1
      · by_cases h2 : lV zs 4 (lS zs s.size st) = 2
        · exact spoil_cut s hs w B a len cap zs st hc hz h0 h1 h2
        · exact spoil_turn s hs w B a len cap zs st hc hz h0 h1 h2

theorem spV_size (zs : List Int) (s : ByteArray) (st : Nat × Int) : (spV zs s st).size ≤ s.size + 3 := by
  unfold spV
  split
  · have := tV_length zs 3 st (by omega)
    rw [strOfNums_size]
    omega
  · rename_i hz
    have hb := lV_bd zs (s.size : Int) st (by omega)
    split
    · simp [ByteArray.size_append, ByteArray.size_extract]; omega
    · split
      · simp [ByteArray.size_append, ByteArray.size_extract, strOfNums_size]; omega
      · split
        · simp [ByteArray.size_extract]; omega
        · simp [ByteArray.size_append, ByteArray.size_extract, strOfNums_size]; omega

end Go.Proofs.YtkcjlalkniaapaaDoor
