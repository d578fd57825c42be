/-
  What spec's l1Spoil and DrawReadVar answer: functions of the bytes alone; they make new memory only.
-/
import Derived.Test.YtelfhodaahpggacDoorDraw1
import Derived.Test.YtelfhodaahpggacDoorVarStr
import Derived.Deep.RegionHeld
namespace Go.Proofs.YtelfhodaahpggacDoor
open Go.RowKit
open Plain

set_option maxRecDepth 100000 in
set_option maxHeartbeats 1000000 in
theorem spoil_turn (s : ByteArray) (hs : s.size ≤ 1000) (w : World) (B : Nat) (a : Option Addr) (len cap : Nat) (zs : List Int) (st : Nat × Int) (hc : CurAt w B a len cap zs st) (hz : ¬ s.size = 0) (h0 : ¬ lV zs 4 (lS zs s.size st) = 0) (h1 : ¬ lV zs 4 (lS zs s.size st) = 1) (h2 : ¬ lV zs 4 (lS zs s.size st) = 2) :
    Calls Tryd.prog 26 #[.pointer (some ⟨B, 0, none⟩), .string s] w fun e w' => e = .returned (.string (spV zs s st)) ∧ w.grownBy w' (some B) := by
  have HC := hide hc
  clear hc
  have hq : ((s.size : Int) == 0) = false := by rw [beq_eq_false_iff_ne]; omega
  have hb := lV_bd zs (s.size : Int) st (by omega)
  obtain ⟨k, hk⟩ := Int.eq_ofNat_of_zero_le hb.1
  have hk1 : k < s.size := by omega
  have HK : Hid (lV zs s.size st = (k : Int)) := hide hk
  have HK2 : Hid ((lV zs s.size st).toNat = k) := hide (by rw [hk]; exact Int.toNat_natCast k)
  clear hb hk
  have hq0 : (lV zs 4 (lS zs s.size st) == 0) = false := by simpa using h0
  have hq1 : (lV zs 4 (lS zs s.size st) == 1) = false := by simpa using h1
  have hq2 : (lV zs 4 (lS zs s.size st) == 2) = false := by simpa using h2
  have hc8 := byteAt_lt s k
  have HV : Hid (spV zs s st = s.extract 0 k ++ strOfNums [bits .xor .i64 ((byteAt s k : Nat) : Int) (1 + lV zs 255 (lS zs 4 (lS zs s.size st))) % 256] ++ s.extract (k + 1) s.size) := hide (by unfold spV; rw [if_neg hz, if_neg h0, if_neg h1, if_neg h2, HK2.out])
  have hbb := lV_bd zs 255 (lS zs 4 (lS zs s.size st)) (by omega)
  have hcv := cv_one
  have e8 : byteAt s k = s[k].toNat := byteAt_eq s k hk1
  rw [e8] at HV hc8
  have hw1 : IntKind.i64.wrap ((s[k].toNat : Nat) : Int) = ((s[k].toNat : Nat) : Int) := by rw [IntKind.wrap_i64]; omega
  have hw2 : IntKind.i64.wrap (1 + lV zs 255 (lS zs 4 (lS zs s.size st))) = 1 + lV zs 255 (lS zs 4 (lS zs s.size st)) := by rw [IntKind.wrap_i64]; omega
  have hw3 : ∀ x : Int, IntKind.u8.wrap x = x % 256 := fun x => IntKind.wrap_u8' x
  have hsz : ∀ x : Int, (strOfNums [x]).size = 1 := fun x => by rw [strOfNums_size]; rfl
  clear h0 h1 h2 hz e8
  go_enter Tryd.func26, Tryd.ntmps26
  go_wp2_with fail
  refine (below_any (s.size : Int) w B a len cap zs st HC.out).mono ?_
  rintro e w1 ⟨rfl, hc1, hg1⟩
  rw [HK.out]
  have HC1 := hide hc1
  have HG1 := hide hg1
  clear hc1 hg1
  go_wp2_with fail
  refine (below_any 4 w1 B a len cap zs (lS zs s.size st) HC1.out).mono ?_
  rintro e w2 ⟨rfl, hc2, hg2⟩
  have HC2 : Hid (CurAt w2.drew B a len cap zs (lS zs 4 (lS zs s.size st))) := hide (hc2.same rfl)
  have HG2 : Hid (w.grownBy w2.drew (some B)) := hide (grown_same (grown_trans HG1.out hg2) rfl rfl rfl rfl)
  clear hc2 hg2
  go_wp2
  have hk2 : (k : Int) < (s.size : Int) := by omega
  have hk3 : (k : Int) + 1 ≤ (s.size : Int) := by omega
  have hk4 : (0 : Int) ≤ (k : Int) + 1 := by omega
  have hw4 : IntKind.i64.wrap ((k : Int) + 1) = (k : Int) + 1 := by rw [IntKind.wrap_i64]; omega
  have hk5 : k ≤ s.size := by omega
  have hix : ∀ wx : World, (Instr.index 9 (.string s) (.int .i64 (k : Int))).run Tryd.prog wx = .ok (.int .u8 ((s[k].toNat : Nat) : Int)) wx := fun wx => by
    have e := run_index_string (P := Tryd.prog) wx 9 s .i64 (k : Int) Tryd.underlying9
    rw [dif_pos ⟨by omega, by omega⟩] at e
    exact e
  go_region_held (fun _ => True) (trivial) ((go_at_call 27; refine (below_any 255 w2.drew B a len cap zs (lS zs 4 (lS zs s.size st)) HC2.out).mono ?_; rintro e w3 ⟨rfl, hc3, hg3⟩; have HG3 := hide (grown_trans HG2.out hg3); clear hc3 hg3))
  all_goals
    go_wp2
    go_ret
    exact ⟨by rw [HV.out]; rfl, grown_trans HG3.out (World.grownBy_alloc _ _ _)⟩
theorem spoil_any (s : ByteArray) (hs : s.size ≤ 1000) (w : World) (B : Nat) (a : Option Addr) (len cap : Nat) (zs : List Int) (st : Nat × Int) (hc : CurAt w B a len cap zs st) :
    Calls Tryd.prog 26 #[.pointer (some ⟨B, 0, none⟩), .string s] w fun e w' => e = .returned (.string (spV zs s st)) ∧ w.grownBy w' (some B) := by
  by_cases hz : s.size = 0
  · exact spoil_empty s hs w B a len cap zs st hc hz
  · by_cases h0 : lV zs 4 (lS zs s.size st) = 0
    · exact spoil_drop s hs w B a len cap zs st hc hz h0
    · by_cases h1 : lV zs 4 (lS zs s.size st) = 1
      · exact spoil_add s hs w B a len cap zs st hc hz h0 h1
      · by_cases h2 : lV zs 4 (lS zs s.size st) = 2
        · exact spoil_cut s hs w B a len cap zs st hc hz h0 h1 h2
        · exact spoil_turn s hs w B a len cap zs st hc hz h0 h1 h2

theorem spV_size (zs : List Int) (s : ByteArray) (st : Nat × Int) : (spV zs s st).size ≤ s.size + 3 := by
  unfold spV
  split
  · have := tV_length zs 3 st (by omega)
    rw [strOfNums_size]
    omega
  · rename_i hz
    have hb := lV_bd zs (s.size : Int) st (by omega)
    split
    · simp [ByteArray.size_append, ByteArray.size_extract]; omega
    · split
      · simp [ByteArray.size_append, ByteArray.size_extract, strOfNums_size]; omega
      · split
        · simp [ByteArray.size_extract]; omega
        · simp [ByteArray.size_append, ByteArray.size_extract, strOfNums_size]; omega

theorem specVar_any (n : Int) (w : World) : Calls Tryd.prog 24 #[.int .i64 n] w fun e w' => e = .returned (.string (varS n)) ∧ Below w.heap.size w w' := by
  by_cases h : 0 ≤ n ∧ n ≤ 562949953421311
  · have e : varS n = strOfNums (vb n.toNat) := by unfold varS; rw [if_pos h]
    rw [e]
    obtain ⟨m, rfl⟩ := Int.eq_ofNat_of_zero_le h.1
    rw [Int.toNat_natCast]
    exact specVar_yes m w (by omega)
  · have e : varS n = ⟨#[]⟩ := by unfold varS; rw [if_neg h]
    rw [e]
    refine (specVar_no n w (by omega)).mono ?_
    rintro e w' ⟨rfl, rfl⟩
    exact ⟨rfl, Below.refl _ _⟩

/-- The text that DrawReadVar draws. -/
def drS (zs : List Int) : ByteArray := varS (nV zs (st0 zs)) ++ strOfNums (tV zs 4 (nS zs (st0 zs)))
def drV (zs : List Int) : ByteArray := if lV zs 4 (tE zs 4 (nS zs (st0 zs))) = 0 then spV zs (drS zs) (lS zs 4 (tE zs 4 (nS zs (st0 zs)))) else drS zs
theorem drS_size (zs : List Int) : (drS zs).size ≤ 11 := by
  unfold drS
  have h1 := varS_size (nV zs (st0 zs))
  have h2 := tV_length zs 4 (nS zs (st0 zs)) (by omega)
  rw [ByteArray.size_append, strOfNums_size]
  omega
theorem drV_size (zs : List Int) : (drV zs).size ≤ 14 := by
  unfold drV
  have h := drS_size zs
  split
  · have := spV_size zs (drS zs) (lS zs 4 (tE zs 4 (nS zs (st0 zs))))
    omega
  · omega

set_option maxRecDepth 100000 in
set_option maxHeartbeats 1000000 in
theorem drawReadVar (w : World) (a : Option Addr) (len cap : Nat) (zs : List Int) (hc : CodeAt w a len zs) :
    Calls Tryd.prog 15 #[.slice a len cap] w fun e w' => e = .returned (.string (drV zs)) ∧ Below w.heap.size w w' := by
  have HC := hide hc
  clear hc
  have hz1 := varS_size (nV zs (st0 zs))
  have hz2 : (strOfNums (tV zs 4 (nS zs (st0 zs)))).size ≤ 4 := by
    have := tV_length zs 4 (nS zs (st0 zs)) (by omega)
    rw [strOfNums_size]; omega
  have hz3 := drS_size zs
  have HD : Hid (drS zs = varS (nV zs (st0 zs)) ++ strOfNums (tV zs 4 (nS zs (st0 zs)))) := hide rfl
  go_enter Tryd.func15, Tryd.ntmps15
  go_wp2_with fail
  refine (new_any w a len cap zs HC.out).mono ?_
  rintro e w1 ⟨rfl, hc1, hb1⟩
  have HC1 := hide hc1
  have HB1 := hide hb1
  clear hc1 hb1
  go_wp2_with fail
  refine (num_any w1 w.heap.size a len cap zs (st0 zs) HC1.out).mono ?_
  rintro e w2 ⟨rfl, hc2, hg2⟩
  have HC2 := hide hc2
  have HB2 := hide (below_cur HB1.out hg2)
  have hlt2 : w.heap.size < w2.heap.size := lt_of_block hc2.row
  clear hc2 hg2 HC1 HB1
  go_wp2_with fail
  refine (specVar_any (nV zs (st0 zs)) w2).mono ?_
  rintro e w3 ⟨rfl, hb3⟩
  have HC3 := hide (HC2.out.below hb3 hlt2)
  have HB3 := hide (HB2.out.trans (hb3.mono HB2.out.size))
  clear hb3 HC2 HB2
  go_wp2_with fail
  refine (text_any 4 (by omega) (by omega) w3 w.heap.size a len cap zs (nS zs (st0 zs)) HC3.out).mono ?_
  rintro e w4 ⟨rfl, hc4, hg4⟩
  have HC4 := hide hc4
  have HB4 := hide (below_cur HB3.out hg4)
  clear hc4 hg4 HC3 HB3
  go_wp2_with fail
  rw [← HD.out]
  refine (once_any 4 w4 w.heap.size a len cap zs (tE zs 4 (nS zs (st0 zs))) HC4.out).mono ?_
  rintro e w5 ⟨rfl, hc5, hg5⟩
  have HC5 := hide hc5
  have HB5 := hide (below_cur HB4.out hg5)
  clear hc5 hg5 HC4 HB4 HD hz1 hz2
  have HV : Hid (drV zs = if lV zs 4 (tE zs 4 (nS zs (st0 zs))) = 0 then spV zs (drS zs) (lS zs 4 (tE zs 4 (nS zs (st0 zs)))) else drS zs) := hide rfl
  generalize drS zs = s at *
  generalize lV zs 4 (tE zs 4 (nS zs (st0 zs))) = d at *
  by_cases h0 : d = 0
  · have hq : (d == 0) = true := by simpa using h0
    have HW : Hid (drV zs = spV zs s (lS zs 4 (tE zs 4 (nS zs (st0 zs))))) := hide (by rw [HV.out, if_pos h0])
    clear HV h0
    rw [hq]
    go_wp2_with fail
    refine (spoil_any s (by omega) w5 w.heap.size a len cap zs _ HC5.out).mono ?_
    rintro e w6 ⟨rfl, hg6⟩
    have HB6 := hide (below_cur HB5.out hg6)
    clear hg6
    go_wp2
    go_ret
    exact ⟨by rw [HW.out]; rfl, HB6.out⟩
  · have hq : (d == 0) = false := by simpa using h0
    have HW : Hid (drV zs = s) := hide (by rw [HV.out, if_neg h0])
    clear HV h0
    rw [hq]
    go_wp2
    go_ret
    exact ⟨by rw [HW.out]; rfl, HB5.out⟩

end Go.Proofs.YtelfhodaahpggacDoor
