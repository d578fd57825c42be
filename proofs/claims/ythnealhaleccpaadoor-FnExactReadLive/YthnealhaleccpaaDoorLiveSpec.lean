/-
  spec.ShowLive.
-/
import Derived.Test.YthnealhaleccpaaDoorLivePlain
import Derived.Test.YthnealhaleccpaaDoorLiveOkSpec
import Derived.Test.YthnealhaleccpaaDoorFrameSpec
namespace Go.Proofs.YthnealhaleccpaaDoor
open Go.RowKit
open Plain

theorem catV_snoc (l : List Int) (x : Int) : catV (l ++ [x]) = catV l ++ varS x := by
  induction l with
  | nil => rw [List.nil_append, catV, catV, catV]; exact ByteArray.append_empty.trans ByteArray.empty_append.symm
  | cons y r ih => rw [List.cons_append, catV, catV, ih, ByteArray.append_assoc]
/-- Next, how many, and the first k. -/
def bodyK (x : Int) (zs : List Int) (k : Nat) : ByteArray := varS x ++ varS (zs.length : Int) ++ catV (zs.take k)
theorem bodyK_all (x : Int) (zs : List Int) : bodyK x zs zs.length = bodyL ⟨x, zs⟩ := by
  unfold bodyK bodyL
  rw [List.take_length, ByteArray.append_assoc]
theorem bodyK_zero (x : Int) (zs : List Int) : bodyK x zs 0 = varS x ++ varS (zs.length : Int) := by
  unfold bodyK
  rw [List.take_zero]
  exact ByteArray.append_empty
theorem bodyK_succ (x : Int) (zs : List Int) (k : Nat) (h : k < zs.length) : bodyK x zs (k + 1) = bodyK x zs k ++ varS (zs[k]) := by
  unfold bodyK
  rw [List.take_succ_eq_append_getElem h, catV_snoc]
  simp only [ByteArray.append_assoc]
theorem bodyK_size (x : Int) (zs : List Int) (k : Nat) (hk : k ≤ zs.length) : (bodyK x zs k).size ≤ 14 + 7 * k := by
  induction k with
  | zero =>
    rw [bodyK_zero, ByteArray.size_append]
    have := varS_size x
    have := varS_size (zs.length : Int)
    omega
  | succ k ih =>
    rw [bodyK_succ x zs k (by omega), ByteArray.size_append]
    have := varS_size (zs[k]'(by omega))
    have := ih (by omega)
    omega

set_option maxRecDepth 100000 in
set_option maxHeartbeats 4000000 in
theorem specShowL_any (w : World) (x : Int) (a : Option Addr) (n cap : Nat) (zs : List Int) (hr : IRow w 0 a n zs) (hn : n ≤ 1048576) :
    Calls Tryd.prog 8 #[.agg #[.int .i64 x, .slice a n cap]] w fun e w' => e = .returned (.string (showL ⟨x, zs⟩)) ∧ Below w.heap.size w w' := by
  have hlen := hr.len
  obtain ⟨W, hW⟩ : ∃ W, W = w.alloc (.cells #[.int .i64 x, .slice a n cap] 27) := ⟨_, rfl⟩
  have HA : Hid (LvAt w w.heap.size 27 x a n cap zs W) := hide (by rw [hW]; exact LvAt.new 27 x cap hr)
  have HO := hide (specLive_any W x a n cap zs HA.out.ids hn)
  clear hr
  by_cases hb : liveB ⟨x, zs⟩ = true
  · have HV : Hid (showL ⟨x, zs⟩ = frameS (bodyK x zs zs.length)) := hide (by rw [bodyK_all]; exact showL_in hb)
    have hbd := live_bd hb
    have HSZ := hide (bodyK_size x zs)
    rw [hb] at HO
    simp only at hbd
    go_enter Tryd.func8, Tryd.ntmps8
    go_wp2_with fail
    rw [← hW]
    clear hW
    refine HO.out.mono ?_
    rintro e w1 ⟨rfl, hb1⟩
    have HA1 := hide (HA.out.later hb1)
    clear HA HO hb1
    have HK : Hid (∀ W', LvAt w w.heap.size 27 x a n cap zs W' → W'.cell? ⟨w.heap.size, 0, none⟩ = some (.int .i64 x) ∧ W'.cell? ⟨w.heap.size, 1, none⟩ = some (.slice a n cap) ∧ Hid (LvAt w w.heap.size 27 x a n cap zs W')) := hide (fun W' h => ⟨h.cells.1, h.cells.2, hide h⟩)
    have hS1 := HK.out _ (HA1.out.later (Below.refl _ _).drew)
    have HV1 := hide (specVar_any x)
    have HV2 := hide (specVar_any (n : Int))
    have hs1 := varS_size x
    have hs2 := varS_size (n : Int)
    have hz1 : ¬ 9223372036854775807 < (varS x).size + (varS (n : Int)).size := by omega
    have HB0 : Hid (bodyK x zs 0 = varS x ++ varS (n : Int)) := hide (by rw [bodyK_zero, hlen])
    clear hs1 hs2 HA1
    generalize varS x = vx at *
    generalize varS (n : Int) = vn at *
    go_wp2_with fail
    go_region_held3 (fun W' => W'.cell? ⟨w.heap.size, 0, none⟩ = some (.int .i64 x) ∧ W'.cell? ⟨w.heap.size, 1, none⟩ = some (.slice a n cap) ∧ Hid (LvAt w w.heap.size 27 x a n cap zs W')) (assumption) (first
      | (go_at_call_of 22 (Value.int IntKind.i64 x); refine (HV1.out _).mono ?_; rintro e w4 ⟨rfl, hb4⟩; have hS4 := HK.out w4 (hS1.2.2.out.later hb4))
      | (go_at_call 22; refine (HV2.out _).mono ?_; rintro e w5 ⟨rfl, hb5⟩; have hS5 := HK.out w5 (hS4.2.2.out.later hb5)))
    have HA5 := hide hS5.2.2.out
    clear hS5 hb5 hS4 hb4 hS1 HV1 HV2 HK
    rw [← HB0.out]
    clear HB0 hz1
    go_wp2
    go_loopw [3, 4] (fun v i wr => ∃ k : Nat, k ≤ n ∧ v = .string (bodyK x zs k) ∧ i = .int .i64 k ∧ Hid (LvAt w w.heap.size 27 x a n cap zs wr)) (fun _ i _ => n - (intOf i).toNat)
    case atStart => exact ⟨0, by omega, rfl, rfl, HA5⟩
    case round =>
      clear HA5
      obtain ⟨k, hk, rfl, rfl, HA⟩ := hrel
      obtain ⟨y0, y1⟩ := HA.out.cells
      have hsk := HSZ.out k (by omega)
      by_cases hlt : k < n
      · have hkz : k < zs.length := by omega
        obtain ⟨b, off, rfl, -, hbw, e1⟩ := HA.out.ids.cells k hkz
        have HV1 := hide (specVar_any (zs[k]))
        have h7 := varS_size (zs[k])
        have HC : Hid (bodyK x zs (k + 1) = bodyK x zs k ++ varS (zs[k])) := hide (bodyK_succ x zs k hkz)
        have z1 : ¬ 9223372036854775807 < (bodyK x zs k).size + (varS (zs[k])).size := by omega
        obtain ⟨z, hz⟩ : ∃ z, zs[k] = z := ⟨_, rfl⟩
        rw [hz] at e1 HV1 HC z1
        clear hz h7 hsk
        generalize varS z = S at *
        generalize bodyK x zs k = A at *
        have hk2 : (k : Int) < (n : Int) := by omega
        go_wp2_with fail
        refine (HV1.out _).mono ?_
        rintro e w4 ⟨rfl, hb4⟩
        have HA4 := hide (HA.out.later hb4)
        clear hb4 HA HV1 y0 y1 e1
        go_wp2
        go_roundw
        case rel => exact ⟨k + 1, by omega, by rw [HC.out], by go_num, HA4⟩
        case measure => first | (simp [intOf]; done) | (simp [intOf]; omega)
      · obtain rfl : k = n := by omega
        have HF := hide (specFrame_any (bodyK x zs k) (by omega))
        have HE : Hid (showL ⟨x, zs⟩ = frameS (bodyK x zs k)) := hide (by rw [HV.out, hlen])
        generalize frameS (bodyK x zs k) = F at *
        go_wp2_with fail
        refine (HF.out _).mono ?_
        rintro e w4 ⟨rfl, hb4⟩
        have HB := hide (HA.out.later hb4).bel
        clear hb4 HA HF y0 y1
        go_wp2
        go_ret
        exact ⟨by rw [HE.out]; rfl, HB.out⟩
  · have hb : liveB ⟨x, zs⟩ = false := by simpa using hb
    have HV : Hid (showL ⟨x, zs⟩ = ⟨#[]⟩) := hide (showL_out hb)
    rw [hb] at HO
    clear hb
    go_enter Tryd.func8, Tryd.ntmps8
    go_wp2_with fail
    rw [← hW]
    clear hW
    refine HO.out.mono ?_
    rintro e w1 ⟨rfl, hb1⟩
    have HB := hide (HA.out.later hb1).bel
    clear HA HO hb1
    go_wp2
    go_ret
    exact ⟨by rw [HV.out]; rfl, HB.out⟩

end Go.Proofs.YthnealhaleccpaaDoor
