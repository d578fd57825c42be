/-
  impl.ShowLive, out of a strings.Builder, under what the package's table holds.
-/
import Derived.Test.YthnealhaleccpaaDoorLivePlain
import Derived.Test.YthnealhaleccpaaDoorLiveSpec
import Derived.Test.YthnealhaleccpaaDoorLiveOkImpl
import Derived.Test.YthnealhaleccpaaDoorFrameImpl
import Derived.Test.YthnealhaleccpaaDoorBuilderI
namespace Go.Proofs.YthnealhaleccpaaDoor
open Go.RowKit
open Plain

theorem isb_later {B b : Nat} {bs : List Value} {w w' : World} (h : Lib.IsBuilder 44 5 B b bs w) (hb : Below w.heap.size w w') : Lib.IsBuilder 44 5 B b bs w' := by
  rcases h with h | h
  · exact .inl (bld_later h hb)
  · exact .inr (bld_later h hb)
theorem strCells_append (s t : ByteArray) : Lib.strCells (s ++ t) = Lib.strCells s ++ Lib.strCells t := by
  unfold Lib.strCells
  rw [ByteArray.data_append, Array.toList_append, List.map_append]
theorem isb_lt {B b : Nat} {bs : List Value} {w : World} (h : Lib.IsBuilder 44 5 B b bs w) : b < w.heap.size := by
  rcases h with h | h
  · exact h.lt
  · exact h.lt
/-- A list's block stands where only blocks from its own successor on were written. -/
theorem LvAt.over {w : World} {B : Nat} {T : TypeId} {x : Int} {a : Option Addr} {n cap : Nat} {zs : List Int} {W W' : World} {K : Nat} (h : LvAt w B T x a n cap zs W) (hr : IRow w 0 a n zs) (hb : Below K W W') (hB : B < K) (hK : w.heap.size ≤ K) : LvAt w B T x a n cap zs W' :=
  ⟨(hb.block _ hB).trans h.row, hr.later (h.bel.trans (hb.mono hK)) (Nat.le_refl _), h.bel.trans (hb.mono hK)⟩

set_option maxRecDepth 100000 in
set_option maxHeartbeats 4000000 in
theorem implShowL_any (w : World) (ht : STab w) (x : Int) (a : Option Addr) (n cap : Nat) (zs : List Int) (hr : IRow w 0 a n zs) (hn : n ≤ 1048576) :
    Calls Tryd.prog 10 #[.agg #[.int .i64 x, .slice a n cap]] w fun e w' => e = .returned (.string (showL ⟨x, zs⟩)) ∧ Below w.heap.size w w' := by
  have hlen := hr.len
  obtain ⟨W, hW⟩ : ∃ W, W = w.alloc (.cells #[.int .i64 x, .slice a n cap] 27) := ⟨_, rfl⟩
  have HA : Hid (LvAt w w.heap.size 27 x a n cap zs W) := hide (by rw [hW]; exact LvAt.new 27 x cap hr)
  obtain ⟨y0, y1⟩ := HA.out.cells
  have HO := hide (implLive_any W x a n cap zs HA.out.ids hn)
  have HR := hide hr
  have HT := hide ht
  clear hr ht
  by_cases hb : liveB ⟨x, zs⟩ = true
  · have HV : Hid (showL ⟨x, zs⟩ = frameS (bodyK x zs zs.length)) := hide (by rw [bodyK_all]; exact showL_in hb)
    have hbd := live_bd hb
    have HSZ := hide (bodyK_size x zs)
    rw [hb] at HO
    simp only at hbd
    go_enter Tryd.func10, Tryd.ntmps10
    go_wp2_with fail
    rw [← hW]
    clear hW
    refine HO.out.mono ?_
    rintro e w1 ⟨rfl, hb1⟩
    have HA1 := hide (HA.out.later hb1)
    clear HA HO hb1 y0 y1
    have HF := hide (Lib.fresh_isBuilder 44 5 w1)
    have HLT : Hid (w.heap.size < w1.heap.size) := hide (lt_of_block HA1.out.row)
    have hA2 := HA1.out.later (al1 w1 (.cells #[.pointer none, .slice none 0 0] 44))
    have HK : Hid (∀ W', LvAt w w.heap.size 27 x a n cap zs W' → W'.cell? ⟨w.heap.size, 0, none⟩ = some (.int .i64 x) ∧ W'.cell? ⟨w.heap.size, 1, none⟩ = some (.slice a n cap) ∧ Hid (LvAt w w.heap.size 27 x a n cap zs W')) := hide (fun W' h => ⟨h.cells.1, h.cells.2, hide h⟩)
    have HKW : Hid (∀ W' W'', LvAt w w.heap.size 27 x a n cap zs W' → Below w1.heap.size W' W'' → LvAt w w.heap.size 27 x a n cap zs W'') := hide (fun W' W'' h hb => h.over HR.out hb HLT.out (Nat.le_of_lt HLT.out))
    have hS1 := HK.out _ (hA2.later (Below.refl _ _).drew)
    have HI1 := hide (isb_later HF.out (Below.refl _ _).drew)
    have HV1 := hide (implVar_any x)
    have HV2 := hide (implVar_any (n : Int))
    have hs1 := varS_size x
    have hs2 := varS_size (n : Int)
    have hz1 : ¬ 9223372036854775807 < (varS x).size + (varS (n : Int)).size := by omega
    have HB0 : Hid (bodyK x zs 0 = varS x ++ varS (n : Int)) := hide (by rw [bodyK_zero, hlen])
    have HWR : Hid (∀ W', Lib.IsBuilder 44 5 w1.heap.size w1.heap.size [] W' → Calls Tryd.prog 26 #[.pointer (some ⟨w1.heap.size, 0, none⟩), .string (varS x ++ varS (n : Int))] W' fun e w' => (∃ y, e = .returned (.tuple #[.int .i64 y, .nilIface])) ∧ Lib.IsBuilder 44 5 w1.heap.size w1.heap.size (Lib.strCells (bodyK x zs 0)) w' ∧ Below w1.heap.size W' w') := hide (fun W' h =>
      (bldWrite_any w1.heap.size w1.heap.size [] (varS x ++ varS (n : Int)) W' h (by rw [ByteArray.size_append]; simp; omega) (Nat.le_of_lt (isb_lt h))).mono (fun e w' ⟨h1, h2, h3⟩ => ⟨⟨_, h1⟩, by rw [HB0.out]; exact .inr h2, h3⟩))
    clear hs1 hs2 hA2 HF HB0
    generalize varS x = vx at *
    generalize varS (n : Int) = vn at *
    go_wp2_with fail
    go_region_held3 (fun W' => W'.cell? ⟨w.heap.size, 0, none⟩ = some (.int .i64 x) ∧ W'.cell? ⟨w.heap.size, 1, none⟩ = some (.slice a n cap) ∧ Hid (LvAt w w.heap.size 27 x a n cap zs W')) (assumption) (first
      | (go_at_call_of 27 (Value.int IntKind.i64 x); refine (HV1.out _).mono ?_; rintro e w4 ⟨rfl, hb4⟩; have hS4 := HK.out w4 (hS1.2.2.out.later hb4); have HI4 := hide (isb_later HI1.out hb4))
      | (go_at_call 27; refine (HV2.out _).mono ?_; rintro e w5 ⟨rfl, hb5⟩; have hS5 := HK.out w5 (hS4.2.2.out.later hb5); have HI5 := hide (isb_later HI4.out hb5))
      | (go_at_call 26; refine (HWR.out w5 HI5.out).mono ?_; rintro e w6 ⟨⟨y6, rfl⟩, hI6, hb6⟩; have hS6 := HK.out w6 (HKW.out w5 w6 hS5.2.2.out hb6)))
    have HA6 := hide hS6.2.2.out
    have HI6 := hide hI6
    clear hS6 hb6 hI6 HI5 hS5 hb5 HI4 hS4 hb4 HI1 hS1 HV1 HV2 HWR
    obtain ⟨y0, y1⟩ := HA6.out.cells
    go_wp2
    clear y0 y1
    go_loopw [21] (fun i wr => ∃ k : Nat, k ≤ n ∧ i = .int .i64 k ∧ Hid (Lib.IsBuilder 44 5 w1.heap.size w1.heap.size (Lib.strCells (bodyK x zs k)) wr) ∧ Hid (LvAt w w.heap.size 27 x a n cap zs wr)) (fun i _ => n - (intOf i).toNat)
    case atStart => exact ⟨0, by omega, rfl, HI6, HA6⟩
    case round =>
      clear HA6 HI6
      obtain ⟨k, hk, rfl, HI, HA⟩ := hrel
      have hsk := HSZ.out k (by omega)
      by_cases hlt : k < n
      · have hkz : k < zs.length := by omega
        obtain ⟨b, off, rfl, -, hbw, e1⟩ := HA.out.ids.cells k hkz
        have HV1 := hide (implVar_any (zs[k]))
        have h7 := varS_size (zs[k])
        have HC : Hid (bodyK x zs (k + 1) = bodyK x zs k ++ varS (zs[k])) := hide (bodyK_succ x zs k hkz)
        obtain ⟨z, hz⟩ : ∃ z, zs[k] = z := ⟨_, rfl⟩
        rw [hz] at e1 HV1 HC h7
        clear hz
        generalize varS z = S at *
        generalize bodyK x zs k = A at *
        have hk2 : (k : Int) < (n : Int) := by omega
        go_wp2_with fail
        refine (HV1.out _).mono ?_
        rintro e w4 ⟨rfl, hb4⟩
        have HA4 := hide (HA.out.later hb4)
        have HI4 := hide (isb_later HI.out hb4)
        have HW := hide (bldWrite_any w1.heap.size w1.heap.size (Lib.strCells A) S w4 HI4.out (by rw [Lib.strCells_length]; omega) (Nat.le_of_lt (isb_lt HI4.out)))
        clear hb4 HA HI HI4 HV1 e1
        go_wp2_with fail
        refine HW.out.mono ?_
        rintro e w5 ⟨rfl, hI5, hb5⟩
        have HA5 := hide (HKW.out w4 w5 HA4.out hb5)
        have HI5 : Hid (Lib.IsBuilder 44 5 w1.heap.size w1.heap.size (Lib.strCells (bodyK x zs (k + 1))) w5) := hide (by rw [HC.out, strCells_append]; exact .inr hI5)
        clear hI5 hb5 HA4 HW
        go_wp2
        go_roundw
        case rel => exact ⟨k + 1, by omega, by go_num, HI5, HA5⟩
        case measure => first | (simp [intOf]; done) | (simp [intOf]; omega)
      · obtain rfl : k = n := by omega
        have HS := hide (bldString_any w1.heap.size w1.heap.size (bodyK x zs k) wr HI.out (Nat.le_of_lt (isb_lt HI.out)))
        have HF := hide (fun W h => implFrame_any (bodyK x zs k) (by omega) W h)
        have HE : Hid (showL ⟨x, zs⟩ = frameS (bodyK x zs k)) := hide (by rw [HV.out, hlen])
        generalize frameS (bodyK x zs k) = F at *
        generalize bodyK x zs k = A at *
        go_wp2_with fail
        refine HS.out.mono ?_
        rintro e w4 ⟨rfl, hb4⟩
        have HB4 := hide (HKW.out wr w4 HA.out hb4).bel
        clear hb4 HA HI HS
        go_wp2_with fail
        refine (HF.out _ (HT.out.later HB4.out)).mono ?_
        rintro e w5 ⟨rfl, hb5⟩
        have HB5 := hide (HB4.out.trans (hb5.mono HB4.out.size))
        clear hb5 HB4 HF
        go_wp2
        go_ret
        exact ⟨by rw [HE.out]; rfl, HB5.out⟩
  · have hb : liveB ⟨x, zs⟩ = false := by simpa using hb
    have HV : Hid (showL ⟨x, zs⟩ = ⟨#[]⟩) := hide (showL_out hb)
    rw [hb] at HO
    clear hb y0 y1
    go_enter Tryd.func10, Tryd.ntmps10
    go_wp2_with fail
    rw [← hW]
    clear hW
    refine HO.out.mono ?_
    rintro e w1 ⟨rfl, hb1⟩
    have HB := hide (HA.out.later hb1).bel
    clear HA HO hb1
    go_wp2
    go_ret
    exact ⟨by rw [HV.out]; rfl, HB.out⟩

end Go.Proofs.YthnealhaleccpaaDoor
