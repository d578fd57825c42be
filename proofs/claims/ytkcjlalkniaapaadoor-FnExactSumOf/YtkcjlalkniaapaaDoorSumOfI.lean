/-
  impl.SumOf: the sum of records' texts, one behind the other, out of a strings.Builder.
-/
import Derived.Test.YtkcjlalkniaapaaDoorBuilderI
import Derived.Test.YtkcjlalkniaapaaDoorSumOfSpec
import Derived.Test.YtkcjlalkniaapaaDoorShowRecI
import Derived.Test.YtkcjlalkniaapaaDoorCrcImpl
namespace Go.Proofs.YtkcjlalkniaapaaDoor
open Go.RowKit
open Plain

theorem isb_later {B b : Nat} {bs : List Value} {w w' : World} (h : Lib.IsBuilder 83 5 B b bs w) (hb : Below w.heap.size w w') : Lib.IsBuilder 83 5 B b bs w' := by
  rcases h with h | h
  · exact .inl (bld_later h hb)
  · exact .inr (bld_later h hb)
theorem strCells_append (s t : ByteArray) : Lib.strCells (s ++ t) = Lib.strCells s ++ Lib.strCells t := by
  unfold Lib.strCells
  rw [ByteArray.data_append, Array.toList_append, List.map_append]

set_option maxRecDepth 100000 in
set_option maxHeartbeats 2000000 in
theorem implSumOf_any (w : World) (ht : STab w) (a : Option Addr) (n cap : Nat) (xs : List RecV) (hr : recSh.Row w a n xs) (hn : n ≤ 1048576) :
    Calls Tryd.prog 28 #[.slice a n cap] w fun e w' => e = .returned (.int .i64 (crcN (cat xs) : Nat)) ∧ Below w.heap.size w w' := by
  have HR := hide hr
  have hlen := hr.len
  have HT := hide ht
  have HF := hide (Lib.fresh_isBuilder 83 5 w)
  clear hr ht
  go_enter Tryd.func28, Tryd.ntmps28
  go_wp2
  go_loopw [8] (fun x wr => ∃ k : Nat, k ≤ n ∧ x = .int .i64 k ∧ Hid (Lib.IsBuilder 83 5 w.heap.size w.heap.size (Lib.strCells (cat (xs.take k))) wr) ∧ Hid (Below w.heap.size w wr)) (fun x _ => n - (intOf x).toNat)
  case atStart => exact ⟨0, by omega, rfl, HF, hide (al1 w _)⟩
  case round =>
    clear HF
    obtain ⟨k, hk, rfl, HI, HB⟩ := hrel
    have hcs := cat_size xs k (by omega)
    by_cases hlt : k < n
    · have hkx : k < xs.length := by omega
      obtain ⟨b, off, rfl, hbw, c0, c1, c2, c3, c4, c5⟩ := rec_cells (HR.out.later HB.out) k hkx
      have HSH := hide (implShow_any (xs[k]))
      have h60 := show_size' (xs[k])
      have HC : Hid (cat (xs.take (k + 1)) = cat (xs.take k) ++ showS (xs[k])) := hide (cat_succ xs k hkx)
      generalize showS (xs[k]) = S at *
      generalize cat (xs.take k) = A at *
      have hk2 : (k : Int) < (n : Int) := by omega
      go_wp2_with fail
      refine (HSH.out _).mono ?_
      rintro e w1 ⟨rfl, hb1⟩
      have hb2 : Below wr.heap.size wr w1 := (al1 wr _).trans (hb1.mono (al1 wr _).size)
      have HB1 := hide (HB.out.trans (hb2.mono HB.out.size))
      have HI1 := hide (isb_later HI.out hb2)
      have HW := hide (bldWrite_any w.heap.size w.heap.size (Lib.strCells A) S w1 HI1.out (by rw [Lib.strCells_length]; omega) HB1.out.size)
      clear hb1 hb2 HB HSH HI HI1 c0 c1 c2 c3 c4 c5
      go_wp2_with fail
      refine HW.out.mono ?_
      rintro e w2 ⟨rfl, hI2, hb2⟩
      have HB2 := hide (HB1.out.trans hb2)
      have HI2 : Hid (Lib.IsBuilder 83 5 w.heap.size w.heap.size (Lib.strCells (cat (xs.take (k + 1)))) w2) := hide (by rw [HC.out, strCells_append]; exact .inr hI2)
      clear hb2 hI2 HW HB1
      go_wp2
      go_roundw
      case rel => exact ⟨k + 1, by omega, by go_num, HI2, HB2⟩
      case measure => first | (simp [intOf]; done) | (simp [intOf]; omega)
    · obtain rfl : k = n := by omega
      have HE : Hid (cat (xs.take k) = cat xs) := hide (by rw [List.take_of_length_le (by omega)])
      have hz : (cat xs).size ≤ 1099511627776 := by rw [← HE.out]; omega
      have HS := hide (bldString_any w.heap.size w.heap.size (cat xs) wr (by rw [← HE.out]; exact HI.out) HB.out.size)
      clear hlt hcs
      go_wp2_with fail
      refine HS.out.mono ?_
      rintro e w1 ⟨rfl, hb1⟩
      have HB1 := hide (HB.out.trans hb1)
      have HC := hide (implCrc_any (cat xs) w1 hz (HT.out.later HB1.out))
      clear hb1 HB HS HI
      go_wp2_with fail
      refine HC.out.mono ?_
      rintro e w2 ⟨rfl, hb2⟩
      have HB2 := hide (HB1.out.trans (hb2.mono HB1.out.size))
      clear hb2 HC HB1
      go_wp2
      go_ret
      exact ⟨rfl, HB2.out⟩

end Go.Proofs.YtkcjlalkniaapaaDoor
