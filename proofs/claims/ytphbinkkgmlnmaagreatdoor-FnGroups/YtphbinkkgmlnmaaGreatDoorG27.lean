/-
  spec.l9Group and spec.DrawRegroup. spec.DrawRegroup. What the laws' szRec, toRec and eqRec answer; a record that comes in as an argument. What the laws' szEntry, toEntry and eqEntry answer; an entry that comes in as an argument. What the laws' szEntryS, toEntryS and eqEntryS answer; a slice of entries that comes in as an argument. spec.SameDir at two equal rows; the laws' has. The library's contract of the method String of strings.Builder, laid at this seat in plain words. strings.Builder at this seat: its copyCheck and its WriteString, walked; its String by the library's contract. impl.ShowRec: the text of a record, of every kind. impl.Crc: the sum of a text by a table of sixteen, under what the package's table holds. impl.SumOf: the sum of records' texts, one behind the other, out of a strings.Builder. impl.recsOf and impl.fitsOwn. What waits for its seal: a map by batch whose rows lie apart, and a row of what is kept.
-/
import Derived.Test.YtphbinkkgmlnmaaGreatDoorMDraw9P
import Derived.Test.YtphbinkkgmlnmaaGreatDoorMGroupS
import Derived.Deep.RegionHeld3
import Derived.Test.YtphbinkkgmlnmaaGreatDoorG04
import Derived.Test.YtphbinkkgmlnmaaGreatDoorMRecOkI
import Derived.Deep.Slices
import Derived.Deep.Strs
import Derived.Test.YtphbinkkgmlnmaaGreatDoorG15
import Derived.Test.YtphbinkkgmlnmaaGreatDoorG13
import Derived.Test.YtphbinkkgmlnmaaGreatDoorG21
import Derived.Laws.StructEq
import Derived.Shelf.Strings.Builder1
import Derived.Test.YtphbinkkgmlnmaaGreatDoorProg
import Derived.Test.YtphbinkkgmlnmaaGreatDoorG00
import Derived.Lib.Builder
import Derived.Lib.AppendStr
import Derived.Lib.UnsafeStr
import Derived.Laws.Externs
import Derived.Test.YtphbinkkgmlnmaaGreatDoorMShowImpl
import Derived.Test.YtphbinkkgmlnmaaGreatDoorG02
import Derived.Lib.LaidTab
import Derived.Lib.OthersKept
import Derived.Test.YtphbinkkgmlnmaaGreatDoorMPlaceOf
import Derived.Maps.Ext
import Derived.Maps.OwnOps
import Derived.Maps.OwnSet
import Derived.Maps.Views
import Derived.Maps.Keyed
namespace Go.Proofs.YtphbinkkgmlnmaaGreatDoor
open Go.RowKit
open Plain

theorem row_none (w : World) : entSh.Row w none 0 [] := ⟨rfl, fun i hi => by simp at hi⟩

set_option maxRecDepth 100000 in
set_option maxHeartbeats 4000000 in
theorem group9_any (w : World) (B : Nat) (a : Option Addr) (len cap : Nat) (zs : List Int) (hc : CurX w B a len cap zs) :
    Calls Tryz.prog 23 #[.pointer (some ⟨B, 0, none⟩)] w fun e w' => (∃ (u : Option Addr) (un uc : Nat) (x y : Int), e = .returned (.agg #[.slice u un uc, .int .i64 x, .int .i64 y])) ∧ CurX w' B a len cap zs ∧ w.grownBy w' (some B) := by
  have hB := hc.lt
  obtain ⟨W0, hW0⟩ : ∃ W, W = w.alloc (.cells #[.slice none 0 0, .int .i64 0, .int .i64 0] 26) := ⟨_, rfl⟩
  have hal : Below w.heap.size w W0 := by rw [hW0]; exact al1 _ _
  have HR0 : Hid (W0.heap[w.heap.size]? = some (.cells #[.slice none 0 0, .int .i64 0, .int .i64 0] 26 (0, 0))) := hide (by rw [hW0]; exact heap_alloc_new _ _)
  have HC := hide (hc.below hal hB)
  have HG0 : Hid (w.grownBy W0 (some B)) := hide (below_grown (some B) hal)
  clear hc hal
  go_enter Tryz.func23, Tryz.ntmps23
  go_wp2_with fail
  rw [← hW0]
  clear hW0
  obtain ⟨D, hD⟩ : ∃ D, w.heap.size = D := ⟨_, rfl⟩
  have hDw : w.heap.size ≤ D := by omega
  rw [hD] at HR0 ⊢
  have hBD : B < D := by omega
  clear hD
  refine (places9_any W0 B a len cap zs HC.out).mono ?_
  rintro e w1 ⟨⟨b, m, capb, fs, rfl, hm, hs, ho⟩, hc1, hg1⟩
  have HS := hide (specReg_any w1 none b 0 0 m capb ⟨[], 0, 0⟩ fs (row_none w1) ho.row hs.fit (fun _ => rfl) (by omega) (by omega))
  have HC1 := hide hc1
  have HG1 := hide (grown_trans HG0.out hg1)
  have HD1 := hide ((hg1.block _ (Array.getElem?_eq_some_iff.1 HR0.out).1 (fun e => by injection e with e; omega)).trans HR0.out)
  have hB1 : B < w1.heap.size := hc1.lt
  clear hc1 hg1 ho hs HC HG0 HR0
  go_wp2_with fail
  refine HS.out.mono ?_
  rintro e w2 ⟨⟨a2, n2, c2, rfl, -⟩, hb2⟩
  generalize regF ⟨[], 0, 0⟩ fs = R at *
  obtain ⟨zd, la, co⟩ := R
  obtain ⟨X2, hX2⟩ : ∃ X, X = w2.alloc (.cells #[.slice a2 n2 c2, .int .i64 la, .int .i64 co] 26) := ⟨_, rfl⟩
  have hal : Below w2.heap.size w2 X2 := by rw [hX2]; exact al1 _ _
  have HR2 : Hid (X2.heap[w2.heap.size]? = some (.cells #[.slice a2 n2 c2, .int .i64 la, .int .i64 co] 26 (0, 0))) := hide (by rw [hX2]; exact heap_alloc_new _ _)
  have hBD2 : B < w2.heap.size := Nat.lt_of_lt_of_le hB1 hb2.size
  have HC2 := hide ((HC1.out.below hb2 hB1).below hal hBD2)
  have HG2 := hide (grown_trans (grown_trans HG1.out (below_grown (some B) hb2)) (below_grown (some B) hal))
  have hDw2 : w.heap.size ≤ w2.heap.size := (grown_trans HG1.out (below_grown (some B) hb2)).size
  have HD2 : Hid (X2.heap[D]? = _) := hide ((hal.block _ (Array.getElem?_eq_some_iff.1 ((hb2.block _ (Array.getElem?_eq_some_iff.1 HD1.out).1).trans HD1.out)).1).trans ((hb2.block _ (Array.getElem?_eq_some_iff.1 HD1.out).1).trans HD1.out))
  have hDD : D < w2.heap.size := (Array.getElem?_eq_some_iff.1 ((hb2.block _ (Array.getElem?_eq_some_iff.1 HD1.out).1).trans HD1.out)).1
  clear hb2 hal HC1 HG1 HS HD1
  go_wp2_with fail
  rw [← hX2]
  clear hX2
  generalize w2.heap.size = D2 at *
  refine (onceX_any 10 (by omega) _ B a len cap zs HC2.out).mono ?_
  rintro e w3 ⟨⟨b3, rfl⟩, hc3, hg3⟩
  have HC3 := hide hc3
  have HG3 := hide (grown_trans HG2.out hg3)
  have HR3 := hide ((hg3.block _ (Array.getElem?_eq_some_iff.1 HR2.out).1 (fun e => by injection e with e; omega)).trans HR2.out)
  have HD3 := hide ((hg3.block _ (Array.getElem?_eq_some_iff.1 HD2.out).1 (fun e => by injection e with e; omega)).trans HD2.out)
  clear hc3 hg3 HC2 HG2 HR2 HD2
  cases b3 with
  | false =>
    obtain ⟨y0, y1, y2, -⟩ := cells3 HR3.out
    obtain ⟨x0, x1, x2, f0, f1, f2⟩ := cells3 HD3.out
    go_wp2
    refine bodyPost_ret (v := .agg #[.slice a2 n2 c2, .int .i64 la, .int .i64 co]) (by simp [results, Tryz.results23, go_sem, *]) rfl ⟨⟨_, _, _, _, _, rfl⟩, ?_, ?_⟩
    · exact ((HC3.out.set _ _ (by exact hBD)).set _ _ (by exact hBD)).set _ _ (by exact hBD)
    · exact grown_cell9 (grown_cell9 (grown_cell9 HG3.out _ _ (by exact hDw)) _ _ (by exact hDw)) _ _ (by exact hDw)
  | true =>
    go_wp2_with fail
    refine (belowX_any 3 (by omega) _ B a len cap zs HC3.out).mono ?_
    rintro e w4 ⟨⟨x4, hx4, rfl⟩, hc4, hg4⟩
    have HC4 := hide hc4
    have HG4 := hide (grown_trans HG3.out hg4)
    have HR4 := hide ((hg4.block _ (Array.getElem?_eq_some_iff.1 HR3.out).1 (fun e => by injection e with e; omega)).trans HR3.out)
    have HD4 := hide ((hg4.block _ (Array.getElem?_eq_some_iff.1 HD3.out).1 (fun e => by injection e with e; omega)).trans HD3.out)
    clear hc4 hg4 HC3 HG3 HR3 HD3
    obtain ⟨y0, y1, y2, g0, g1, g2⟩ := cells3 HR4.out
    obtain ⟨x0, x1, x2, f0, f1, f2⟩ := cells3 HD4.out
    have hne : D ≠ D2 := by omega
    have hne2 : D2 ≠ D := by omega
    go_wp2
    refine bodyPost_ret (v := .agg #[.slice a2 n2 c2, .int .i64 la, .int .i64 (x4 : Int)]) (by simp [results, Tryz.results23, go_sem, *]) rfl ⟨⟨_, _, _, _, _, rfl⟩, ?_, ?_⟩
    · exact (((HC4.out.set _ _ (by exact hBD2)).set _ _ (by exact hBD)).set _ _ (by exact hBD)).set _ _ (by exact hBD)
    · exact grown_cell9 (grown_cell9 (grown_cell9 (grown_cell9 HG4.out _ _ (by exact hDw2)) _ _ (by exact hDw)) _ _ (by exact hDw)) _ _ (by exact hDw)

end Go.Proofs.YtphbinkkgmlnmaaGreatDoor
namespace Go.Proofs.YtphbinkkgmlnmaaGreatDoor
open Go.RowKit
open Plain

set_option maxRecDepth 100000 in
set_option maxHeartbeats 4000000 in
theorem drawReg_any (w : World) (a : Option Addr) (len cap : Nat) (zs : List Int) (hc : CodeAt w a len zs) :
    Calls Tryz.prog 6 #[.slice a len cap] w fun e w' => (∃ (ua : Option Addr) (un uc : Nat) (ul uq : Int) (b : Option Addr) (m capb : Nat) (fs : List PlaceV), e = .returned (.tuple #[.agg #[.slice ua un uc, .int .i64 ul, .int .i64 uq], .slice b m capb]) ∧ m ≤ 100 ∧ Small (fs.map PlaceV.r) ∧ plSh.Own 37 w' w.heap.size (.slice b m capb) fs) ∧ Below w.heap.size w w' := by
  obtain ⟨W, hW⟩ : ∃ W, W = w.alloc (.cells #[.slice none 0 0, .int .i64 0, .int .i64 0] 26) := ⟨_, rfl⟩
  have HBW : Hid (Below w.heap.size w W) := hide (by rw [hW]; exact al1 w _)
  have HD : Hid (W.heap[w.heap.size]? = some (.cells #[.slice none 0 0, .int .i64 0, .int .i64 0] 26 (0, 0))) := hide (by rw [hW]; exact heap_alloc_new _ _)
  have HCW := hide (hc.later HBW.out)
  clear hc
  go_enter Tryz.func6, Tryz.ntmps6
  go_wp2_with fail
  rw [← hW]
  clear hW
  obtain ⟨D, hD⟩ : ∃ D, w.heap.size = D := ⟨_, rfl⟩
  rw [hD] at HD HBW ⊢
  have hWD : D < W.heap.size := (Array.getElem?_eq_some_iff.1 HD.out).1
  have HDw := hide hD
  clear hD
  refine (new_any W a len cap zs HCW.out).mono ?_
  rintro e w1 ⟨rfl, hc1, hb1⟩
  have HC1 : Hid (CurX w1 W.heap.size a len cap zs) := hide ⟨_, hc1⟩
  have HB1 : Hid (Below D w w1) := hide (HBW.out.trans (hb1.mono (Nat.le_of_lt hWD)))
  have HD1 := hide ((hb1.block _ (Array.getElem?_eq_some_iff.1 HD.out).1).trans HD.out)
  clear hc1 hb1 HBW HCW HD
  obtain ⟨B, hB⟩ : ∃ B, W.heap.size = B := ⟨_, rfl⟩
  rw [hB] at HC1 hWD ⊢
  clear hB
  obtain ⟨X1, hX1⟩ : ∃ X, X = w1.alloc (.cells #[.slice none 0 0, .int .i64 0, .int .i64 0] 26) := ⟨_, rfl⟩
  have hal : Below w1.heap.size w1 X1 := by rw [hX1]; exact al1 _ _
  have HG : Hid (X1.heap[w1.heap.size]? = some (.cells #[.slice none 0 0, .int .i64 0, .int .i64 0] 26 (0, 0))) := hide (by rw [hX1]; exact heap_alloc_new _ _)
  have hB1 : B < w1.heap.size := HC1.out.lt
  have HC2 := hide (HC1.out.below hal hB1)
  have hD1 : D < w1.heap.size := (Array.getElem?_eq_some_iff.1 HD1.out).1
  have HB2 := hide (HB1.out.trans (hal.mono (Nat.le_of_lt hD1)))
  have HD2 := hide ((hal.block _ (Array.getElem?_eq_some_iff.1 HD1.out).1).trans HD1.out)
  clear hal HC1 HB1 HD1
  go_wp2_with fail
  rw [← hX1]
  clear hX1
  obtain ⟨E, hE⟩ : ∃ E, w1.heap.size = E := ⟨_, rfl⟩
  rw [hE] at HG hB1 hD1 ⊢
  clear hE
  refine (onceX_any 4 (by omega) _ B a len cap zs HC2.out).mono ?_
  rintro e w3 ⟨⟨b3, rfl⟩, hc3, hg3⟩
  have HC3 := hide hc3
  have HB3 : Hid (Below D w w3) := hide (HB2.out.grown hg3 (by have := (Array.getElem?_eq_some_iff.1 HD2.out).1; omega) (fun j hj => by injection hj with hj; omega))
  have HD3 := hide ((hg3.block _ (Array.getElem?_eq_some_iff.1 HD2.out).1 (fun e => by injection e with e; omega)).trans HD2.out)
  have HG3 := hide ((hg3.block _ (Array.getElem?_eq_some_iff.1 HG.out).1 (fun e => by injection e with e; omega)).trans HG.out)
  have hE3 : E < w3.heap.size := (Array.getElem?_eq_some_iff.1 HG3.out).1
  clear hc3 hg3 HC2 HB2 HD2 HG
  cases b3 with
  | false =>
      have HPL := hide (places9_any w3.drew B a len cap zs (HC3.out.below (Below.refl _ _).drew HC3.out.lt))
      have HKX : Hid (∀ W', w3.drew.grownBy W' (some B) → W'.heap[D]? = some (.cells #[.slice none 0 0, .int .i64 0, .int .i64 0] 26 (0, 0)) ∧ W'.heap[E]? = some (.cells #[.slice none 0 0, .int .i64 0, .int .i64 0] 26 (0, 0)) ∧ Below D w W' ∧ E < W'.heap.size) := hide (fun W' hg => by
        have q1 := (hg.block _ (Array.getElem?_eq_some_iff.1 HD3.out).1 (fun e => by injection e with e; omega)).trans HD3.out
        have q2 := (hg.block _ (Array.getElem?_eq_some_iff.1 HG3.out).1 (fun e => by injection e with e; omega)).trans HG3.out
        exact ⟨q1, q2, HB3.out.drew.grown hg (by exact (Nat.le_of_lt (Array.getElem?_eq_some_iff.1 HD3.out).1)) (fun j hj => by injection hj with hj; omega), (Array.getElem?_eq_some_iff.1 q2).1⟩)
      have hE3' : E < w3.drew.heap.size := (Array.getElem?_eq_some_iff.1 HG3.out).1
      obtain ⟨y0, y1, y2, -⟩ := cells3 (show w3.drew.heap[E]? = _ from HG3.out)
      obtain ⟨x0, x1, x2, f0, f1, f2⟩ := cells3 (show w3.drew.heap[D]? = _ from HD3.out)
      have n1 : D ≠ E := by omega
      have n2 : E ≠ D := by omega
      have HE3 := hide hE3'
      clear hE3 hE3' HC3 HB3 HD3 HG3
      go_wp2
      go_region_with (go_at_call 24; refine HPL.out.mono ?_; rintro e wz ⟨⟨b, m, capb, fs, rfl, hm, hs, ho⟩, hcz, hgz⟩; obtain ⟨z0, z1, z2, -⟩ := cells3 (HKX.out wz hgz).2.1; obtain ⟨r0, r1, r2, k0, k1, k2⟩ := cells3 (HKX.out wz hgz).1; have HBz := hide (HKX.out wz hgz).2.2.1; have HOz := hide ho; have HSz := hide hs; have HMz := hide hm; clear hcz hgz ho hs hm)
      all_goals
        clear HPL HKX
        go_wp2
        refine bodyPost_ret (v := .tuple #[.agg #[.slice none 0 0, .int .i64 0, .int .i64 0], .slice b m capb]) (by simp [results, Tryz.results6, go_sem, *]) rfl ⟨⟨_, _, _, _, _, b, m, capb, fs, rfl, HMz.out, HSz.out, ?_⟩, ?_⟩
        · refine Shape.Own.mono ?_ (show w.heap.size ≤ w3.drew.heap.size by rw [HDw.out]; have := HE3.out; omega)
          have hne : (Value.slice b m capb).ownBlock ≠ some D := fun e => by have := (HOz.out.blk _ e).1; have := HE3.out; omega
          exact own_setNe (own_setNe (own_setNe HOz.out _ _ hne) _ _ hne) _ _ hne
        · rw [HDw.out]
          exact ((HBz.out.setCell (by exact Nat.le_refl _) _).setCell (by exact Nat.le_refl _) _).setCell (by exact Nat.le_refl _) _
  | true =>
      go_wp2_with fail
      refine (group9_any w3 B a len cap zs HC3.out).mono ?_
      rintro e w4 ⟨⟨ua, un, uc, la, co, rfl⟩, hc4, hg4⟩
      have HC4 := hide hc4
      have HB4 : Hid (Below D w w4) := hide (HB3.out.grown hg4 (by omega) (fun j hj => by injection hj with hj; omega))
      have HD4 := hide ((hg4.block _ (Array.getElem?_eq_some_iff.1 HD3.out).1 (fun e => by injection e with e; omega)).trans HD3.out)
      have HG4 := hide ((hg4.block _ (Array.getElem?_eq_some_iff.1 HG3.out).1 (fun e => by injection e with e; omega)).trans HG3.out)
      clear hc4 hg4 HC3 HB3 HD3 HG3 hE3
      have n1 : D ≠ E := by omega
      obtain ⟨w6, HW6, HC6, HB6, HD6, HG6⟩ : ∃ w6, Hid (((w4.setCell ⟨E, 0, none⟩ (.slice ua un uc)).setCell ⟨E, 1, none⟩ (.int .i64 la)).setCell ⟨E, 2, none⟩ (.int .i64 co) = w6) ∧ Hid (CurX w6 B a len cap zs) ∧ Hid (Below D w w6) ∧ Hid (w6.heap[D]? = some (.cells #[.slice none 0 0, .int .i64 0, .int .i64 0] 26 (0, 0))) ∧ Hid (w6.heap[E]? = some (.cells #[.slice ua un uc, .int .i64 la, .int .i64 co] 26 (0, 0))) := by
        refine ⟨_, hide rfl, hide (((HC4.out.set _ _ (by exact hB1)).set _ _ (by exact hB1)).set _ _ (by exact hB1)), hide (((HB4.out.setCell (by exact Nat.le_of_lt hD1) _).setCell (by exact Nat.le_of_lt hD1) _).setCell (by exact Nat.le_of_lt hD1) _), hide ?_, hide (box_set9 (box_set9 (box_set9 HG4.out)))⟩
        rw [Below.heap_setCell _ _ _ _ (by exact n1), Below.heap_setCell _ _ _ _ (by exact n1), Below.heap_setCell _ _ _ _ (by exact n1)]
        exact HD4.out
      obtain ⟨y0, y1, y2, f0, f1, f2⟩ := cells3 HG4.out
      clear n1
      go_upto_region 5 with fail
      rw [HW6.out]
      clear HW6 HC4 HB4 HD4 HG4 y0 y1 y2 f0 f1 f2
      have HPL := hide (places9_any w6.drew B a len cap zs (HC6.out.below (Below.refl _ _).drew HC6.out.lt))
      have HKX : Hid (∀ W', w6.drew.grownBy W' (some B) → W'.heap[D]? = some (.cells #[.slice none 0 0, .int .i64 0, .int .i64 0] 26 (0, 0)) ∧ W'.heap[E]? = some (.cells #[.slice ua un uc, .int .i64 la, .int .i64 co] 26 (0, 0)) ∧ Below D w W' ∧ E < W'.heap.size) := hide (fun W' hg => by
        have q1 := (hg.block _ (Array.getElem?_eq_some_iff.1 HD6.out).1 (fun e => by injection e with e; omega)).trans HD6.out
        have q2 := (hg.block _ (Array.getElem?_eq_some_iff.1 HG6.out).1 (fun e => by injection e with e; omega)).trans HG6.out
        exact ⟨q1, q2, HB6.out.drew.grown hg (by exact (Nat.le_of_lt (Array.getElem?_eq_some_iff.1 HD6.out).1)) (fun j hj => by injection hj with hj; omega), (Array.getElem?_eq_some_iff.1 q2).1⟩)
      have hE3' : E < w6.drew.heap.size := (Array.getElem?_eq_some_iff.1 HG6.out).1
      obtain ⟨y0, y1, y2, -⟩ := cells3 (show w6.drew.heap[E]? = _ from HG6.out)
      obtain ⟨x0, x1, x2, f0, f1, f2⟩ := cells3 (show w6.drew.heap[D]? = _ from HD6.out)
      have n1 : D ≠ E := by omega
      have n2 : E ≠ D := by omega
      have HE3 := hide hE3'
      clear hE3' HC6 HB6 HD6 HG6
      go_wp2
      go_region_with (go_at_call 24; refine HPL.out.mono ?_; rintro e wz ⟨⟨b, m, capb, fs, rfl, hm, hs, ho⟩, hcz, hgz⟩; obtain ⟨z0, z1, z2, -⟩ := cells3 (HKX.out wz hgz).2.1; obtain ⟨r0, r1, r2, k0, k1, k2⟩ := cells3 (HKX.out wz hgz).1; have HBz := hide (HKX.out wz hgz).2.2.1; have HOz := hide ho; have HSz := hide hs; have HMz := hide hm; clear hcz hgz ho hs hm)
      all_goals
        clear HPL HKX
        go_wp2
        refine bodyPost_ret (v := .tuple #[.agg #[.slice ua un uc, .int .i64 la, .int .i64 co], .slice b m capb]) (by simp [results, Tryz.results6, go_sem, *]) rfl ⟨⟨_, _, _, _, _, b, m, capb, fs, rfl, HMz.out, HSz.out, ?_⟩, ?_⟩
        · refine Shape.Own.mono ?_ (show w.heap.size ≤ w6.drew.heap.size by rw [HDw.out]; have := HE3.out; omega)
          have hne : (Value.slice b m capb).ownBlock ≠ some D := fun e => by have := (HOz.out.blk _ e).1; have := HE3.out; omega
          exact own_setNe (own_setNe (own_setNe HOz.out _ _ hne) _ _ hne) _ _ hne
        · rw [HDw.out]
          exact ((HBz.out.setCell (by exact Nat.le_refl _) _).setCell (by exact Nat.le_refl _) _).setCell (by exact Nat.le_refl _) _

end Go.Proofs.YtphbinkkgmlnmaaGreatDoor
namespace Go.Proofs.YtphbinkkgmlnmaaGreatDoor
open Go.RowKit Go.Deep
open Plain

/-- l less n, or -1. -/
def lessR (l n : Int) : Int := if n ≤ l then l - n else -1
theorem lessR_yes {l n : Int} (h : n ≤ l) : lessR l n = l - n := by unfold lessR; rw [if_pos h]
theorem lessR_no {l n : Int} (h : l < n) : lessR l n = -1 := by unfold lessR; rw [if_neg (by omega)]

/-- How many bytes a record has. -/
def szR (r : RecV) : Nat := r.key.size + r.val.size

set_option maxHeartbeats 400000 in
theorem szRec_any (r : RecV) (l : Int) (h0 : 0 ≤ l) (h1 : l ≤ 1048576) (hn : r.key.size ≤ maxLen) (ht : r.val.size ≤ maxLen) (w : World) :
    Calls Tryz.prog 54 #[.agg #[.int .i64 r.kind, .int .i64 r.batch, .string r.key, .string r.val, .int .i64 r.cnt, .int .i64 r.sum], .int .i64 l] w fun e w' => e = .returned (.int .i64 (lessR l (szR r : Int))) ∧ Below w.heap.size w w' := by
  unfold maxLen at hn ht
  have hsz : (szR r : Int) = (r.key.size : Int) + (r.val.size : Int) := by unfold szR; omega
  by_cases c1 : l - (r.key.size : Int) < 0
  · have HR := hide (lessR_no (l := l) (n := (szR r : Int)) (by omega))
    clear hsz
    go_enter Tryz.func54, Tryz.ntmps54
    go_wp2
    go_ret
    exact ⟨by rw [HR.out]; rfl, (Below.refl _ _).alloc (Nat.le_refl _) _⟩
  · by_cases c2 : l - (r.key.size : Int) - (r.val.size : Int) < 0
    · have HR := hide (lessR_no (l := l) (n := (szR r : Int)) (by omega))
      clear hsz
      go_enter Tryz.func54, Tryz.ntmps54
      go_wp2
      go_ret
      exact ⟨by rw [HR.out]; rfl, (Below.refl _ _).alloc (Nat.le_refl _) _⟩
    · have HR : Hid (lessR l (szR r : Int) = l - (r.key.size : Int) - (r.val.size : Int)) := hide (by rw [lessR_yes (by omega)]; omega)
      clear hsz
      go_enter Tryz.func54, Tryz.ntmps54
      go_wp2
      go_ret
      exact ⟨by rw [HR.out]; rfl, (Below.refl _ _).alloc (Nat.le_refl _) _⟩

set_option maxHeartbeats 400000 in
theorem toRec_any (r : RecV) : Ans 56 #[.agg #[.int .i64 r.kind, .int .i64 r.batch, .string r.key, .string r.val, .int .i64 r.cnt, .int .i64 r.sum]] (.agg #[.int .i64 r.kind, .int .i64 r.batch, .string r.key, .string r.val, .int .i64 r.cnt, .int .i64 r.sum]) := by
  intro w
  go_enter Tryz.func56, Tryz.ntmps56
  go_wp2
  refine bodyPost_ret (v := .agg #[.int .i64 r.kind, .int .i64 r.batch, .string r.key, .string r.val, .int .i64 r.cnt, .int .i64 r.sum]) (by simp [results, Tryz.results56, go_sem]) rfl ⟨rfl, ?_⟩
  exact al3 _ _ _ _

set_option maxRecDepth 100000 in
set_option maxHeartbeats 4000000 in
theorem eqRec_any (k b : Int) (key val : ByteArray) (c s k' b' : Int) (key' val' : ByteArray) (c' s' : Int) : Ans 58 #[.agg #[.int .i64 k, .int .i64 b, .string key, .string val, .int .i64 c, .int .i64 s], .agg #[.int .i64 k', .int .i64 b', .string key', .string val', .int .i64 c', .int .i64 s']] (.bool (eqN k b key val c s k' b' key' val' c' s')) := by
  intro w
  by_cases h1 : k = k'
  · have t1 : (k != k') = false := by simpa using h1
    by_cases h2 : b = b'
    · have t2 : (b != b') = false := by simpa using h2
      by_cases h3 : key = key'
      · have t3 := str_eq _ _ h3
        by_cases h4 : val = val'
        · have t4 := str_eq _ _ h4
          by_cases h5 : c = c'
          · have t5 : (c != c') = false := by simpa using h5
            by_cases h6 : s = s'
            · have t6 : (s != s') = false := by simpa using h6
              rw [eqN_yes ⟨h1, h2, h3, h4, h5, h6⟩]
              clear h1 h2 h3 h4 h5 h6
              go_enter Tryz.func58, Tryz.ntmps58
              go_wp2
              go_ret
              exact ⟨rfl, al2 _ _ _⟩
            · have t6 : (s != s') = true := by simpa using h6
              rw [eqN_no (fun h => h6 h.2.2.2.2.2)]
              clear h1 h2 h3 h4 h5 h6
              go_enter Tryz.func58, Tryz.ntmps58
              go_wp2
              go_ret
              exact ⟨rfl, al2 _ _ _⟩
          · have t5 : (c != c') = true := by simpa using h5
            rw [eqN_no (fun h => h5 h.2.2.2.2.1)]
            clear h1 h2 h3 h4 h5
            go_enter Tryz.func58, Tryz.ntmps58
            go_wp2
            go_ret
            exact ⟨rfl, al2 _ _ _⟩
        · have t4 := str_ne _ _ h4
          rw [eqN_no (fun h => h4 h.2.2.2.1)]
          clear h1 h2 h3 h4
          go_enter Tryz.func58, Tryz.ntmps58
          go_wp2
          go_ret
          exact ⟨rfl, al2 _ _ _⟩
      · have t3 := str_ne _ _ h3
        rw [eqN_no (fun h => h3 h.2.2.1)]
        clear h1 h2 h3
        go_enter Tryz.func58, Tryz.ntmps58
        go_wp2
        go_ret
        exact ⟨rfl, al2 _ _ _⟩
    · have t2 : (b != b') = true := by simpa using h2
      rw [eqN_no (fun h => h2 h.2.1)]
      clear h1 h2
      go_enter Tryz.func58, Tryz.ntmps58
      go_wp2
      go_ret
      exact ⟨rfl, al2 _ _ _⟩
  · have t1 : (k != k') = true := by simpa using h1
    rw [eqN_no (fun h => h1 h.1)]
    clear h1
    go_enter Tryz.func58, Tryz.ntmps58
    go_wp2
    go_ret
    exact ⟨rfl, al2 _ _ _⟩

/-- Block B holds the law's own record; what was there in w is untouched. -/
structure LRecAt (w : World) (B : Nat) (r : RecV) (W : World) : Prop where
  row : W.heap[B]? = some (.cells #[.int .i64 r.kind, .int .i64 r.batch, .string r.key, .string r.val, .int .i64 r.cnt, .int .i64 r.sum] 72 (0, 0))
  bel : Below w.heap.size w W
theorem LRecAt.later {w : World} {B : Nat} {r : RecV} {W W' : World} (h : LRecAt w B r W) (hb : Below W.heap.size W W') : LRecAt w B r W' :=
  ⟨(hb.block _ (lt_of_block h.row)).trans h.row, h.bel.trans (hb.mono h.bel.size)⟩
theorem LRecAt.cells {w : World} {B : Nat} {r : RecV} {W : World} (h : LRecAt w B r W) :
    W.cell? ⟨B, 0, none⟩ = some (.int .i64 r.kind) ∧ W.cell? ⟨B, 1, none⟩ = some (.int .i64 r.batch) ∧ W.cell? ⟨B, 2, none⟩ = some (.string r.key) ∧ W.cell? ⟨B, 3, none⟩ = some (.string r.val) ∧ W.cell? ⟨B, 4, none⟩ = some (.int .i64 r.cnt) ∧ W.cell? ⟨B, 5, none⟩ = some (.int .i64 r.sum) := by
  refine ⟨?_, ?_, ?_, ?_, ?_, ?_⟩ <;> (rw [cell_of_row W B _ _ _ _ h.row]; rfl)
theorem LRecAt.new (w : World) (r : RecV) : LRecAt w w.heap.size r (w.alloc (.cells #[.int .i64 r.kind, .int .i64 r.batch, .string r.key, .string r.val, .int .i64 r.cnt, .int .i64 r.sum] 72)) :=
  ⟨heap_alloc_new w _, al1 w _⟩

theorem cells9' : Tryz.prog.cellsOf 9 = 1 := by kernel_rfl
theorem cells3' : Tryz.prog.cellsOf 3 = 1 := by kernel_rfl
theorem cellsLR : Tryz.prog.cellsOf 72 = 6 := by kernel_rfl

section
variable {H : Type} {enc : TypeId × Value → H} {w : World} {base : Nat} {spare : Nat → Bool} {held : Bool}
set_option maxRecDepth 100000 in
/-- The record itself. -/
theorem open_rec {fuel : Nat} {cs : List Value} {x : DataW H × List MemPlace} (h : DataW.trod enc Tryz.prog w base spare held fuel 72 cs = some x) :
    ∃ r : RecV, cs = [.int .i64 r.kind, .int .i64 r.batch, .string r.key, .string r.val, .int .i64 r.cnt, .int .i64 r.sum] ∧ r.key.size ≤ maxLen ∧ r.val.size ≤ maxLen ∧ (Lit.int .i64 r.kind).wf = true ∧ (Lit.int .i64 r.batch).wf = true ∧ (Lit.int .i64 r.cnt).wf = true ∧ (Lit.int .i64 r.sum).wf = true := by
  obtain ⟨xs, n, _, _, hl, hlen, hf⟩ := DataW.trod_struct Tryz.underlying72 h
  rw [cellsLR] at hl
  match xs, hlen, cs, hl with
  | [y0, y1, y2, y3, y4, y5], _, [v0, v1, v2, v3, v4, v5], _ =>
    obtain ⟨k, e0, _, z0⟩ := DataW.trod_int Tryz.underlying3 (by simpa using hf 0 _ rfl)
    obtain ⟨b, e1, _, z1⟩ := DataW.trod_int Tryz.underlying3 (by simpa using hf 1 _ rfl)
    obtain ⟨key, e2, _, z2⟩ := DataW.trod_string Tryz.underlying9 (by simpa using hf 2 _ rfl)
    obtain ⟨val, e3, _, z3⟩ := DataW.trod_string Tryz.underlying9 (by simpa using hf 3 _ rfl)
    obtain ⟨c, e4, _, z4⟩ := DataW.trod_int Tryz.underlying3 (by simpa using hf 4 _ rfl)
    obtain ⟨s, e5, _, z5⟩ := DataW.trod_int Tryz.underlying3 (by simpa using hf 5 _ rfl)
    simp [cells9', cells3'] at e0 e1 e2 e3 e4 e5
    subst e0; subst e1; subst e2; subst e3; subst e4; subst e5
    exact ⟨⟨k, b, key, val, c, s⟩, rfl, z2, z3, z0, z1, z4, z5⟩
end

end Go.Proofs.YtphbinkkgmlnmaaGreatDoor
namespace Go.Proofs.YtphbinkkgmlnmaaGreatDoor
open Go.RowKit Go.Deep
open Plain

set_option maxHeartbeats 400000 in
theorem szEnt_any (r : EntV) (l : Int) (h0 : 0 ≤ l) (h1 : l ≤ 1048576) (hn : r.key.size ≤ maxLen) (w : World) :
    Calls Tryz.prog 53 #[.agg #[.string r.key, .int .i64 r.seg, .int .i64 r.pos, .int .i64 r.len, .int .i64 r.bat], .int .i64 l] w fun e w' => e = .returned (.int .i64 (lessR l (r.key.size : Int))) ∧ Below w.heap.size w w' := by
  unfold maxLen at hn
  by_cases c1 : l - (r.key.size : Int) < 0
  · have HR := hide (lessR_no (l := l) (n := (r.key.size : Int)) (by omega))
    go_enter Tryz.func53, Tryz.ntmps53
    go_wp2
    go_ret
    exact ⟨by rw [HR.out]; rfl, (Below.refl _ _).alloc (Nat.le_refl _) _⟩
  · have HR : Hid (lessR l (r.key.size : Int) = l - (r.key.size : Int)) := hide (by rw [lessR_yes (by omega)])
    go_enter Tryz.func53, Tryz.ntmps53
    go_wp2
    go_ret
    exact ⟨by rw [HR.out]; rfl, (Below.refl _ _).alloc (Nat.le_refl _) _⟩

set_option maxHeartbeats 400000 in
theorem toEnt_any (r : EntV) : Ans 55 #[.agg #[.string r.key, .int .i64 r.seg, .int .i64 r.pos, .int .i64 r.len, .int .i64 r.bat]] (.agg #[.string r.key, .int .i64 r.seg, .int .i64 r.pos, .int .i64 r.len, .int .i64 r.bat]) := by
  intro w
  go_enter Tryz.func55, Tryz.ntmps55
  go_wp2
  refine bodyPost_ret (v := .agg #[.string r.key, .int .i64 r.seg, .int .i64 r.pos, .int .i64 r.len, .int .i64 r.bat]) (by simp [results, Tryz.results55, go_sem]) rfl ⟨rfl, ?_⟩
  exact al3 _ _ _ _

set_option maxRecDepth 100000 in
set_option maxHeartbeats 4000000 in
theorem eqEnt_any (p q : EntV) : Ans 57 #[.agg #[.string p.key, .int .i64 p.seg, .int .i64 p.pos, .int .i64 p.len, .int .i64 p.bat], .agg #[.string q.key, .int .i64 q.seg, .int .i64 q.pos, .int .i64 q.len, .int .i64 q.bat]] (.bool (eqE p q)) := by
  intro w
  by_cases h1 : p.key = q.key
  · have t1 := str_eq _ _ h1
    by_cases h2 : p.seg = q.seg
    · have t2 : (p.seg != q.seg) = false := by simpa using h2
      by_cases h3 : p.pos = q.pos
      · have t3 : (p.pos != q.pos) = false := by simpa using h3
        by_cases h4 : p.len = q.len
        · have t4 : (p.len != q.len) = false := by simpa using h4
          by_cases h5 : p.bat = q.bat
          · have t5 : (p.bat != q.bat) = false := by simpa using h5
            have HV : Hid (eqE p q = true) := hide ((eqE_iff _ _).2 (EntV.ext' h1 h2 h3 h4 h5))
            clear h1 h2 h3 h4 h5
            go_enter Tryz.func57, Tryz.ntmps57
            go_wp2
            go_ret
            exact ⟨by rw [HV.out]; rfl, al2 _ _ _⟩
          · have t5 : (p.bat != q.bat) = true := by simpa using h5
            have HV : Hid (eqE p q = false) := hide (eqE_no (fun h => h5 (by rw [h])))
            clear h1 h2 h3 h4 h5
            go_enter Tryz.func57, Tryz.ntmps57
            go_wp2
            go_ret
            exact ⟨by rw [HV.out]; rfl, al2 _ _ _⟩
        · have t4 : (p.len != q.len) = true := by simpa using h4
          have HV : Hid (eqE p q = false) := hide (eqE_no (fun h => h4 (by rw [h])))
          clear h1 h2 h3 h4
          go_enter Tryz.func57, Tryz.ntmps57
          go_wp2
          go_ret
          exact ⟨by rw [HV.out]; rfl, al2 _ _ _⟩
      · have t3 : (p.pos != q.pos) = true := by simpa using h3
        have HV : Hid (eqE p q = false) := hide (eqE_no (fun h => h3 (by rw [h])))
        clear h1 h2 h3
        go_enter Tryz.func57, Tryz.ntmps57
        go_wp2
        go_ret
        exact ⟨by rw [HV.out]; rfl, al2 _ _ _⟩
    · have t2 : (p.seg != q.seg) = true := by simpa using h2
      have HV : Hid (eqE p q = false) := hide (eqE_no (fun h => h2 (by rw [h])))
      clear h1 h2
      go_enter Tryz.func57, Tryz.ntmps57
      go_wp2
      go_ret
      exact ⟨by rw [HV.out]; rfl, al2 _ _ _⟩
  · have t1 := str_ne _ _ h1
    have HV : Hid (eqE p q = false) := hide (eqE_no (fun h => h1 (by rw [h])))
    clear h1
    go_enter Tryz.func57, Tryz.ntmps57
    go_wp2
    go_ret
    exact ⟨by rw [HV.out]; rfl, al2 _ _ _⟩

theorem cellsLE : Tryz.prog.cellsOf 94 = 5 := by kernel_rfl

section
variable {H : Type} {enc : TypeId × Value → H} {w : World} {base : Nat} {spare : Nat → Bool} {held : Bool}
set_option maxRecDepth 100000 in
/-- The entry itself. -/
theorem open_ent {fuel : Nat} {cs : List Value} {x : DataW H × List MemPlace} (h : DataW.trod enc Tryz.prog w base spare held fuel 94 cs = some x) :
    ∃ r : EntV, cs = entSh.cells r ∧ r.key.size ≤ maxLen := by
  obtain ⟨xs, n, _, _, hl, hlen, hf⟩ := DataW.trod_struct Tryz.underlying94 h
  rw [cellsLE] at hl
  match xs, hlen, cs, hl with
  | [y0, y1, y2, y3, y4], _, [v0, v1, v2, v3, v4], _ =>
    obtain ⟨key, e0, _, z0⟩ := DataW.trod_string Tryz.underlying9 (by simpa using hf 0 _ rfl)
    obtain ⟨k, e1, _, z1⟩ := DataW.trod_int Tryz.underlying3 (by simpa using hf 1 _ rfl)
    obtain ⟨b, e2, _, z2⟩ := DataW.trod_int Tryz.underlying3 (by simpa using hf 2 _ rfl)
    obtain ⟨c, e3, _, z3⟩ := DataW.trod_int Tryz.underlying3 (by simpa using hf 3 _ rfl)
    obtain ⟨s, e4, _, z4⟩ := DataW.trod_int Tryz.underlying3 (by simpa using hf 4 _ rfl)
    simp [cells9', cells3'] at e0 e1 e2 e3 e4
    subst e0; subst e1; subst e2; subst e3; subst e4
    exact ⟨⟨key, k, b, c, s⟩, rfl, z0⟩
end

end Go.Proofs.YtphbinkkgmlnmaaGreatDoor
namespace Go.Proofs.YtphbinkkgmlnmaaGreatDoor
open Go.RowKit Go.Deep
open Plain

def szEs : List EntV → Nat
  | [] => 0
  | r :: l => r.key.size + szEs l
theorem szEs_append (l m : List EntV) : szEs (l ++ m) = szEs l + szEs m := by
  induction l with
  | nil => simp [szEs]
  | cons r l ih => rw [List.cons_append, szEs, szEs, ih]; omega
theorem szEs_take_succ (l : List EntV) (k : Nat) (h : k < l.length) : szEs (l.take (k + 1)) = szEs (l.take k) + (l[k]).key.size := by
  rw [List.take_succ_eq_append_getElem h, szEs_append]
  simp [szEs]
theorem szEs_take_le (l : List EntV) (k : Nat) : szEs (l.take k) ≤ szEs l := by
  have := szEs_append (l.take k) (l.drop k)
  rw [List.take_append_drop] at this
  omega
theorem szEs_mem (l : List EntV) (k : Nat) (h : k < l.length) : (l[k]).key.size ≤ szEs l := by
  have := szEs_take_succ l k h
  have := szEs_take_le l (k + 1)
  omega
/-- Every key of the entries can be. -/
def EFits (l : List EntV) : Prop := ∀ i, (h : i < l.length) → (l[i]).key.size ≤ maxLen

set_option maxRecDepth 100000 in
set_option maxHeartbeats 1000000 in
theorem szEntS_any (w : World) (a : Option Addr) (len cap : Nat) (fs : List EntV) (hr : entSh.Row w a len fs) (hf : EFits fs) (hl : len ≤ maxLen) (l : Int) (h0 : 0 ≤ l) (h1 : l ≤ 1048576) :
    Calls Tryz.prog 32 #[.slice a len cap, .int .i64 l] w fun e w' => e = .returned (.int .i64 (lessR l (len + szEs fs : Nat))) ∧ Below w.heap.size w w' := by
  unfold maxLen at hl
  have HR := hide hr
  have HF := hide hf
  have hlen := hr.len
  clear hr hf
  by_cases c1 : l - (len : Int) < 0
  · have HV := hide (lessR_no (l := l) (n := ((len + szEs fs : Nat) : Int)) (by omega))
    go_enter Tryz.func32, Tryz.ntmps32
    go_wp2
    go_ret
    exact ⟨by rw [HV.out]; rfl, Below.refl _ _⟩
  · go_enter Tryz.func32, Tryz.ntmps32
    go_wp2
    go_loopw [1, 5] (fun v i wr => ∃ k : Nat, k ≤ len ∧ i = .int .i64 k ∧ v = .int .i64 (l - (len : Int) - (szEs (fs.take k) : Int)) ∧ (szEs (fs.take k) : Int) ≤ l - (len : Int) ∧ Hid (Below w.heap.size w wr)) (fun _ i _ => len - (intOf i).toNat)
    case atStart => exact ⟨0, by omega, rfl, by simp [szEs], by simp [szEs]; omega, hide (Below.refl _ _)⟩
    case round =>
      obtain ⟨k, hk, rfl, rfl, hle, HB⟩ := hrel
      by_cases hlt : k < len
      · have hkf : k < fs.length := by omega
        obtain ⟨b, off, rfl, hbw, e1, e2, e3, e4, e5⟩ := ent_cells (HR.out.later HB.out) k hkf
        have hfit := HF.out k hkf
        have hst := szEs_take_succ fs k hkf
        have HLE := hide (szEs_take_le fs (k + 1))
        generalize szEs (fs.take k) = S at *
        go_wp2_with fail
        refine (szEnt_any (fs[k]) (l - (len : Int) - (S : Int)) (by omega) (by omega) hfit wr).mono ?_
        rintro e w2 ⟨rfl, hb2⟩
        have HB2 := hide (HB.out.trans (hb2.mono HB.out.size))
        clear hb2 e1 e2 e3 e4 e5 HB
        by_cases c2 : ((fs[k]).key.size : Int) ≤ l - (len : Int) - (S : Int)
        · rw [lessR_yes c2]
          have HS2 : Hid (l - (len : Int) - (S : Int) - ((fs[k]).key.size : Int) = l - (len : Int) - (szEs (fs.take (k + 1)) : Int)) := hide (by omega)
          have hle2 : (szEs (fs.take (k + 1)) : Int) ≤ l - (len : Int) := by omega
          clear hst HLE
          generalize (fs[k]).key.size = sf at *
          go_wp2
          go_roundw
          case rel => exact ⟨k + 1, by omega, by go_num, by rw [HS2.out], by omega, HB2⟩
          case measure => first | (simp [intOf]; done) | (simp [intOf]; omega)
        · rw [lessR_no (by omega)]
          have HV := hide (lessR_no (l := l) (n := ((len + szEs fs : Nat) : Int)) (by have := HLE.out; omega))
          clear hst HLE
          go_wp2
          go_ret
          exact ⟨by rw [HV.out]; rfl, HB2.out⟩
      · obtain rfl : k = len := by omega
        rw [List.take_of_length_le (by omega)] at hle ⊢
        have HV : Hid (lessR l ((k + szEs fs : Nat) : Int) = l - (k : Int) - (szEs fs : Int)) := hide (by rw [lessR_yes (by omega)]; omega)
        go_wp2
        go_ret
        exact ⟨by rw [HV.out]; rfl, HB.out⟩

set_option maxRecDepth 100000 in
set_option maxHeartbeats 1000000 in
theorem toEntS_any (w : World) (a : Option Addr) (len cap : Nat) (fs : List EntV) (hr : entSh.Row w a len fs) (hl : len ≤ 1048576) :
    Calls Tryz.prog 34 #[.slice a len cap] w fun e w' => e = .returned (.slice (some ⟨w.heap.size, 0, none⟩) len len) ∧ entSh.Own 59 w' w.heap.size (.slice (some ⟨w.heap.size, 0, none⟩) len len) fs ∧ Below w.heap.size w w' := by
  have HR := hide hr
  have hlen := hr.len
  clear hr
  obtain ⟨i0, hi, hz0, hz1, hz2⟩ := info_parts Tryz.infoEnt
  obtain ⟨w1, hmk, hown, hgrow⟩ := run_make_full (P := Tryz.prog) w w.heap.size 24 59 i0 _ 5 Tryz.underlying24 hi hz0 hz1 .i64 .i64 len (by rw [hz2]; omega) (by unfold maxLen; omega) (Nat.le_refl _)
  have HB1 := hide ((Below.refl w.heap.size w).grown hgrow (Nat.le_refl _) (by intro k h; cases h))
  have HO1 : Hid (entSh.Own 59 w1 w.heap.size (.slice (some ⟨w.heap.size, 0, none⟩) len len) (List.replicate len zeroE)) := hide (by
    unfold Shape.Own
    rw [List.length_replicate, entSh.flat_made]
    exact hown)
  clear hown hgrow hi hz0 hz1 hz2
  go_enter Tryz.func34, Tryz.ntmps34
  go_wp2
  go_loopw [4] (fun i wr => ∃ (k : Nat) (gs : List EntV), k ≤ len ∧ i = .int .i64 k ∧ Hid (gs.length = len ∧ gs.take k = fs.take k) ∧ Hid (entSh.Own 59 wr w.heap.size (.slice (some ⟨w.heap.size, 0, none⟩) len len) gs) ∧ Hid (Below w.heap.size w wr)) (fun i _ => len - (intOf i).toNat)
  case atStart => exact ⟨0, _, by omega, rfl, hide (by simp), HO1, HB1⟩
  case round =>
    clear hmk HO1 HB1
    obtain ⟨k, gs, hk, rfl, HG, HO, HB⟩ := hrel
    by_cases hlt : k < len
    · have hkf : k < fs.length := by omega
      obtain ⟨b, off, rfl, hbw, e1, e2, e3, e4, e5⟩ := ent_cells (HR.out.later HB.out) k hkf
      go_wp2_with fail
      refine (toEnt_any (fs[k]) wr).mono ?_
      rintro e w2 ⟨rfl, hb2⟩
      have HO2 := hide (HO.out.later hb2 (Nat.le_refl _))
      have HB2 := hide (HB.out.trans (hb2.mono HB.out.size))
      have HP := hide (HO2.out.put k (fs[k]) hlt)
      have f1 := HO2.out.frz (k * 5)
      have f2 := HO2.out.frz (k * 5 + 1)
      have f3 := HO2.out.frz (k * 5 + 2)
      have f4 := HO2.out.frz (k * 5 + 3)
      have f5 := HO2.out.frz (k * 5 + 4)
      obtain ⟨b', o', q0, -, q1, q2, q3, q4, q5⟩ := ent_cells HO2.out.row k (by rw [HO2.out.len]; omega)
      simp only [Option.some.injEq, Addr.mk.injEq] at q0
      obtain ⟨rfl, rfl, -⟩ := q0
      rw [Nat.zero_add] at q1 q2 q3 q4 q5
      clear hb2 e1 e2 e3 e4 e5 HB HO
      have HG2 : Hid ((gs.set k (fs[k])).length = len ∧ (gs.set k (fs[k])).take (k + 1) = fs.take (k + 1)) := hide ⟨by rw [List.length_set]; exact HG.out.1, take_set_succ' gs fs k hkf (by have := HG.out.1; omega) HG.out.2⟩
      have HB3 := hide (HB2.out.grown HP.out.2 HB2.out.size (by intro j h; injection h with h; omega))
      clear HB2 HG
      go_wp2
      go_roundw
      case rel => exact ⟨k + 1, gs.set k (fs[k]), by omega, by go_num, HG2, hide HP.out.1, HB3⟩
      case measure => first | (simp [intOf]; done) | (simp [intOf]; omega)
    · obtain rfl : k = len := by omega
      have HE : Hid (gs = fs) := hide (by
        have h := HG.out
        rw [List.take_of_length_le (by omega), List.take_of_length_le (by omega)] at h
        exact h.2)
      clear HG
      go_wp2
      go_ret
      exact ⟨rfl, by rw [← HE.out]; exact HO.out, HB.out⟩

set_option maxRecDepth 100000 in
set_option maxHeartbeats 4000000 in
theorem eqEntS_same (w : World) (a b : Option Addr) (n cap cap' : Nat) (xs : List EntV) (ha : entSh.Row w a n xs) (hb : entSh.Row w b n xs) (hn : n ≤ 1099511627776) :
    Calls Tryz.prog 36 #[.slice a n cap, .slice b n cap'] w fun e w' => e = .returned (.bool true) ∧ Below w.heap.size w w' := by
  have HA := hide ha
  have HB := hide hb
  have HLN := hide ha.len
  clear ha hb
  go_enter Tryz.func36, Tryz.ntmps36
  go_wp2
  go_loopw [5] (fun x wr => ∃ k : Nat, k ≤ n ∧ x = .int .i64 k ∧ Hid (Below w.heap.size w wr)) (fun x _ => n - (intOf x).toNat)
  case atStart => exact ⟨0, by omega, rfl, hide (Below.refl _ _)⟩
  case round =>
    obtain ⟨k, hk, rfl, HW⟩ := hrel
    by_cases hlt : k < n
    · have hkx : k < xs.length := by have := HLN.out; omega
      obtain ⟨b1, o1, rfl, hb1, c0, c1, c2, c3, c4⟩ := ent_cells (HA.out.later HW.out) k hkx
      obtain ⟨b2, o2, rfl, hb2, d0, d1, d2, d3, d4⟩ := ent_cells (HB.out.later HW.out) k hkx
      have HE := hide (eqEnt_any (xs[k]) (xs[k]))
      rw [(eqE_iff _ _).2 rfl] at HE
      have hk2 : (k : Int) < (n : Int) := by omega
      go_wp2_with fail
      go_region_with (go_at_call 57; refine (HE.out _).mono ?_; rintro e w1 ⟨rfl, hb1⟩)
      all_goals
        have HW1 := hide (HW.out.trans (((Below.refl _ _).drew.trans hb1).mono HW.out.size))
        clear hb1 HW HE c0 c1 c2 c3 c4 d0 d1 d2 d3 d4
        go_wp2
        go_roundw
        case rel => exact ⟨k + 1, by omega, by go_num, HW1⟩
        case measure => first | (simp [intOf]; done) | (simp [intOf]; omega)
    · obtain rfl : k = n := by omega
      go_wp2
      go_ret
      exact ⟨rfl, HW.out⟩

theorem list_ofE {Q : Nat → EntV → Prop} : ∀ n, (∀ i, i < n → ∃ f, Q i f) → ∃ fs : List EntV, fs.length = n ∧ ∀ i, (h : i < fs.length) → Q i (fs[i])
  | 0, _ => ⟨[], rfl, fun i h => by simp at h⟩
  | n + 1, h => by
    obtain ⟨fs, hl, hq⟩ := list_ofE n (fun i hi => h i (by omega))
    obtain ⟨f, hf⟩ := h n (by omega)
    refine ⟨fs ++ [f], by simp [hl], fun i hi => ?_⟩
    rcases Nat.lt_or_ge i fs.length with h' | h'
    · rw [List.getElem_append_left h']; exact hq i h'
    · have e : i = n := by simp at hi; omega
      subst e
      rw [List.getElem_append_right h']
      simpa using hf

section
variable {H : Type} {enc : TypeId × Value → H} {w : World} {base : Nat} {spare : Nat → Bool} {held : Bool}
set_option maxRecDepth 100000 in
/-- The entries themselves. -/
theorem open_ents {fuel : Nat} {cs : List Value} {x : DataW H × List MemPlace} (h : DataW.trod enc Tryz.prog w base spare held fuel 39 cs = some x) :
    ∃ (a : Option Addr) (n cap : Nat) (fs : List EntV), cs = [.slice a n cap] ∧ entSh.Row w a n fs ∧ EFits fs ∧ n ≤ maxLen := by
  rcases open_slice Tryz.underlying39 h with ⟨rfl, _⟩ | ⟨a, len, cap, m, n, D, Pl, rfl, hb, hl, hm, hmm, _, hx⟩
  · exact ⟨none, 0, 0, [], rfl, ⟨rfl, fun i hi => by simp at hi⟩, fun i hi => by simp at hi, by omega⟩
  · have hlm : len ≤ m := by rw [hmm]; split <;> omega
    rw [cellsLE] at hx
    obtain ⟨fs, hfl, hfs⟩ := list_ofE (Q := fun i f => (∃ b off, a = ⟨b, off, none⟩ ∧ b < w.heap.size ∧ ∀ j, j < 5 → w.cell? ⟨b, off + i * 5 + j, none⟩ = (entSh.cells f)[j]?) ∧ f.key.size ≤ maxLen) len (fun i hi => by
      obtain ⟨cs', h1, h2⟩ := hx i (by omega)
      obtain ⟨f, rfl, f1⟩ := open_ent h2
      obtain ⟨_, _, hcell⟩ := World.cells?_some h1
      refine ⟨f, ?_, f1⟩
      obtain ⟨b, off, spot⟩ := a
      have hs : spot = none := by
        obtain ⟨cs0, h01, h02⟩ := hx 0 (by omega)
        obtain ⟨f0, rfl, -⟩ := open_ent h02
        obtain ⟨_, _, hc0⟩ := World.cells?_some h01
        have hk : w.cell? (((⟨b, off, spot⟩ : Addr).add (0 * 5)).add 0) = some (.string f0.key) := hc0 0 (by omega)
        simpa [Addr.add] using World.cell?_spot hk
      subst hs
      have e : ∀ j k, ((⟨b, off, none⟩ : Addr).add j).add k = ⟨b, off + j + k, none⟩ := fun j k => by
        have e1 : ∀ o q, (⟨b, o, none⟩ : Addr).add q = ⟨b, o + q, none⟩ := fun o q => by unfold Addr.add; split <;> simp_all
        rw [e1, e1]
      refine ⟨b, off, rfl, ?_, fun j hj => ?_⟩
      · have k0 : w.cell? (((⟨b, off, none⟩ : Addr).add (i * 5)).add 0) = some (.string f.key) := hcell 0 (by omega)
        rw [e] at k0
        rcases Nat.lt_or_ge b w.heap.size with h' | h'
        · exact h'
        · simp [World.cell?, Array.getElem?_eq_none h'] at k0
      · have k0 := hcell j hj
        rw [e] at k0
        exact k0)
    refine ⟨some a, len, cap, fs, rfl, ⟨hfl, fun i hi => ?_⟩, fun i hi => (hfs i hi).2, Nat.le_trans hl hm⟩
    obtain ⟨b, off, rfl, h1, h2⟩ := (hfs i hi).1
    exact ⟨b, off, rfl, h1, h2⟩
end

end Go.Proofs.YtphbinkkgmlnmaaGreatDoor
namespace Go.Proofs.YtphbinkkgmlnmaaGreatDoor
open Go.RowKit
open Plain

theorem ent_neq (f g : EntV) (w : World) : (binOp .neq 59 (.agg #[.string f.key, .int .i64 f.seg, .int .i64 f.pos, .int .i64 f.len, .int .i64 f.bat]) (.agg #[.string g.key, .int .i64 g.seg, .int .i64 g.pos, .int .i64 g.len, .int .i64 g.bat])).run Tryz.prog w = .ok (.bool (!eqE f g)) w := by
  have hS : Tryz.prog.underlying 59 = some (.struct (Tryz.prog.fieldsOf 59)) := by kernel_rfl
  have hp : Tryz.prog.stoodInHeld 59 = false := by kernel_rfl
  have u3 := Tryz.underlying3
  have a3 := Tryz.isAgg3
  have z3 := Tryz.sizeOf3
  have u9 := Tryz.underlying9
  have a9 := Tryz.isAgg9
  have z9 := Tryz.sizeOf9
  rw [run_neq_struct, show (10000 : Nat) = 9999 + 1 from rfl, run_equalIn_agg w 9999 59 _ _ hS hp]
  simp only [Program.fieldsOf, Tryz.underlying59]
  by_cases h1 : f.key = g.key
  · have t1 := str_eq _ _ h1
    by_cases h2 : f.seg = g.seg
    · have t2 : (f.seg == g.seg) = true := by simpa using h2
      by_cases h3 : f.pos = g.pos
      · have t3 : (f.pos == g.pos) = true := by simpa using h3
        by_cases h4 : f.len = g.len
        · have t4 : (f.len == g.len) = true := by simpa using h4
          by_cases h5 : f.bat = g.bat
          · have h : f = g := EntV.ext' h1 h2 h3 h4 h5
            rw [(eqE_iff _ _).2 h]
            subst h
            clear t2 t3 t4 h1 h2 h3 h4 h5
            go_simp
            try simp
          · rw [eqE_no (fun h => h5 (by rw [h]))]
            have t5 : (f.bat == g.bat) = false := by simpa using h5
            go_simp
        · rw [eqE_no (fun h => h4 (by rw [h]))]
          have t4 : (f.len == g.len) = false := by simpa using h4
          go_simp
      · rw [eqE_no (fun h => h3 (by rw [h]))]
        have t3 : (f.pos == g.pos) = false := by simpa using h3
        go_simp
    · rw [eqE_no (fun h => h2 (by rw [h]))]
      have t2 : (f.seg == g.seg) = false := by simpa using h2
      go_simp
  · rw [eqE_no (fun h => h1 (by rw [h]))]
    have t1 := str_ne _ _ h1
    go_simp
theorem ent_guard : Tryz.prog.eqGuardType Tryz.prog.depth 59 = false := by kernel_rfl


attribute [local go_sem] ent_neq ent_guard

set_option maxRecDepth 100000 in
set_option maxHeartbeats 2000000 in
theorem specSame_same (w : World) (a b : Option Addr) (n cap cap' : Nat) (xs : List EntV) (ha : entSh.Row w a n xs) (hb : entSh.Row w b n xs) (hn : n ≤ 1099511627776) :
    Calls Tryz.prog 9 #[.slice a n cap, .slice b n cap'] w fun e w' => e = .returned (.bool true) ∧ Below w.heap.size w w' := by
  have HA := hide ha
  have HB := hide hb
  have HLN := hide ha.len
  clear ha hb
  go_enter Tryz.func9, Tryz.ntmps9
  go_wp2
  go_loopw [5] (fun x wr => ∃ k : Nat, k ≤ n ∧ x = .int .i64 k ∧ Hid (Below w.heap.size w wr)) (fun x _ => n - (intOf x).toNat)
  case atStart => exact ⟨0, by omega, rfl, hide (Below.refl _ _)⟩
  case round =>
    obtain ⟨k, hk, rfl, HW⟩ := hrel
    by_cases hlt : k < n
    · have hkx : k < xs.length := by have := HLN.out; omega
      obtain ⟨b1, o1, rfl, hb1, c0, c1, c2, c3, c4⟩ := ent_cells (HA.out.later HW.out) k hkx
      obtain ⟨b2, o2, rfl, hb2, d0, d1, d2, d3, d4⟩ := ent_cells (HB.out.later HW.out) k hkx
      have hk2 : (k : Int) < (n : Int) := by omega
      have hxy := (eqE_iff (xs[k]) (xs[k])).2 rfl
      have hne := ent_neq (xs[k]) (xs[k])
      rw [hxy] at hne
      clear hxy
      generalize xs[k] = z at *
      go_wp2
      go_region
      go_wp2
      go_roundw
      case rel => exact ⟨k + 1, by omega, by go_num, hide HW.out.drew⟩
      case measure => first | (simp [intOf]; done) | (simp [intOf]; omega)
    · obtain rfl : k = n := by omega
      go_wp2
      go_ret
      exact ⟨rfl, HW.out⟩

set_option maxRecDepth 100000 in
set_option maxHeartbeats 2000000 in
theorem has_any (w : World) (a : Option Addr) (n cap : Nat) (zs : List Int) (x : Int) (ha : IRow w 0 a n zs) (hn : n ≤ 1048576) :
    Calls Tryz.prog 11 #[.slice a n cap, .int .i64 x] w fun e w' => e = .returned (.bool (decide (x ∈ zs))) ∧ Below w.heap.size w w' := by
  have hfn := ha.len
  have HA := hide ha
  clear ha
  go_enter Tryz.func11, Tryz.ntmps11
  go_wp2
  go_loopw [5] (fun i wr => ∃ k : Nat, k ≤ n ∧ i = .int .i64 k ∧ Hid (¬ x ∈ zs.take k) ∧ Hid (Below w.heap.size w wr)) (fun i _ => n - (intOf i).toNat)
  case atStart => exact ⟨0, by omega, rfl, hide (by simp), hide (Below.refl _ _)⟩
  case round =>
    obtain ⟨k, hk, rfl, HN, HB⟩ := hrel
    by_cases hlt : k < n
    · have h1 : k < zs.length := by omega
      obtain ⟨b1, o1, rfl, -, hb1, e1⟩ := (HA.out.later HB.out (Nat.le_refl _)).cells k h1
      have HT : Hid (¬ zs[k] = x → ¬ x ∈ zs.take (k + 1)) := hide (fun h => by
        rw [List.take_succ_eq_append_getElem h1, List.mem_append, List.mem_singleton]
        rintro (h2 | h2)
        · exact HN.out h2
        · exact h h2.symm)
      have HM : Hid (zs[k] = x → decide (x ∈ zs) = true) := hide (fun h => decide_eq_true (by rw [← h]; exact List.getElem_mem h1))
      generalize zs[k] = z at *
      by_cases hzx : z = x
      · have t1 : (z == x) = true := by simpa using hzx
        have HM2 := hide (HM.out hzx)
        clear HM HT hzx
        go_wp2
        first
          | (go_region; go_wp2)
          | skip
        go_ret
        exact ⟨by rw [HM2.out]; rfl, by first | exact HB.out | exact HB.out.drew⟩
      · have t1 : (z == x) = false := by simpa using hzx
        have HT2 := hide (HT.out hzx)
        clear HM HT hzx
        go_wp2
        first
          | (go_region; go_wp2)
          | skip
        go_roundw
        case rel => exact ⟨k + 1, by omega, by go_num, HT2, hide (by first | exact HB.out | exact HB.out.drew)⟩
        case measure => first | (simp [intOf]; done) | (simp [intOf]; omega)
    · obtain rfl : k = n := by omega
      have HD : Hid (decide (x ∈ zs) = false) := hide (decide_eq_false (by have := HN.out; rwa [List.take_of_length_le (by omega)] at this))
      go_wp2
      go_ret
      exact ⟨by rw [HD.out]; rfl, HB.out⟩

end Go.Proofs.YtphbinkkgmlnmaaGreatDoor
namespace Go.Proofs
open Go.Shelf
def Tryz.lays169_ren : Go.Shelf.Ren := ⟨fun | 169 => 73 | n => n, fun | 70 => 112 | 9 => 9 | 0 => 0 | 72 => 114 | 37 => 22 | 127 => 133 | 3 => 3 | 5 => 5 | n => n, fun | n => n⟩
theorem Tryz.lays169 : Go.Proofs.Lays.n169 Tryz.prog Tryz.lays169_ren := {
  mixed := by kernel_rfl
  f169 := Tryz.func73.trans (congrArg some (by kernel_rfl))
  t0 := Tryz.underlying0
  a0 := Tryz.isAgg0
  z0 := Tryz.sizeOf0
  v0 := Tryz.zeroValue0
  t3 := Tryz.underlying3
  a3 := Tryz.isAgg3
  z3 := Tryz.sizeOf3
  v3 := Tryz.zeroValue3
  t9 := Tryz.underlying9
  a9 := Tryz.isAgg9
  z9 := Tryz.sizeOf9
  v9 := Tryz.zeroValue9
  t37 := Tryz.underlying22
  a37 := Tryz.isAgg22
  z37 := Tryz.sizeOf22
  v37 := Tryz.zeroValue22
  t70 := Tryz.underlying112
  a70 := Tryz.isAgg112
  z70 := Tryz.sizeOf112
  v70 := Tryz.zeroValue112
  t72 := Tryz.underlying114
  a72 := Tryz.isAgg114
  z72 := Tryz.sizeOf114
  v72 := Tryz.zeroValue114
  t127 := Tryz.underlying133
  a127 := Tryz.isAgg133
  z127 := Tryz.sizeOf133
  v127 := Tryz.zeroValue133 }
theorem Tryz.Builder_Extra_169 : Builder.Extra Tryz.prog Tryz.lays169_ren := {
  sizeBuilder := by kernel_rfl
  liesBuilder := by kernel_rfl
  t5 := Tryz.underlying5
  a5 := Tryz.isAgg5
  z5 := Tryz.sizeOf5
  v5 := Tryz.zeroValue5
  infoByte := by kernel_rfl
  cellsByte := by kernel_rfl
  sizeByte := by kernel_rfl
  neB5 := by decide }
open Go.RowKit in
theorem Tryz.Builder_String (B b : Nat) (l : List UInt8) (w : World) (h : Lib.IsBuilder 114 5 B b (Lib.byteCells l) w) (h0 : l ≠ []) :
    Calls Tryz.prog 73 #[.pointer (some ⟨b, 0, none⟩)] w fun e w' => e = .returned (.string ⟨l.toArray⟩) ∧ Below B w w' := Any.Builder_String Tryz.lays169 Tryz.Builder_Extra_169 B b l w h h0
open Go.RowKit in
theorem Tryz.Builder_String_empty (B b : Nat) (w : World) (h : Lib.IsBuilder 114 5 B b [] w) (hBw : B ≤ w.heap.size) :
    Calls Tryz.prog 73 #[.pointer (some ⟨b, 0, none⟩)] w fun e w' => e = .returned (.string ⟨#[]⟩) ∧ Below B w w' := Any.Builder_String_empty Tryz.lays169 Tryz.Builder_Extra_169 B b w h hBw
open Go.RowKit in
theorem Tryz.Builder_String_any (B b : Nat) (l : List UInt8) (w : World) (h : Lib.IsBuilder 114 5 B b (Lib.byteCells l) w) (hBw : B ≤ w.heap.size) :
    Calls Tryz.prog 73 #[.pointer (some ⟨b, 0, none⟩)] w fun e w' => e = .returned (.string ⟨l.toArray⟩) ∧ Below B w w' := Any.Builder_String_any Tryz.lays169 Tryz.Builder_Extra_169 B b l w h hBw
end Go.Proofs
namespace Go.Proofs.YtphbinkkgmlnmaaGreatDoor
open Go.RowKit
open Plain

theorem bldSize : (Tryz.prog.info? 114).map (·.size) = some 2 := by kernel_rfl
theorem bldLies : liesAt Tryz.prog Tryz.prog.depth 114 (2 / Tryz.prog.cellsOf 114) 0 114 1 = true := by kernel_rfl
theorem bldByte : (Tryz.prog.info? 5).map (fun i => (i.zero, i.size, i.bytes)) = some (some (.int .u8 0), 1, 1) := by kernel_rfl

set_option maxHeartbeats 1000000 in
set_option maxRecDepth 100000 in
/-- copyCheck leaves a builder that knows its own place, with what it held. -/
theorem bldCheck_any (B b : Nat) (bs : List Value) (w : World) (h : Lib.IsBuilder 114 5 B b bs w) :
    Calls Tryz.prog 81 #[.pointer (some ⟨b, 0, none⟩)] w fun e w' => e = .returned (.tuple #[]) ∧ Lib.BuilderAt 114 5 B b (.pointer (some ⟨b, 0, none⟩)) bs w' ∧ Below B w w' := by
  obtain ⟨j, hj, hjs⟩ := Option.map_eq_some_iff.1 bldSize
  rcases h with h | h
  · have HE := hide (h.used (.pointer (some ⟨b, 0, none⟩)))
    have HB := hide ((Below.refl B w).setCell (p := ⟨b, 0, none⟩) h.1 (.pointer (some ⟨b, 0, none⟩)))
    have d0 := h.cell0
    have f0 := h.frozen0
    have c1 := Lib.run_to_unsafe (P := Tryz.prog) w ⟨b, 0, none⟩ Tryz.underlying112 Tryz.underlying138 hj (by rw [hjs]; decide) h.shape (Nat.zero_lt_succ 1)
    have c2 := @run_callFunc_extern Tryz.prog 93 _ Extern.AbiNoEscape.same Tryz.func93 (by kernel_rfl) (by kernel_rfl) (by kernel_rfl) (by kernel_rfl)
    have c3 : ∀ x, (Extern.AbiNoEscape.same #[x]).run Tryz.prog w = .ok x w := fun x => Lib.run_noEscape w x
    have c4 := Lib.run_from_unsafe (P := Tryz.prog) w ⟨b, 0, none⟩ Tryz.underlying138 Tryz.underlying112 hj h.shape bldLies
    clear h
    go_enter Tryz.func81, Tryz.ntmps81
    go_wp2
    go_end0
    exact ⟨rfl, HE.out, HB.out⟩
  · have HE := hide h
    have d0 := h.cell0
    have c1 := Lib.run_neq_ptr_same (P := Tryz.prog) w ⟨b, 0, none⟩ Tryz.underlying112 hj
    clear h
    go_enter Tryz.func81, Tryz.ntmps81
    go_wp2
    go_end0
    exact ⟨rfl, HE.out, Below.refl B _⟩

/-- A row of bytes of the call's own, grown, is put into the builder's block. -/
theorem bld_grown {B b : Nat} {v v' : Value} {bs cs : List Value} {w1 w2 : World} (hB : B ≤ b) (hbk : w1.heap[b]? = some (.cells #[.pointer (some ⟨b, 0, none⟩), v] 114 (0, 0))) (hown : w1.ownsRow B 5 1 v bs.length bs) (hne : v.ownBlock ≠ some b) (hown' : w2.ownsRow B 5 1 v' cs.length cs) (hg : w1.grownBy w2 v.ownBlock) (hBw : B ≤ w1.heap.size) :
    w2.heap[b]? = some (.cells #[.pointer (some ⟨b, 0, none⟩), v] 114 (0, 0)) ∧ Lib.BuilderAt 114 5 B b (.pointer (some ⟨b, 0, none⟩)) cs (w2.setCell ⟨b, 1, none⟩ v') ∧ Below B w1 (w2.setCell ⟨b, 1, none⟩ v') := by
  have h2 := (hg.block b (Array.getElem?_eq_some_iff.1 hbk).1 (fun e => hne e.symm)).trans hbk
  exact ⟨h2, Lib.BuilderAt.put hB h2 hown' (by decide), ((Below.refl B w1).grown hg hBw (fun k hk => (hown.lt k hk).1)).setCell (p := ⟨b, 1, none⟩) hB _⟩

set_option maxHeartbeats 2000000 in
set_option maxRecDepth 100000 in
/-- WriteString puts a text behind what the builder holds. -/
theorem bldWrite_any (B b : Nat) (bs : List Value) (s : ByteArray) (w : World) (h : Lib.IsBuilder 114 5 B b bs w) (hlen : bs.length + s.size ≤ 140737488355328) (hBw : B ≤ w.heap.size) :
    Calls Tryz.prog 70 #[.pointer (some ⟨b, 0, none⟩), .string s] w fun e w' => e = .returned (.tuple #[.int .i64 s.size, .nilIface]) ∧ (Lib.BuilderAt 114 5 B b (.pointer (some ⟨b, 0, none⟩)) (bs ++ Lib.strCells s) w' ∧ Below B w w') := by
  obtain ⟨i0, hi, hz0, hz1, hz2⟩ := info_parts bldByte
  have HC := hide (bldCheck_any B b bs w h)
  clear h
  go_enter Tryz.func70, Tryz.ntmps70
  go_wp2_with fail
  refine HC.out.mono ?_
  rintro e w1 ⟨rfl, ⟨hB, v, hbk, hown, hne⟩, hb1⟩
  have HK := hide hbk
  have HO := hide hown
  have HN := hide hne
  have HB1 := hide hb1
  have hs1 : B ≤ w1.heap.size := Nat.le_trans hBw hb1.size
  have d0 : w1.cell? ⟨b, 0, none⟩ = _ := cell_of_row w1 _ 0 _ _ _ hbk
  have d1 : w1.cell? ⟨b, 1, none⟩ = _ := cell_of_row w1 _ 1 _ _ _ hbk
  clear hbk hown hne hb1 HC
  go_wp2_with (at_builtin; refine Lib.wpList_append_own_string _ rfl _ _ 22 9 rfl B 5 i0 Tryz.underlying22 Tryz.underlying9 hi hz0 hz1 hz2 _ _ _ rfl HO.out s rfl (by unfold maxLen; omega) hlen hs1 ?_; intro v' w2 ho2 hg2 _; have HG := hide (bld_grown (cs := bs ++ Lib.strCells s) hB HK.out HO.out HN.out (by simpa [Lib.strCells_length] using ho2) hg2 hs1); obtain ⟨ao, n', cap, rfl⟩ : ∃ ao n' cap, v' = .slice ao n' cap := (by rcases ho2.2 with ⟨e, _⟩ | ⟨_, _, _, e, _⟩ <;> exact ⟨_, _, _, e⟩); have y0 : w2.cell? ⟨b, 0, none⟩ = _ := cell_of_row w2 _ 0 _ _ _ HG.out.1; have y1 : w2.cell? ⟨b, 1, none⟩ = _ := cell_of_row w2 _ 1 _ _ _ HG.out.1; have g1 := Lib.frozen_of_heap HG.out.1 1; clear ho2 hg2)
  go_ret2
  exact ⟨rfl, HG.out.2.1, HB1.out.trans HG.out.2.2⟩

/-- What it holds, as a text. -/
theorem bldString_any (B b : Nat) (t : ByteArray) (w : World) (h : Lib.IsBuilder 114 5 B b (Lib.strCells t) w) (hBw : B ≤ w.heap.size) :
    Calls Tryz.prog 73 #[.pointer (some ⟨b, 0, none⟩)] w fun e w' => e = .returned (.string t) ∧ Below B w w' := Tryz.Builder_String_any B b t.data.toList w h hBw

theorem bld_later {B b : Nat} {p : Value} {bs : List Value} {w w' : World} (h : Lib.BuilderAt 114 5 B b p bs w) (hb : Below w.heap.size w w') : Lib.BuilderAt 114 5 B b p bs w' := by
  have hlt := h.lt
  obtain ⟨hB, v, hbk, hown, hne⟩ := h
  refine ⟨hB, v, (hb.block b hlt).trans hbk, ⟨hown.1, ?_⟩, hne⟩
  rcases hown.2 with h | ⟨g, c, cur, e, hbg, hg, h1⟩
  · exact .inl h
  · exact .inr ⟨g, c, cur, e, hbg, (hb.block g (Array.getElem?_eq_some_iff.1 hg).1).trans hg, h1⟩

end Go.Proofs.YtphbinkkgmlnmaaGreatDoor
namespace Go.Proofs.YtphbinkkgmlnmaaGreatDoor
open Go.RowKit
open Plain

set_option maxRecDepth 100000 in
set_option maxHeartbeats 4000000 in
theorem show_right (k b : Int) (key val : ByteArray) (c s : Int) (t : TypeId) (v : Value) (body : ByteArray) (hz : body.size ≤ 1048576) (w : World)
    (hO : Ans 82 #[.agg #[.int .i64 k, .int .i64 b, .string key, .string val, .int .i64 c, .int .i64 s]] (.bool true))
    (hB : Ans 85 #[.agg #[.int .i64 k, .int .i64 b, .string key, .string val, .int .i64 c, .int .i64 s]] (.iface t v)) (hS : Ans 84 #[.iface t v] (.string body)) :
    Calls Tryz.prog 71 #[.agg #[.int .i64 k, .int .i64 b, .string key, .string val, .int .i64 c, .int .i64 s]] w fun e w' => e = .returned (.string (varS k ++ varS b ++ body)) ∧ Below w.heap.size w w' := by
  have HA := hide (RecAt.new w k b key val c s)
  have HK := hide (implVar_any k)
  have HBt := hide (implVar_any b)
  have HO := hide hO
  have HB := hide hB
  have HS := hide hS
  have z1 := varS_size k
  have z2 := varS_size b
  have z3 : ¬ 9223372036854775807 < (varS k).size + (varS b).size := by omega
  have z4 : ¬ 9223372036854775807 < (varS k).size + (varS b).size + body.size := by omega
  have z5 : ¬ 9223372036854775807 < (varS k ++ varS b).size + body.size := by rw [ByteArray.size_append]; omega
  clear hO hB hS z1 z2 hz
  generalize varS k = vk at *
  generalize varS b = vb at *
  go_enter Tryz.func71, Tryz.ntmps71
  go_wp2_with fail
  refine (HO.out _).mono ?_
  rintro e w1 ⟨rfl, hb1⟩
  have hS1 := (HA.out.later hb1.drew).cells
  clear HA hb1
  go_wp2
  go_region_held3 (fun w' => w'.cell? ⟨w.heap.size, 0, none⟩ = some (.int .i64 k) ∧ w'.cell? ⟨w.heap.size, 1, none⟩ = some (.int .i64 b) ∧ w'.cell? ⟨w.heap.size, 2, none⟩ = some (.string key) ∧ w'.cell? ⟨w.heap.size, 3, none⟩ = some (.string val) ∧ w'.cell? ⟨w.heap.size, 4, none⟩ = some (.int .i64 c) ∧ w'.cell? ⟨w.heap.size, 5, none⟩ = some (.int .i64 s) ∧ Hid (RecAt w w.heap.size k b key val c s w')) (assumption) (first
    | (go_at_call_of 83 (Value.int IntKind.i64 k); refine (RecAt.keep HK.out _ hS1.2.2.2.2.2.2).mono ?_; rintro e w2 ⟨rfl, hk2⟩; have hS2 := hk2.cells)
    | (go_at_call_of 83 (Value.int IntKind.i64 b); refine (RecAt.keep HBt.out _ hS2.2.2.2.2.2.2).mono ?_; rintro e w3 ⟨rfl, hk3⟩; have hS3 := hk3.cells)
    | (go_at_call 85; refine (RecAt.keep HB.out _ hS3.2.2.2.2.2.2).mono ?_; rintro e w4 ⟨rfl, hk4⟩; have hS4 := hk4.cells)
    | (go_at_call 84; refine (RecAt.keep HS.out _ hS4.2.2.2.2.2.2).mono ?_; rintro e w5 ⟨rfl, hk5⟩; have hS5 := hk5.cells))
  have HBl := hide hk5.bel
  clear hS5 hk5 hS4 hk4 hS3 hk3 hS2 hk2 hS1 HK HBt HO HB HS
  go_wp2
  go_ret
  exact ⟨rfl, HBl.out⟩

set_option maxRecDepth 100000 in
set_option maxHeartbeats 4000000 in
theorem show_wrong (k b : Int) (key val : ByteArray) (c s : Int) (w : World)
    (hO : Ans 82 #[.agg #[.int .i64 k, .int .i64 b, .string key, .string val, .int .i64 c, .int .i64 s]] (.bool false)) :
    Calls Tryz.prog 71 #[.agg #[.int .i64 k, .int .i64 b, .string key, .string val, .int .i64 c, .int .i64 s]] w fun e w' => e = .returned (.string ⟨#[]⟩) ∧ Below w.heap.size w w' := by
  have HA := hide (RecAt.new w k b key val c s)
  have HO := hide hO
  clear hO
  go_enter Tryz.func71, Tryz.ntmps71
  go_wp2_with fail
  refine (HO.out _).mono ?_
  rintro e w1 ⟨rfl, hb1⟩
  have HB := hide (HA.out.later hb1).bel
  clear HA hb1 HO
  go_wp2
  go_ret
  exact ⟨rfl, HB.out⟩

theorem implShow_any (r : RecV) : Ans 71 #[.agg #[.int .i64 r.kind, .int .i64 r.batch, .string r.key, .string r.val, .int .i64 r.cnt, .int .i64 r.sum]] (.string (showS r)) := by
  intro w
  have hO := implRecOk_any r
  cases h : recOkB r with
  | false =>
    rw [h] at hO
    rw [show_none r h]
    exact show_wrong _ _ _ _ _ _ w hO
  | true =>
    rw [h] at hO
    obtain ⟨k, b, key, val, c, s⟩ := r
    have hok : RecOkP k b key.size val.size c s := okN_iff.1 h
    have e : showS ⟨k, b, key, val, c, s⟩ = varS k ++ varS b ++ bodyS k key val c s := if_pos h
    rw [e]
    simp only
    unfold RecOkP at hok
    by_cases k1 : k = 1
    · subst k1
      have e1 : bodyS 1 key val c s = textS key ++ textS val := if_pos (Or.inl rfl)
      rw [e1]
      have z1 := textS_size key
      have z2 := textS_size val
      exact show_right 1 b key val c s _ _ _ (by rw [ByteArray.size_append]; omega) w hO (fun W => bodyOf_1 b key val c s W) (showBody_1 key val (by omega) (by omega))
    by_cases k4 : k = 4
    · subst k4
      have e1 : bodyS 4 key val c s = textS key ++ textS val := if_pos (Or.inr rfl)
      rw [e1]
      have z1 := textS_size key
      have z2 := textS_size val
      exact show_right 4 b key val c s _ _ _ (by rw [ByteArray.size_append]; omega) w hO (fun W => bodyOf_4 b key val c s W) (showBody_4 key val (by omega) (by omega))
    by_cases k2 : k = 2
    · subst k2
      have e1 : bodyS 2 key val c s = textS key := by unfold bodyS; rw [if_neg (by omega), if_pos rfl]
      rw [e1]
      have z1 := textS_size key
      exact show_right 2 b key val c s _ _ _ (by omega) w hO (fun W => bodyOf_2 b key val c s W) (showBody_2 key (by omega))
    have e1 : bodyS k key val c s = totS c s := by unfold bodyS; rw [if_neg (by omega), if_neg k2]
    rw [e1]
    have z1 := totS_size c s
    by_cases k3 : k = 3
    · subst k3
      exact show_right 3 b key val c s _ _ _ (by omega) w hO (fun W => bodyOf_3 b key val c s W) (showBody_3 c s (by omega))
    · obtain rfl : k = 5 := by omega
      exact show_right 5 b key val c s _ _ _ (by omega) w hO (fun W => bodyOf_5 b key val c s W) (showBody_5 c s (by omega))

end Go.Proofs.YtphbinkkgmlnmaaGreatDoor
namespace Go.Proofs.YtphbinkkgmlnmaaGreatDoor
open Go.RowKit
open Plain

def tabZ : List Int := [0, 274646895, 549293790, 820201905, 1098587580, 1361435347, 1640403810, 1905808397, 2197175160, 2460548119, 2722870694, 2987750089, 3280807620, 3553878443, 3811616794, 4084100981]
def tb (i : Nat) : Nat := tab.getD i 0
theorem tabZ_get : ∀ i, i < 16 → tabZ.getD i 0 = (tb i : Int) := by decide
/-- The package's table holds what its text lays. -/
def STab (w : World) : Prop := Lib.TabIs Tryz.prog w "loop.example/g01397/impl.sumTable" .u32 tabZ
theorem gSum : Tryz.prog.globalNamed "loop.example/g01397/impl.sumTable" = some 0 := by kernel_rfl
theorem STab.at {w : World} (h : STab w) (i : Nat) (hi : i < 16) : w.cell? ⟨0, i, none⟩ = some (.int .u32 (tb i)) := by
  have := Lib.TabIs.cell h gSum i hi
  rw [this, tabZ_get i hi]

theorem ofInt_u32 (a : Nat) (ha : a < 4294967296) : (BitVec.ofInt 32 (a : Int)).toNat = a := by
  rw [BitVec.ofInt_natCast, BitVec.toNat_ofNat]; exact Nat.mod_eq_of_lt (by omega)
theorem u32_xor_nat (a b : Nat) (ha : a < 4294967296) (hb : b < 4294967296) : bits .xor .u32 (a : Int) (b : Int) = ((a ^^^ b : Nat) : Int) := by
  have hx : a ^^^ b < 2 ^ 32 := Nat.xor_lt_two_pow (by omega) (by omega)
  show IntKind.u32.wrap ((BitVec.ofInt 32 (a : Int) ^^^ BitVec.ofInt 32 (b : Int)).toNat : Int) = _
  rw [BitVec.toNat_xor, ofInt_u32 a ha, ofInt_u32 b hb, IntKind.wrap_u32]
  omega
theorem u32_and15 (a : Nat) (ha : a < 4294967296) : bits .and .u32 (a : Int) 15 = ((a % 16 : Nat) : Int) := by
  have hx : a &&& 15 < 2 ^ 32 := Nat.and_lt_two_pow _ (by omega)
  have e : (15 : Int) = ((15 : Nat) : Int) := rfl
  show IntKind.u32.wrap ((BitVec.ofInt 32 (a : Int) &&& BitVec.ofInt 32 (15 : Int)).toNat : Int) = _
  rw [e, BitVec.toNat_and, ofInt_u32 a ha, ofInt_u32 15 (by omega), IntKind.wrap_u32, show a &&& 15 = a % 16 from Nat.and_two_pow_sub_one_eq_mod a 4]
  omega

theorem u32_four (x y : Nat) (hx : x < 4294967296) (h : (x / 16) ^^^ tb (x % 16) = y) : bits .xor .u32 ((x : Int) / 16) (tb (x % 16) : Int) = (y : Int) := by
  have e : (x : Int) / 16 = ((x / 16 : Nat) : Int) := by omega
  rw [e, u32_xor_nat (x / 16) (tb (x % 16)) (by omega) (tab_lt _ (Nat.mod_lt _ (by omega))), h]

set_option maxRecDepth 100000 in
set_option maxHeartbeats 1000000 in
theorem with_any (c b : Nat) (hc : c < 4294967296) (hb : b < 256) (w : World) (ht : STab w) :
    Calls Tryz.prog 86 #[.int .u32 c, .int .u8 b] w fun e w' => e = .returned (.int .u32 (bt c b)) ∧ w = w' := by
  have HT := hide ht
  clear ht
  have hx := u32_xor_nat c b hc (by omega)
  have hxl := xor_lt32 c b hc (by omega)
  have hyl := tkN_lt 4 _ hxl
  have h1 := u32_four _ _ hxl (four (c ^^^ b))
  have h2 := u32_four _ _ hyl (bt_two c b)
  generalize c ^^^ b = x at *
  generalize tkN 4 x = y at *
  have ha := u32_and15 x hxl
  have hb2 := u32_and15 y hyl
  have hcell := HT.out.at (x % 16) (by omega)
  have hcell2 := HT.out.at (y % 16) (by omega)
  go_enter Tryz.func86, Tryz.ntmps86
  go_wp2
  go_ret
  exact ⟨rfl, rfl⟩

theorem STab.later {w w' : World} (h : STab w) (hb : Below w.heap.size w w') : STab w' := by
  have hlt : 0 < w.heap.size := by
    have h0 := h.at 0 (by omega)
    rcases Nat.lt_or_ge 0 w.heap.size with h' | h'
    · exact h'
    · simp [World.cell?, Array.getElem?_eq_none h'] at h0
  unfold STab Lib.TabIs World.var? at *
  simp only [gSum, Option.bind_some] at h ⊢
  rw [hb.block _ hlt]
  exact h
theorem below_iter (w : World) (s : ByteArray) (p : Nat) : Below w.heap.size w (w.iter s p) := (Below.refl _ w).alloc (Nat.le_refl _) _

theorem width_pos (s : ByteArray) (pos : Nat) (h : pos < s.size) : 1 ≤ (Utf8.decode s pos).2 := by
  by_cases ha : (s[pos]'h).toNat < 128
  · rw [decode_ascii s pos h ha]
    exact Nat.le_refl _
  · exact (decode_high s pos h (by omega)).2

set_option maxRecDepth 100000 in
set_option maxHeartbeats 1000000 in
theorem implCrc_any (s : ByteArray) (w : World) (hs : s.size ≤ 1099511627776) (ht : STab w) :
    Calls Tryz.prog 72 #[.string s] w fun e w' => e = .returned (.int .i64 (crcN s)) ∧ Below w.heap.size w w' := by
  have HT : ∀ p, Hid (STab (w.iter s p)) := fun p => hide (ht.later (below_iter w s p))
  clear ht
  go_enter Tryz.func72, Tryz.ntmps72
  go_wp2
  go_loopw [3, 4] (fun c d wr => ∃ (pos k : Nat), wr = w.iter s pos ∧ k ≤ s.size ∧ c = .int .u32 (ck s k) ∧ d = .int .i64 k) (fun _ _ wr => s.size - wr.iterPos w.heap.size)
  case atStart => exact ⟨0, 0, rfl, by omega, by rw [ck_zero]; rfl, rfl⟩
  case round =>
    obtain ⟨pos, k, rfl, hk, rfl, rfl⟩ := hrel
    by_cases hp : pos < s.size
    · have hnx : ∀ ty, (Instr.next (.pointer (some ⟨w.heap.size, 0, none⟩)) true ty).run Tryz.prog (w.iter s pos) = _ := fun ty => run_next_any w s pos ty hp
      go_wp2
      have hwd := width_pos s pos hp
      go_loop [3, 4] (fun c d => ∃ k : Nat, k ≤ s.size ∧ c = .int .u32 (ck s k) ∧ d = .int .i64 k) (fun _ d => pos + 1 - (intOf d).toNat)
      case atStart => exact ⟨k, hk, rfl, rfl⟩
      case round =>
        obtain ⟨j, hj, rfl, rfl⟩ := hrel
        by_cases h8 : j ≤ pos
        · have hlt := ck_lt s j
          have hjs : j < s.size := by omega
          have hb := UInt8.toNat_lt s[j]
          go_wp2_with fail
          refine (with_any (ck s j) s[j].toNat hlt (by omega) _ (HT _).out).mono ?_
          rintro e w1 ⟨rfl, rfl⟩
          rw [← ck_succ s j hjs]
          go_wp2
          go_round
          case rel => exact ⟨j + 1, by omega, rfl, by go_num⟩
          case measure => first | (simp [intOf]; done) | (simp [intOf]; omega)
        · go_wp2
          go_roundw
          case rel => exact ⟨_, j, rfl, hj, rfl, rfl⟩
          case measure =>
            simp
            omega
    · have hnx : ∀ ty, (Instr.next (.pointer (some ⟨w.heap.size, 0, none⟩)) true ty).run Tryz.prog (w.iter s pos) = _ := fun ty => run_next_end w s pos ty hp
      go_wp2
      go_loop [3, 4] (fun c d => ∃ k : Nat, k ≤ s.size ∧ c = .int .u32 (ck s k) ∧ d = .int .i64 k) (fun _ d => s.size - (intOf d).toNat)
      case atStart => exact ⟨k, hk, rfl, rfl⟩
      case round =>
        obtain ⟨j, hj, rfl, rfl⟩ := hrel
        have hlt := ck_lt s j
        by_cases hjs : j < s.size
        · have hb := UInt8.toNat_lt s[j]
          go_wp2_with fail
          refine (with_any (ck s j) s[j].toNat hlt (by omega) _ (HT _).out).mono ?_
          rintro e w1 ⟨rfl, rfl⟩
          rw [← ck_succ s j hjs]
          go_wp2
          go_round
          case rel => exact ⟨j + 1, by omega, rfl, by go_num⟩
          case measure => first | (simp [intOf]; done) | (simp [intOf]; omega)
        · obtain rfl : j = s.size := by omega
          have hcc := hide (crc_ck s)
          go_wp2
          go_ret
          rw [hcc.out]
          exact ⟨rfl, below_iter w s pos⟩

end Go.Proofs.YtphbinkkgmlnmaaGreatDoor
namespace Go.Proofs.YtphbinkkgmlnmaaGreatDoor
open Go.RowKit
open Plain

theorem isb_later {B b : Nat} {bs : List Value} {w w' : World} (h : Lib.IsBuilder 114 5 B b bs w) (hb : Below w.heap.size w w') : Lib.IsBuilder 114 5 B b bs w' := by
  rcases h with h | h
  · exact .inl (bld_later h hb)
  · exact .inr (bld_later h hb)
theorem strCells_append (s t : ByteArray) : Lib.strCells (s ++ t) = Lib.strCells s ++ Lib.strCells t := by
  unfold Lib.strCells
  rw [ByteArray.data_append, Array.toList_append, List.map_append]

set_option maxRecDepth 100000 in
set_option maxHeartbeats 2000000 in
theorem implSumOf_any (w : World) (ht : STab w) (a : Option Addr) (n cap : Nat) (xs : List RecV) (hr : recSh.Row w a n xs) (hn : n ≤ 1048576) :
    Calls Tryz.prog 61 #[.slice a n cap] w fun e w' => e = .returned (.int .i64 (crcN (cat xs) : Nat)) ∧ Below w.heap.size w w' := by
  have HR := hide hr
  have hlen := hr.len
  have HT := hide ht
  have HF := hide (Lib.fresh_isBuilder 114 5 w)
  clear hr ht
  go_enter Tryz.func61, Tryz.ntmps61
  go_wp2
  go_loopw [8] (fun x wr => ∃ k : Nat, k ≤ n ∧ x = .int .i64 k ∧ Hid (Lib.IsBuilder 114 5 w.heap.size w.heap.size (Lib.strCells (cat (xs.take k))) wr) ∧ Hid (Below w.heap.size w wr)) (fun x _ => n - (intOf x).toNat)
  case atStart => exact ⟨0, by omega, rfl, HF, hide (al1 w _)⟩
  case round =>
    clear HF
    obtain ⟨k, hk, rfl, HI, HB⟩ := hrel
    have hcs := cat_size xs k (by omega)
    by_cases hlt : k < n
    · have hkx : k < xs.length := by omega
      obtain ⟨b, off, rfl, hbw, c0, c1, c2, c3, c4, c5⟩ := rec_cells (HR.out.later HB.out) k hkx
      have HSH := hide (implShow_any (xs[k]))
      have h60 := show_size' (xs[k])
      have HC : Hid (cat (xs.take (k + 1)) = cat (xs.take k) ++ showS (xs[k])) := hide (cat_succ xs k hkx)
      generalize showS (xs[k]) = S at *
      generalize cat (xs.take k) = A at *
      have hk2 : (k : Int) < (n : Int) := by omega
      go_wp2_with fail
      refine (HSH.out _).mono ?_
      rintro e w1 ⟨rfl, hb1⟩
      have hb2 : Below wr.heap.size wr w1 := (al1 wr _).trans (hb1.mono (al1 wr _).size)
      have HB1 := hide (HB.out.trans (hb2.mono HB.out.size))
      have HI1 := hide (isb_later HI.out hb2)
      have HW := hide (bldWrite_any w.heap.size w.heap.size (Lib.strCells A) S w1 HI1.out (by rw [Lib.strCells_length]; omega) HB1.out.size)
      clear hb1 hb2 HB HSH HI HI1 c0 c1 c2 c3 c4 c5
      go_wp2_with fail
      refine HW.out.mono ?_
      rintro e w2 ⟨rfl, hI2, hb2⟩
      have HB2 := hide (HB1.out.trans hb2)
      have HI2 : Hid (Lib.IsBuilder 114 5 w.heap.size w.heap.size (Lib.strCells (cat (xs.take (k + 1)))) w2) := hide (by rw [HC.out, strCells_append]; exact .inr hI2)
      clear hb2 hI2 HW HB1
      go_wp2
      go_roundw
      case rel => exact ⟨k + 1, by omega, by go_num, HI2, HB2⟩
      case measure => first | (simp [intOf]; done) | (simp [intOf]; omega)
    · obtain rfl : k = n := by omega
      have HE : Hid (cat (xs.take k) = cat xs) := hide (by rw [List.take_of_length_le (by omega)])
      have hz : (cat xs).size ≤ 1099511627776 := by rw [← HE.out]; omega
      have HS := hide (bldString_any w.heap.size w.heap.size (cat xs) wr (by rw [← HE.out]; exact HI.out) HB.out.size)
      clear hlt hcs
      go_wp2_with fail
      refine HS.out.mono ?_
      rintro e w1 ⟨rfl, hb1⟩
      have HB1 := hide (HB.out.trans hb1)
      have HC := hide (implCrc_any (cat xs) w1 hz (HT.out.later HB1.out))
      clear hb1 HB HS HI
      go_wp2_with fail
      refine HC.out.mono ?_
      rintro e w2 ⟨rfl, hb2⟩
      have HB2 := hide (HB1.out.trans (hb2.mono HB1.out.size))
      clear hb2 HC HB1
      go_wp2
      go_ret
      exact ⟨rfl, HB2.out⟩

end Go.Proofs.YtphbinkkgmlnmaaGreatDoor
namespace Go.Proofs.YtphbinkkgmlnmaaGreatDoor
open Go.RowKit
open Plain

set_option maxRecDepth 100000 in
set_option maxHeartbeats 1000000 in
theorem implRecs_any (w : World) (a : Option Addr) (n cap : Nat) (xs : List PlaceV) (hr : plSh.Row w a n xs) (hn : n ≤ 1048576) :
    Calls Tryz.prog 62 #[.slice a n cap] w fun e w' => (∃ a' n' cap', e = .returned (.slice a' n' cap') ∧ recSh.Own 35 w' w.heap.size (.slice a' n' cap') (xs.map PlaceV.r)) ∧ Below w.heap.size w w' := by
  have hlen := hr.len
  have HR := hide hr
  clear hr
  go_enter Tryz.func62, Tryz.ntmps62
  go_wp2
  go_loopw [3, 8] (fun v i wr => ∃ (k : Nat) (a' : Option Addr) (n' c' : Nat), k ≤ n ∧ v = .slice a' n' c' ∧ i = .int .i64 k ∧ Hid (recSh.Own 35 wr w.heap.size (.slice a' n' c') ((xs.take k).map PlaceV.r)) ∧ Hid (Below w.heap.size w wr)) (fun _ i _ => n - (intOf i).toNat)
  case atStart => exact ⟨0, none, 0, 0, by omega, rfl, rfl, hide (Shape.Own.nil recSh 35 w _), hide (Below.refl _ _)⟩
  case round =>
    obtain ⟨k, a', n', c', hk, rfl, rfl, HO, HB⟩ := hrel
    by_cases hlt : k < n
    · have hkf : k < xs.length := by omega
      obtain ⟨b, off, rfl, hbw, e0, e1, e2, e3, e4, e5, e6, e7, e8⟩ := pl_cells (HR.out.later HB.out) k hkf
      have HE : Hid ((xs.take (k + 1)).map PlaceV.r = (xs.take k).map PlaceV.r ++ [(xs[k]).r]) := hide (by rw [take_snoc xs k hkf, List.map_append]; rfl)
      have hl : ((xs.take k).map PlaceV.r).length ≤ 1048576 := by rw [List.length_map, List.length_take]; omega
      obtain ⟨z, hz⟩ : ∃ z, xs[k] = z := ⟨_, rfl⟩
      rw [hz] at e0 e1 e2 e3 e4 e5 e6 e7 e8 HE
      clear hz
      have HBA := hide (HB.out.alloc HB.out.size (.cells #[.int .i64 z.seg, .int .i64 z.pos, .int .i64 z.len, .int .i64 z.r.kind, .int .i64 z.r.batch, .string z.r.key, .string z.r.val, .int .i64 z.r.cnt, .int .i64 z.r.sum] 37))
      have HOA := hide (HO.out.later (al1 wr (.cells #[.int .i64 z.seg, .int .i64 z.pos, .int .i64 z.len, .int .i64 z.r.kind, .int .i64 z.r.batch, .string z.r.key, .string z.r.val, .int .i64 z.r.cnt, .int .i64 z.r.sum] 37)) (Nat.le_refl _))
      go_wp2_with (at_builtin; refine wpList_app_rec rfl _ _ rfl z.r HOA.out HBA.out.size (by omega) rfl rfl (World.size_alloc _ _) ?_; intro a3 n3 cap3 w3 hn3 ho3 hb3; clear hn3)
      have HO3 := hide ho3
      have HB3 := hide (HBA.out.trans hb3)
      clear ho3 hb3 HO HB HOA HBA
      go_roundw
      case rel => exact ⟨k + 1, a3, n3, cap3, by omega, rfl, by go_num, by rw [HE.out]; exact HO3, HB3⟩
      case measure => first | (simp [intOf]; done) | (simp [intOf]; omega)
    · obtain rfl : k = n := by omega
      have HT : Hid (xs.take k = xs) := hide (List.take_of_length_le (by omega))
      go_wp2
      go_ret
      exact ⟨⟨a', n', c', rfl, by have h := HO.out; rw [HT.out] at h; exact h⟩, HB.out⟩

set_option maxRecDepth 100000 in
set_option maxHeartbeats 2000000 in
theorem implFits_any (w : World) (ht : STab w) (a : Option Addr) (n cap : Nat) (xs : List PlaceV) (hr : plSh.Row w a n xs) (hn : n ≤ 1048576) (r : RecV) :
    Calls Tryz.prog 45 #[.agg #[.int .i64 r.kind, .int .i64 r.batch, .string r.key, .string r.val, .int .i64 r.cnt, .int .i64 r.sum], .slice a n cap] w fun e w' => e = .returned (.bool (fitsP r xs)) ∧ Below w.heap.size w w' := by
  have hlen := hr.len
  have HB0 := hide (al1 w (.cells #[.int .i64 r.kind, .int .i64 r.batch, .string r.key, .string r.val, .int .i64 r.cnt, .int .i64 r.sum] 35))
  by_cases h1 : r.cnt = (n : Int)
  · have t1 := ieq _ _ h1
    have HK : Hid (∀ W, Below (w.alloc (.cells #[.int .i64 r.kind, .int .i64 r.batch, .string r.key, .string r.val, .int .i64 r.cnt, .int .i64 r.sum] 35)).heap.size (w.alloc (.cells #[.int .i64 r.kind, .int .i64 r.batch, .string r.key, .string r.val, .int .i64 r.cnt, .int .i64 r.sum] 35)) W → W.cell? ⟨w.heap.size, 4, none⟩ = some (.int .i64 r.cnt) ∧ W.cell? ⟨w.heap.size, 5, none⟩ = some (.int .i64 r.sum) ∧ Hid (Below (w.alloc (.cells #[.int .i64 r.kind, .int .i64 r.batch, .string r.key, .string r.val, .int .i64 r.cnt, .int .i64 r.sum] 35)).heap.size (w.alloc (.cells #[.int .i64 r.kind, .int .i64 r.batch, .string r.key, .string r.val, .int .i64 r.cnt, .int .i64 r.sum] 35)) W)) := hide (fun W h => by
      have h0 := (h.block w.heap.size (by simp)).trans (heap_alloc_new w _)
      refine ⟨?_, ?_, hide h⟩ <;> rw [cell_of_row _ _ _ _ _ _ h0] <;> rfl)
    have HRS : Hid (∀ W, Below (w.alloc (.cells #[.int .i64 r.kind, .int .i64 r.batch, .string r.key, .string r.val, .int .i64 r.cnt, .int .i64 r.sum] 35)).heap.size (w.alloc (.cells #[.int .i64 r.kind, .int .i64 r.batch, .string r.key, .string r.val, .int .i64 r.cnt, .int .i64 r.sum] 35)) W → _) := hide (fun W (hW : Below (w.alloc (.cells #[.int .i64 r.kind, .int .i64 r.batch, .string r.key, .string r.val, .int .i64 r.cnt, .int .i64 r.sum] 35)).heap.size (w.alloc (.cells #[.int .i64 r.kind, .int .i64 r.batch, .string r.key, .string r.val, .int .i64 r.cnt, .int .i64 r.sum] 35)) W) => implRecs_any W a n cap xs ((hr.later HB0.out).later hW) hn)
    have hml : (xs.map PlaceV.r).length = n := by rw [List.length_map]; exact hlen
    have HSM := hide (fun W (hT : STab W) a' c' (h : recSh.Row W a' n (xs.map PlaceV.r)) => implSumOf_any W hT a' n c' (xs.map PlaceV.r) h hn)
    have HT0 := hide (ht.later HB0.out)
    have HV : Hid (fitsP r xs = (r.sum == ((crcN (cat (xs.map PlaceV.r)) : Nat) : Int))) := hide (by
      unfold fitsP
      rw [hlen]
      by_cases h2 : r.sum = ((crcN (cat (xs.map PlaceV.r)) : Nat) : Int)
      · rw [ieq _ _ h2]; exact decide_eq_true ⟨h1, h2⟩
      · rw [ine _ _ h2]; exact decide_eq_false (fun q => h2 q.2))
    obtain ⟨W, hW⟩ : ∃ W, W = w.alloc (.cells #[.int .i64 r.kind, .int .i64 r.batch, .string r.key, .string r.val, .int .i64 r.cnt, .int .i64 r.sum] 35) := ⟨_, rfl⟩
    rw [← hW] at HK HRS HB0 HT0
    clear h1 hr
    generalize crcN (cat (xs.map PlaceV.r)) = c at *
    rw [HV.out]
    go_enter Tryz.func45, Tryz.ntmps45
    go_wp2_with fail
    rw [← hW]
    clear hW
    have S1 := HK.out W.drew (Below.refl _ _).drew
    first
      | (go_region_held3 (fun W' => W'.cell? ⟨w.heap.size, 4, none⟩ = some (.int .i64 r.cnt) ∧ W'.cell? ⟨w.heap.size, 5, none⟩ = some (.int .i64 r.sum) ∧ Hid (Below W.heap.size W W')) (assumption) (first
          | (go_at_call 62; refine (HRS.out W.drew S1.2.2.out).mono ?_; rintro e w2 ⟨⟨a1, n1, c1, rfl, ho1⟩, hb2⟩; have hn1 := ho1.len; rw [hml] at hn1; subst hn1; have hk2 := hide (S1.2.2.out.trans (hb2.mono S1.2.2.out.size)); have hS2 := HK.out w2 hk2.out; have HR2 := hide ho1.row; clear ho1 hb2)
          | (go_at_call 61; refine (HSM.out w2 (HT0.out.later hk2.out) _ _ HR2.out).mono ?_; rintro e w3 ⟨rfl, hb3⟩; have hk3 := hide (hk2.out.trans (hb3.mono hk2.out.size)); have hS3 := HK.out w3 hk3.out; clear hb3)))
      | fail
    have HB3 := hide (HB0.out.trans (hk3.out.mono HB0.out.size))
    clear hS3 hk3 hS2 hk2 HR2 S1
    go_wp2
    go_ret
    exact ⟨rfl, HB3.out⟩
  · have t1 := ine _ _ h1
    have HV : Hid (fitsP r xs = false) := hide (decide_eq_false (fun h => h1 (by rw [h.1, hlen])))
    clear h1 hr
    go_enter Tryz.func45, Tryz.ntmps45
    go_wp2
    go_region
    go_wp2
    go_ret
    exact ⟨by rw [HV.out]; rfl, HB0.out.drew⟩

end Go.Proofs.YtphbinkkgmlnmaaGreatDoor
namespace Go.Proofs.YtphbinkkgmlnmaaGreatDoor
open Go.RowKit Go.Maps
open Plain

/-- How a row in the map reads: where it lies. -/
def slD : Value → DataW Unit
  | .slice (some ⟨g, _, _⟩) n c => .agg [.lit (.int .i64 (g : Int)), .lit (.int .i64 (n : Int)), .lit (.int .i64 (c : Int))]
  | _ => .nil
def rowElem : Value → Option (DataW Unit × List MemPlace)
  | .slice none n c => if n = 0 ∧ c = 0 then some (.nil, []) else none
  | .slice (some ⟨g, off, none⟩) n c => if off = 0 then some (.agg [.lit (.int .i64 (g : Int)), .lit (.int .i64 (n : Int)), .lit (.int .i64 (c : Int))], []) else none
  | _ => none
def IsRow (v : Value) : Prop := v = .slice none 0 0 ∨ ∃ g n c, v = .slice (some ⟨g, 0, none⟩) n c
theorem IsRow.elem {v : Value} (h : IsRow v) : rowElem v = some (slD v, []) := by
  rcases h with rfl | ⟨g, n, c, rfl⟩
  · rfl
  · rfl
theorem rowElem_row {v : Value} {z : DataW Unit × List MemPlace} (h : rowElem v = some z) : IsRow v ∧ z = (slD v, []) := by
  unfold rowElem at h
  split at h
  · split at h
    · rename_i hh
      obtain ⟨rfl, rfl⟩ := hh
      cases h
      exact ⟨.inl rfl, rfl⟩
    · cases h
  · split at h
    · rename_i hh
      subst hh
      cases h
      exact ⟨.inr ⟨_, _, _, rfl⟩, rfl⟩
    · cases h
  · cases h
theorem slD_inj {u v : Value} (hu : IsRow u) (hv : IsRow v) (h : slD u = slD v) : u = v := by
  rcases hu with rfl | ⟨g, n, c, rfl⟩ <;> rcases hv with rfl | ⟨g', n', c', rfl⟩
  · rfl
  · simp [slD] at h
  · simp [slD] at h
  · simp [slD] at h
    obtain ⟨h1, h2, h3⟩ := h
    obtain rfl : g = g' := by omega
    obtain rfl : n = n' := by omega
    obtain rfl : c = c' := by omega
    rfl
theorem own_isRow {w : World} {base : Nat} {v : Value} {xs : List PlaceV} (h : plSh.Own 37 w base v xs) : IsRow v := by
  rcases h.2 with ⟨e, _⟩ | ⟨g, c, cur, e, _⟩
  · exact .inl e
  · exact .inr ⟨_, _, _, e⟩
theorem own_heap {w : World} {base g : Nat} {v : Value} {xs : List PlaceV} (h : plSh.Own 37 w base v xs) (hg : v.ownBlock = some g) : ∃ cur, w.heap[g]? = some (.cells cur 37 (0, 0)) := by
  rcases h.2 with ⟨e, _⟩ | ⟨g', c, cur, e, _, hg', _⟩
  · rw [e] at hg; cases hg
  · rw [e] at hg
    cases hg
    exact ⟨cur, hg'⟩
theorem keyLawW : Keyed Tryz.prog 3 := int_keyed Tryz.underlying3

/-- Block B is the box of what waits; M its map; kv the row of what is kept; f the rows by batch. -/
structure WS (w : World) (base B M : Nat) (kv : Value) (f : Int → Value) (n : Nat) (D : DataW Unit) (pre : List PlaceV) : Prop where
  box : w.heap[B]? = some (.cells #[.map (some M), kv] 62 (0, 0))
  hB : base ≤ B
  hM : base ≤ M
  map : w.ownsMap Tryz.prog 3 rowElem M n D
  num : n ≤ pre.length
  at_ : ∀ b : Int, D.atKey (.int .i64 b) .nil = slD (f b)
  own : ∀ b, plSh.Own 37 w base (f b) (ofB pre b)
  kown : plSh.Own 37 w base kv (keptP pre)
  apart : ∀ b c, ¬ b = c → (f b).ownBlock = none ∨ (f b).ownBlock ≠ (f c).ownBlock
  kapart : ∀ b, (f b).ownBlock = none ∨ (f b).ownBlock ≠ kv.ownBlock
def WSx (w : World) (base B : Nat) (pre : List PlaceV) : Prop := ∃ M kv f n D, WS w base B M kv f n D pre
section
variable {w w' : World} {base B M : Nat} {kv : Value} {f : Int → Value} {n : Nat} {D : DataW Unit} {pre : List PlaceV}
theorem WS.blt (h : WS w base B M kv f n D pre) : B < w.heap.size := (Array.getElem?_eq_some_iff.1 h.box).1
theorem WS.mlt (h : WS w base B M kv f n D pre) : M < w.heap.size := h.map.lt
theorem WS.mheap (h : WS w base B M kv f n D pre) : ∃ es clock, w.heap[M]? = some (.map es clock) := by
  obtain ⟨es, clock, hb, _⟩ := h.map
  exact ⟨es, clock, hb⟩
theorem WS.bm (h : WS w base B M kv f n D pre) : B ≠ M := fun e => by
  obtain ⟨es, clock, hb⟩ := h.mheap
  have := h.box
  rw [e, hb] at this
  cases this
/-- A row of places lies in neither the box nor the map. -/
theorem row_off {v : Value} {xs : List PlaceV} (hb : w.heap[B]? = some (.cells #[.map (some M), kv] 62 (0, 0))) (hm : ∃ es clock, w.heap[M]? = some (.map es clock)) (ho : plSh.Own 37 w base v xs) : v.ownBlock ≠ some B ∧ v.ownBlock ≠ some M := by
  constructor
  · intro e
    obtain ⟨cur, hc⟩ := own_heap ho e
    rw [hb] at hc
    cases hc
  · intro e
    obtain ⟨cur, hc⟩ := own_heap ho e
    obtain ⟨es, clock, hm⟩ := hm
    rw [hm] at hc
    cases hc
theorem own_kept {v : Value} {xs : List PlaceV} {row : Option Nat} (ho : plSh.Own 37 w base v xs) (hg : w.grownBy w' row) (hne : v.ownBlock = none ∨ v.ownBlock ≠ row) : plSh.Own 37 w' base v xs := World.ownsRow.kept ho hg hne
/-- What is neither a row of places nor a box may turn. -/
theorem WS.grown (h : WS w base B M kv f n D pre) {row : Option Nat} (hg : w.grownBy w' row) (hr : ∀ r, row = some r → ∃ cs t fr, w.heap[r]? = some (.cells cs t fr) ∧ t ≠ 37 ∧ t ≠ 62) : WS w' base B M kv f n D pre := by
  have hbn : some B ≠ row := fun e => by
    obtain ⟨cs, t, fr, h1, _, h2⟩ := hr B e.symm
    rw [h.box] at h1
    cases h1
    exact h2 rfl
  have hmn : some M ≠ row := fun e => by
    obtain ⟨cs, t, fr, h1, _⟩ := hr M e.symm
    obtain ⟨es, clock, hm⟩ := h.mheap
    rw [hm] at h1
    cases h1
  have hrn : ∀ {v : Value} {xs : List PlaceV}, plSh.Own 37 w base v xs → v.ownBlock = none ∨ v.ownBlock ≠ row := fun {v xs} ho => by
    cases e : v.ownBlock with
    | none => exact .inl rfl
    | some g =>
      refine .inr (fun q => ?_)
      obtain ⟨cs, t, fr, h1, h2, _⟩ := hr g q.symm
      obtain ⟨cur, hc⟩ := own_heap ho e
      rw [hc] at h1
      cases h1
      exact h2 rfl
  exact ⟨(hg.block B h.blt hbn).trans h.box, h.hB, h.hM, h.map.kept hg hmn, h.num, h.at_, fun b => own_kept (h.own b) hg (hrn (h.own b)), own_kept h.kown hg (hrn h.kown), h.apart, h.kapart⟩
theorem grown_of {r : Option Nat} (hb : Below w.heap.size w w') : w.grownBy w' r := ⟨hb.os, hb.tape, hb.output, hb.size, fun k hk _ => hb.block k hk⟩
theorem WS.later (h : WS w base B M kv f n D pre) (hb : Below w.heap.size w w') : WS w' base B M kv f n D pre := h.grown (row := none) (grown_of hb) (fun r e => by cases e)
theorem WSx.grown (h : WSx w base B pre) {row : Option Nat} (hg : w.grownBy w' row) (hr : ∀ r, row = some r → ∃ cs t fr, w.heap[r]? = some (.cells cs t fr) ∧ t ≠ 37 ∧ t ≠ 62) : WSx w' base B pre := by
  obtain ⟨M, kv, f, n, D, h⟩ := h
  exact ⟨M, kv, f, n, D, h.grown hg hr⟩
theorem WSx.later (h : WSx w base B pre) (hb : Below w.heap.size w w') : WSx w' base B pre := by
  obtain ⟨M, kv, f, n, D, h⟩ := h
  exact ⟨M, kv, f, n, D, h.later hb⟩
theorem WSx.blt (h : WSx w base B pre) : B < w.heap.size := by obtain ⟨M, kv, f, n, D, h⟩ := h; exact h.blt
/-- What is neither a row of places nor a box stands, and what lies from block L on. -/
def KeepT (base L : Nat) (w w' : World) : Prop := Below base w w' ∧ (∀ (k : Nat) (cs : Array Value) (t : TypeId) (fr : Nat × Nat), w.heap[k]? = some (Obj.cells cs t fr) → t ≠ 37 → t ≠ 62 → w'.heap[k]? = some (Obj.cells cs t fr)) ∧ ∀ k, L ≤ k → k < w.heap.size → w'.heap[k]? = w.heap[k]?
theorem KeepT.trans {L : Nat} {a b c : World} (h : KeepT base L a b) (k : KeepT base L b c) : KeepT base L a c := ⟨h.1.trans k.1, fun i cs t fr hi h1 h2 => k.2.1 i cs t fr (h.2.1 i cs t fr hi h1 h2) h1 h2, fun i h1 h2 => (k.2.2 i h1 (Nat.lt_of_lt_of_le h2 h.1.size)).trans (h.2.2 i h1 h2)⟩
theorem KeepT.of_below {L : Nat} (hb : Below w.heap.size w w') (hs : base ≤ w.heap.size) : KeepT base L w w' := ⟨hb.mono hs, fun k _ _ _ hk _ _ => (hb.block k (Array.getElem?_eq_some_iff.1 hk).1).trans hk, fun k _ hk => hb.block k hk⟩
theorem KeepT.of_grown {L : Nat} {row : Option Nat} (hg : w.grownBy w' row) (hs : base ≤ w.heap.size) (hb : ∀ r, row = some r → base ≤ r) (hL : ∀ r, row = some r → r < L) (hr : ∀ r cs t fr, row = some r → w.heap[r]? = some (.cells cs t fr) → t = 37 ∨ t = 62) : KeepT base L w w' := by
  refine ⟨(Below.refl _ _).grown hg hs (fun k hk => hb k hk), fun k cs t fr hk h1 h2 => ?_, fun k h1 h2 => ?_⟩
  · refine (hg.block k (Array.getElem?_eq_some_iff.1 hk).1 (fun e => ?_)).trans hk
    rcases hr k cs t fr e.symm hk with h | h
    · exact h1 h
    · exact h2 h
  · refine hg.block k h2 (fun e => ?_)
    have := hL k e.symm
    omega
theorem grown_setW (w : World) (B j : Nat) (u : Value) : w.grownBy (w.setCell ⟨B, j, none⟩ u) (some B) := ⟨rfl, rfl, rfl, by simp, fun k _ hr => Below.heap_setCell w ⟨B, j, none⟩ u k (fun e => hr (by rw [e]))⟩
theorem box_set {x y u : Value} {T : TypeId} (h : w.heap[B]? = some (.cells #[x, y] T (0, 0))) : (w.setCell ⟨B, 1, none⟩ u).heap[B]? = some (.cells #[x, u] T (0, 0)) := by simp [World.setCell, Array.getElem?_modify, h]

theorem IsRow.nil : IsRow (.slice none 0 0) := .inl rfl
theorem kl_int (x : Int) : WideAt.IsKeyLit (.int .i64 x) := trivial
theorem lit_ne' {x y : Int} (h : ¬ x = y) : (Lit.int .i64 x) ≠ Lit.int .i64 y := fun e => h (by simpa using e)
/-- A put or a drop waits. -/
theorem WS.put {w1 w2 : World} {v' : Value} {p : PlaceV} (h : WS w base B M kv f n D pre) (hk : p.r.kind = 1 ∨ p.r.kind = 2) (hg : w.grownBy w1 (f p.r.batch).ownBlock) (ho : plSh.Own 37 w1 base v' (ofB pre p.r.batch ++ [p])) (hl : v'.ownBlock = (f p.r.batch).ownBlock ∨ ∃ g, v'.ownBlock = some g ∧ w.heap.size ≤ g)
    (hm : w2.ownsMap Tryz.prog 3 rowElem M (n + 1) (D.put (.int .i64 p.r.batch) (slD v'))) (hg2 : w1.grownBy w2 (some M)) : WS w2 base B M kv (fun c => if c = p.r.batch then v' else f c) (n + 1) (D.put (.int .i64 p.r.batch) (slD v')) (pre ++ [p]) := by
  have hoff := row_off h.box h.mheap (h.own p.r.batch)
  have hb1 : w1.heap[B]? = _ := (hg.block B h.blt (fun e => hoff.1 e.symm)).trans h.box
  have hm1 : ∃ es clock, w1.heap[M]? = some (.map es clock) := by
    obtain ⟨es, clock, hh⟩ := h.mheap
    exact ⟨es, clock, (hg.block M h.mlt (fun e => hoff.2 e.symm)).trans hh⟩
  have hb1l : B < w1.heap.size := (Array.getElem?_eq_some_iff.1 hb1).1
  have k2 : ∀ {v : Value} {xs : List PlaceV}, plSh.Own 37 w1 base v xs → plSh.Own 37 w2 base v xs := fun {v xs} hv => own_kept hv hg2 (.inr (row_off hb1 hm1 hv).2)
  have hob : ∀ c, ofB (pre ++ [p]) c = if c = p.r.batch then ofB pre p.r.batch ++ [p] else ofB pre c := fun c => by
    rw [ofB_snoc]
    by_cases e : c = p.r.batch
    · rw [if_pos e, e, ofStep_put _ _ _ rfl hk]
    · rw [if_neg e, ofStep_no _ _ _ (fun q => e q.symm)]
  have hkp : keptP (pre ++ [p]) = keptP pre := by
    rw [keptP_snoc]
    unfold kpStep
    rw [if_neg (by rcases hk with e | e <;> rw [e] <;> decide), if_neg (by rcases hk with e | e <;> rw [e] <;> decide)]
  -- the new row lies apart from any old one that is not the batch's own
  have hnew : ∀ {v : Value} {xs : List PlaceV}, plSh.Own 37 w base v xs → (v.ownBlock = none ∨ v.ownBlock ≠ (f p.r.batch).ownBlock) → v.ownBlock = none ∨ v.ownBlock ≠ v'.ownBlock := fun {v xs} hv hne => by
    rcases hl with e | ⟨g, e, hgl⟩
    · rw [e]; exact hne
    · cases hq : v.ownBlock with
      | none => exact .inl rfl
      | some j =>
        refine .inr (fun q => ?_)
        rw [e] at q
        cases q
        have := (hv.blk _ hq).2
        omega
  refine ⟨(hg2.block B hb1l (fun e => h.bm (by cases e; rfl))).trans hb1, h.hB, h.hM, hm, ?_, fun c => ?_, fun c => ?_, ?_, fun b c hbc => ?_, fun b => ?_⟩
  · rw [List.length_append, List.length_singleton]; have := h.num; omega
  · by_cases e : c = p.r.batch
    · subst e
      simp only [if_true]
      exact atKey_put_same h.map.isMap (kl_int _) _ _
    · simp only [if_neg e]
      rw [atKey_put_other (lit_ne' e)]
      exact h.at_ c
  · rw [hob]
    by_cases e : c = p.r.batch
    · simp only [if_pos e]
      exact k2 ho
    · simp only [if_neg e]
      exact k2 (own_kept (h.own c) hg (h.apart c p.r.batch e))
  · rw [hkp]
    refine k2 (own_kept h.kown hg ?_)
    rcases h.kapart p.r.batch with e | e
    · cases hq : kv.ownBlock with
      | none => exact .inl rfl
      | some j => rw [e]; exact .inr (by simp)
    · exact .inr (fun q => e q.symm)
  · by_cases e1 : b = p.r.batch
    · have e2 : ¬ c = p.r.batch := fun q => hbc (e1.trans q.symm)
      simp only [if_pos e1, if_neg e2]
      rcases hnew (h.own c) (h.apart c p.r.batch e2) with q | q
      · cases hv : v'.ownBlock with
        | none => exact .inl rfl
        | some j => rw [q]; exact .inr (by simp)
      · exact .inr (fun q2 => q q2.symm)
    · by_cases e2 : c = p.r.batch
      · simp only [if_neg e1, if_pos e2]
        exact hnew (h.own b) (h.apart b p.r.batch e1)
      · simp only [if_neg e1, if_neg e2]
        exact h.apart b c hbc
  · by_cases e1 : b = p.r.batch
    · simp only [if_pos e1]
      have hkk : kv.ownBlock = none ∨ kv.ownBlock ≠ (f p.r.batch).ownBlock := by
        rcases h.kapart p.r.batch with e | e
        · cases hq : kv.ownBlock with
          | none => exact .inl rfl
          | some j => rw [e]; exact .inr (by simp)
        · exact .inr (fun q => e q.symm)
      rcases hnew h.kown hkk with q | q
      · cases hv : v'.ownBlock with
        | none => exact .inl rfl
        | some j => rw [q]; exact .inr (by simp)
      · exact .inr (fun q2 => q q2.symm)
    · simp only [if_neg e1]
      exact h.kapart b
/-- A keep waits. -/
theorem WS.keep {w1 : World} {v' : Value} {p : PlaceV} (h : WS w base B M kv f n D pre) (hk : p.r.kind = 4) (hg : w.grownBy w1 kv.ownBlock) (ho : plSh.Own 37 w1 base v' (keptP pre ++ [p])) (hl : v'.ownBlock = kv.ownBlock ∨ ∃ g, v'.ownBlock = some g ∧ w.heap.size ≤ g) : WS (w1.setCell ⟨B, 1, none⟩ v') base B M v' f n D (pre ++ [p]) := by
  have hoff := row_off h.box h.mheap h.kown
  have hb1 : w1.heap[B]? = _ := (hg.block B h.blt (fun e => hoff.1 e.symm)).trans h.box
  have hm1 : w1.ownsMap Tryz.prog 3 rowElem M n D := h.map.kept hg (fun e => hoff.2 e.symm)
  have hmh : ∃ es clock, w1.heap[M]? = some (.map es clock) := by obtain ⟨es, clock, hh, _⟩ := hm1; exact ⟨es, clock, hh⟩
  have hg2 := grown_setW w1 B 1 v'
  have k2 : ∀ {v : Value} {xs : List PlaceV}, plSh.Own 37 w1 base v xs → plSh.Own 37 (w1.setCell ⟨B, 1, none⟩ v') base v xs := fun {v xs} hv => own_kept hv hg2 (.inr (row_off hb1 hmh hv).1)
  have hob : ∀ c, ofB (pre ++ [p]) c = ofB pre c := fun c => by rw [ofB_snoc, ofStep_other _ _ _ (by rw [hk]; decide) (by rw [hk]; decide) (by rw [hk]; decide)]
  have hkp : keptP (pre ++ [p]) = keptP pre ++ [p] := by
    rw [keptP_snoc]
    unfold kpStep
    rw [if_neg (by rw [hk]; decide), if_pos hk]
  refine ⟨box_set hb1, h.hB, h.hM, hm1.kept hg2 (fun e => h.bm (by cases e; rfl)), ?_, h.at_, fun c => ?_, ?_, h.apart, fun b => ?_⟩
  · rw [List.length_append]; have := h.num; omega
  · rw [hob]; exact k2 (own_kept (h.own c) hg (h.kapart c))
  · rw [hkp]; exact k2 ho
  · rcases hl with e | ⟨g, e, hgl⟩
    · rw [e]; exact h.kapart b
    · cases hq : (f b).ownBlock with
      | none => exact .inl rfl
      | some j =>
        refine .inr (fun q => ?_)
        rw [e] at q
        cases q
        have := ((h.own b).blk _ hq).2
        omega
/-- A seal: what waits for it waits no longer. -/
theorem WS.seal {w2 : World} {p : PlaceV} (h : WS w base B M kv f n D pre) (hk : p.r.kind = 3) (hm : w2.ownsMap Tryz.prog 3 rowElem M n (D.del (.int .i64 p.r.batch))) (hg2 : w.grownBy w2 (some M)) :
    WS w2 base B M kv (fun c => if c = p.r.batch then .slice none 0 0 else f c) n (D.del (.int .i64 p.r.batch)) (pre ++ [p]) ∧ plSh.Own 37 w2 base (f p.r.batch) (ofB pre p.r.batch) := by
  have k2 : ∀ {v : Value} {xs : List PlaceV}, plSh.Own 37 w base v xs → plSh.Own 37 w2 base v xs := fun {v xs} hv => own_kept hv hg2 (.inr (row_off h.box h.mheap hv).2)
  have hob : ∀ c, ofB (pre ++ [p]) c = if c = p.r.batch then [] else ofB pre c := fun c => by
    rw [ofB_snoc]
    by_cases e : c = p.r.batch
    · rw [if_pos e, ofStep_seal _ _ _ e.symm hk]
    · rw [if_neg e, ofStep_no _ _ _ (fun q => e q.symm)]
  have hkp : keptP (pre ++ [p]) = keptP pre := by
    rw [keptP_snoc]
    unfold kpStep
    rw [if_neg (by rw [hk]; decide), if_neg (by rw [hk]; decide)]
  refine ⟨⟨(hg2.block B h.blt (fun e => h.bm (by cases e; rfl))).trans h.box, h.hB, h.hM, hm, ?_, fun c => ?_, fun c => ?_, ?_, fun b c hbc => ?_, fun b => ?_⟩, k2 (h.own _)⟩
  · rw [List.length_append]; have := h.num; omega
  · by_cases e : c = p.r.batch
    · subst e
      simp only [if_true]
      exact atKey_del_same _
    · simp only [if_neg e]
      rw [atKey_del_other (lit_ne' e)]
      exact h.at_ c
  · rw [hob]
    by_cases e : c = p.r.batch
    · simp only [if_pos e]
      exact Shape.Own.nil plSh 37 w2 base
    · simp only [if_neg e]
      exact k2 (h.own c)
  · rw [hkp]; exact k2 h.kown
  · by_cases e1 : b = p.r.batch
    · simp only [if_pos e1]; exact .inl rfl
    · by_cases e2 : c = p.r.batch
      · simp only [if_neg e1, if_pos e2]
        cases hq : (f b).ownBlock with
        | none => exact .inl rfl
        | some j => exact .inr (by simp [Value.ownBlock])
      · simp only [if_neg e1, if_neg e2]; exact h.apart b c hbc
  · by_cases e1 : b = p.r.batch
    · simp only [if_pos e1]; exact .inl rfl
    · simp only [if_neg e1]; exact h.kapart b
/-- A mark: what is kept waits no longer. -/
theorem WS.mark {p : PlaceV} (h : WS w base B M kv f n D pre) (hk : p.r.kind = 5) : WS (w.setCell ⟨B, 1, none⟩ (.slice none 0 0)) base B M (.slice none 0 0) f n D (pre ++ [p]) ∧ plSh.Own 37 (w.setCell ⟨B, 1, none⟩ (.slice none 0 0)) base kv (keptP pre) := by
  have hg2 := grown_setW w B 1 (.slice none 0 0)
  have k2 : ∀ {v : Value} {xs : List PlaceV}, plSh.Own 37 w base v xs → plSh.Own 37 (w.setCell ⟨B, 1, none⟩ (.slice none 0 0)) base v xs := fun {v xs} hv => own_kept hv hg2 (.inr (row_off h.box h.mheap hv).1)
  have hob : ∀ c, ofB (pre ++ [p]) c = ofB pre c := fun c => by rw [ofB_snoc, ofStep_other _ _ _ (by rw [hk]; decide) (by rw [hk]; decide) (by rw [hk]; decide)]
  have hkp : keptP (pre ++ [p]) = [] := by
    rw [keptP_snoc]
    unfold kpStep
    rw [if_pos hk]
  refine ⟨⟨box_set h.box, h.hB, h.hM, h.map.kept hg2 (fun e => h.bm (by cases e; rfl)), ?_, h.at_, fun c => ?_, ?_, h.apart, fun b => ?_⟩, k2 h.kown⟩
  · rw [List.length_append]; have := h.num; omega
  · rw [hob]; exact k2 (h.own c)
  · rw [hkp]; exact Shape.Own.nil plSh 37 _ base
  · cases hq : (f b).ownBlock with
    | none => exact .inl rfl
    | some j => exact .inr (by simp [Value.ownBlock])
/-- Any other record. -/
theorem WS.other {p : PlaceV} (h : WS w base B M kv f n D pre) (h1 : ¬ p.r.kind = 1) (h2 : ¬ p.r.kind = 2) (h3 : ¬ p.r.kind = 3) (h4 : ¬ p.r.kind = 4) (h5 : ¬ p.r.kind = 5) : WS w base B M kv f n D (pre ++ [p]) := by
  refine ⟨h.box, h.hB, h.hM, h.map, ?_, h.at_, fun c => ?_, ?_, h.apart, h.kapart⟩
  · rw [List.length_append]; have := h.num; omega
  · rw [ofB_snoc, ofStep_other _ _ _ h3 h1 h2]; exact h.own c
  · rw [keptP_snoc]
    unfold kpStep
    rw [if_neg h5, if_neg h4]
    exact h.kown
/-- 'w.batches[b]': the row, where there is none the nil one. -/
theorem lookup_row (h : WS w base B M kv f n D pre) (b : Int) (hb : (Lit.int .i64 b).wf = true) : (Instr.lookup 60 (.map (some M)) (.int .i64 b) false).run Tryz.prog w = .ok (f b) w := by
  have hz : (zeroValue 27).run Tryz.prog w = .ok (.slice none 0 0) w := Tryz.zeroValue27 w
  obtain ⟨v, ps, hrun, hR⟩ := h.map.lookup keyLawW Tryz.underlying60 hz (zd := .nil) (zp := []) rfl (keyOf_int_mk Tryz.underlying3 hb : keyOf Tryz.prog 3 (.int .i64 b) = some (.int .i64 b))
  obtain ⟨hv, he⟩ := rowElem_row hR
  have e1 : slD (f b) = slD v := by
    rw [← h.at_ b]
    exact congrArg Prod.fst he
  obtain rfl : f b = v := slD_inj (own_isRow (h.own b)) hv e1
  exact hrun
end

end Go.Proofs.YtphbinkkgmlnmaaGreatDoor
