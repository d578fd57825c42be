/-
  spec.l9Places: places, drawn.
-/
import Derived.Test.YtphbinkkgmlnmaaGreatDoorG13
import Derived.Deep.DeepCutAuto
import Derived.Deep.CutBlock
namespace Go.Proofs.YtphbinkkgmlnmaaGreatDoor
open Go.RowKit
open Plain

theorem own_apart {α β : Type} {S : Shape α} {R : Shape β} {T U : TypeId} {w w' : World} {base base' : Nat} {v u : Value} {xs : List α} {ys : List β} (h : S.Own T w base v xs) (k : R.Own U w base' u ys) (hT : T ≠ U) (hg : w.grownBy w' u.ownBlock) : S.Own T w' base v xs := by
  unfold Shape.Own at h ⊢
  refine World.ownsRow.kept h hg ?_
  rcases h.2 with ⟨e1, _⟩ | ⟨g, c, cur, e1, _, hg1, _⟩
  · left; rw [e1]; rfl
  · rcases k.2 with ⟨e2, _⟩ | ⟨g2, c2, cur2, e2, _, hg2, _⟩
    · right; rw [e1, e2]; intro e; cases e
    · right
      rw [e1, e2]
      intro e
      simp only [Value.ownBlock, Option.some.injEq] at e
      rw [← e, hg1] at hg2
      injection hg2 with hg2
      injection hg2 with _ h2 _
      exact hT h2
theorem box_set9 {w : World} {B i : Nat} {cs : Array Value} {T : TypeId} {v : Value} (h : w.heap[B]? = some (.cells cs T (0, 0))) : (w.setCell ⟨B, i, none⟩ v).heap[B]? = some (.cells (cs.set! i v) T (0, 0)) := by
  rw [setCell_eq_setRow w B i _ _ _ _ h]
  exact setRow_heap w B _ _ _ _ h

theorem setCell_size9 (w : World) (p : Addr) (v : Value) : (w.setCell p v).heap.size = w.heap.size := by simp [World.setCell]
theorem grown_cell9 {w w' : World} {r : Option Nat} (h : w.grownBy w' r) (p : Addr) (v : Value) (hp : w.heap.size ≤ p.block) : w.grownBy (w'.setCell p v) r :=
  ⟨h.os, h.tape, h.output, by rw [setCell_size9]; exact h.size, fun j hj hr => by rw [Below.heap_setCell _ _ _ _ (by omega)]; exact h.block j hj hr⟩
theorem rec_ne {w : World} {base : Nat} {v : Value} {T : TypeId} {xs : List RecV} {g : Nat} (h : recSh.Own T w base v xs) (hg : w.heap.size ≤ g) : v.ownBlock ≠ some g := fun e => by
  have := (h.blk g e).2
  omega
theorem own_setNe {α : Type} {S : Shape α} {T : TypeId} {w : World} {base : Nat} {v : Value} {xs : List α} (h : S.Own T w base v xs) (p : Addr) (u : Value) (hp : v.ownBlock ≠ some p.block) : S.Own T (w.setCell p u) base v xs := by
  unfold Shape.Own at h ⊢
  refine World.ownsRow.kept h (row := some p.block) ⟨rfl, rfl, rfl, by rw [setCell_size9]; exact Nat.le_refl _, fun j _ hr => Below.heap_setCell _ _ _ _ (fun e => hr (by rw [e]))⟩ ?_
  exact .inr hp

set_option maxRecDepth 100000 in
set_option maxHeartbeats 8000000 in
theorem places9_any (w : World) (B : Nat) (a : Option Addr) (len cap : Nat) (zs : List Int) (hc : CurX w B a len cap zs) :
    Calls Tryz.prog 24 #[.pointer (some ⟨B, 0, none⟩)] w fun e w' => (∃ (b : Option Addr) (m capb : Nat) (fs : List PlaceV), e = .returned (.slice b m capb) ∧ m ≤ 100 ∧ Small (fs.map PlaceV.r) ∧ plSh.Own 37 w' w.heap.size (.slice b m capb) fs) ∧ CurX w' B a len cap zs ∧ w.grownBy w' (some B) := by
  have hB := hc.lt
  obtain ⟨W, hW⟩ : ∃ W, W = w.alloc (.cells #[] 37) := ⟨_, rfl⟩
  have HC0 : Hid (CurX W B a len cap zs) := hide (by rw [hW]; exact hc.below (al1 w (.cells #[] 37)) hB)
  have HG0 : Hid (w.grownBy W (some B)) := hide (by rw [hW]; exact World.grownBy_alloc w (.cells #[] 37) (some B))
  have HO0 : Hid (plSh.Own 37 W w.heap.size (.slice (some ⟨w.heap.size, 0, none⟩) 0 0) []) := hide (by rw [hW]; exact Shape.Own.empty plSh 37 w)
  clear hc
  go_enter Tryz.func24, Tryz.ntmps24
  go_wp2_with fail
  rw [← hW]
  clear hW
  refine (onceX_any 3 (by omega) _ B a len cap zs HC0.out).mono ?_
  rintro e w1 ⟨⟨b1, rfl⟩, hc1, hg1⟩
  have HC1 := hide hc1
  have HG1 := hide (grown_trans HG0.out hg1)
  have HO1 := hide (HO0.out.grownB hg1 hB)
  clear hc1 hg1 HC0 HG0 HO0
  go_upto_if 17 with fail
  go_cut [3, 4, 5] (fun s3 s4 s5 wx => ∃ (b : Option Addr) (m capb : Nat) (fs : List PlaceV) (sg bt : Nat), s3 = .slice b m capb ∧ s4 = .int .i64 sg ∧ s5 = .int .i64 bt ∧ m ≤ 3 ∧ sg ≤ 2 ∧ bt ≤ 2 ∧ Hid (Small (fs.map PlaceV.r)) ∧ Hid (plSh.Own 37 wx w.heap.size (.slice b m capb) fs) ∧ Hid (CurX wx B a len cap zs) ∧ Hid (w.grownBy wx (some B)))
  case first =>
    cases b1 with
    | false =>
      go_wp2
      go_meet
      exact ⟨_, 0, 0, [], 1, 0, rfl, rfl, rfl, by omega, by omega, by omega, hide (fun r hr => by cases hr), HO1, HC1, HG1⟩
    | true =>
      have hB1 : B < w1.heap.size := HC1.out.lt
      have HCa := hide (HC1.out.below (al1 w1 (.cells #[] 35)) hB1)
      have HGa : Hid (w1.grownBy (w1.alloc (.cells #[] 35)) (some B)) := hide (World.grownBy_alloc w1 (.cells #[] 35) (some B))
      have HKa := hide (Shape.Own.empty recSh 35 w1)
      clear HC1
      go_wp2_with fail
      refine (belowX_any 3 (by omega) _ B a len cap zs HCa.out).mono ?_
      rintro e w2 ⟨⟨x2, hx2, rfl⟩, hc2, hg2⟩
      have HC2 := hide hc2
      have HG2 := hide (grown_trans HGa.out hg2)
      have HK2 := hide (HKa.out.grownB hg2 hB1)
      clear hc2 hg2 HCa HGa HKa
      go_wp2
      go_loopw [5, 6, 7] (fun bv kv nv wr => ∃ (j km kc bt : Nat) (kb : Option Addr) (rs : List RecV), j + bt ≤ 2 ∧ j + km ≤ 2 ∧ nv = .int .i64 j ∧ kv = .slice kb km kc ∧ bv = .int .i64 bt ∧ Hid (Small rs) ∧ Hid (recSh.Own 35 wr w1.heap.size (.slice kb km kc) rs) ∧ Hid (CurX wr B a len cap zs) ∧ Hid (w1.grownBy wr (some B))) (fun _ _ n _ => (intOf n).toNat)
      case atStart => exact ⟨x2, 0, 0, 0, _, [], by omega, by omega, rfl, rfl, rfl, hide (fun r hr => by cases hr), HK2, HC2, HG2⟩
      case round =>
        clear HC2 HG2 HK2
        obtain ⟨j, km, kc, bt, kb, rs, hjb, hjm, rfl, rfl, rfl, HS, HK, HC, HG⟩ := hrel
        by_cases hz : 0 < j
        · have hz2 : (0 : Int) < (j : Int) := by omega
          go_wp2_with fail
          refine (key5_any _ B a len cap zs HC.out).mono ?_
          rintro e w3 ⟨⟨s, hs8, rfl⟩, hc3, hg3⟩
          have HC3 := hide hc3
          have HG3 := hide (grown_trans HG.out hg3)
          have HK3 := hide (HK.out.grownB hg3 hB1)
          clear hc3 hg3 HC HG HK
          go_wp2_with fail
          refine (textX_any 4 (by omega) _ B a len cap zs HC3.out).mono ?_
          rintro e w4 ⟨⟨t, ht4, rfl⟩, hc4, hg4⟩
          have HC4 := hide hc4
          have HG4 := hide (grown_trans HG3.out hg4)
          have HK4 := hide (HK3.out.grownB hg4 hB1)
          clear hc4 hg4 HC3 HG3 HK3
          have hkl := HK4.out.len
          have hws : w1.heap.size ≤ w4.heap.size := HG4.out.size
          go_wp2_with (at_builtin; refine wpList_app_rec rfl (.tmp 27) (.tmp 34) rfl ⟨4, (bt : Int) + 1, s, t, 0, 0⟩ HK4.out hws (by omega) rfl rfl rfl ?_; intro a' n' cap' w5 hn5 ho5 hb5; have HOW5 := hide ho5; have HB5 := hide hb5; clear ho5 hb5)
          have HK5 : Hid (recSh.Own 35 w5 w1.heap.size (.slice a' n' cap') (rs ++ [⟨4, (bt : Int) + 1, s, t, 0, 0⟩])) := hide HOW5.out
          have HC5 := hide (HC4.out.below HB5.out hB1)
          have HG5 := hide (grown_below HG4.out HB5.out)
          have HS5 := hide (HS.out.snoc (r := ⟨4, (bt : Int) + 1, s, t, 0, 0⟩) hs8 ht4 (by simp only; omega) (by simp only; omega))
          obtain rfl : n' = km + 1 := by omega
          clear HOW5 HB5 HK4 HC4 HG4 HS
          go_roundw
          case rel => exact ⟨j - 1, km + 1, cap', bt + 1, a', _, by omega, by omega, by go_num, rfl, by go_num, HS5, HK5, HC5, HG5⟩
          case measure => first | (simp [intOf]; done) | (simp [intOf]; omega)
        · obtain rfl : j = 0 := by omega
          have HCx := HC
          have HGx := hide (grown_trans HG1.out HG.out)
          have HOx := hide (HO1.out.grownB HG.out hB)
          have HKx := HK
          have hkl := HK.out.len
          have hkm2 : km ≤ 2 := by omega
          have hbt2 : bt ≤ 2 := by omega
          clear HC HG HK HO1 HG1 hjb hjm
          generalize w1.heap.size = kB at *
          go_wp2_with fail
          rw [show ((0 : Nat) : Int) = 0 from rfl]
          go_loopw [3, 8] (fun ov iv wr => ∃ (k mc : Nat) (ob : Option Addr) (fs : List PlaceV), k ≤ km ∧ iv = .int .i64 k ∧ ov = .slice ob k mc ∧ Hid (Small (fs.map PlaceV.r)) ∧ Hid (plSh.Own 37 wr w.heap.size (.slice ob k mc) fs) ∧ Hid (recSh.Own 35 wr kB (.slice kb km kc) rs) ∧ Hid (CurX wr B a len cap zs) ∧ Hid (w.grownBy wr (some B))) (fun _ i _ => km - (intOf i).toNat)
          case atStart => exact ⟨0, 0, _, [], by omega, rfl, rfl, hide (fun r hr => by cases hr), HOx, HKx, HCx, HGx⟩
          case round =>
            clear HOx HKx HCx HGx
            obtain ⟨k, mc, ob, fs, hk, rfl, rfl, HF, HO, HK, HC, HG⟩ := hrel
            by_cases hlt : k < km
            · have hkx : k < rs.length := by omega
              obtain ⟨b', off, rfl, hbw, c0, c1, c2, c3, c4, c5⟩ := rec_cells HK.out.row k hkx
              have HR := hide (HS.out _ (List.getElem_mem hkx))
              generalize rs[k] = r at *
              have hk2 : (k : Int) < (km : Int) := by omega
              have hol := HO.out.len
              have hws : w.heap.size ≤ wr.heap.size := HG.out.size
              go_wp2_with (at_builtin; refine wpList_app_pl_at rfl (.tmp 42) (.tmp 52) rfl ⟨1, 20 * (k : Int), 20, r⟩ HO.out hws (by omega) rfl rfl rfl ?_; intro a' n' cap' w5 hn5 ho5 hg5 hat5; have HOW5 := hide ho5; have HGW5 := hide hg5; clear ho5 hg5 hat5)
              have HB5 : Hid (Below w.heap.size wr w5) := hide ((Below.refl _ _).grown HGW5.out hws (fun g hg => (HO.out.blk g hg).1))
              have HK5 := hide (own_apart HK.out HO.out (by decide) HGW5.out)
              have HC5 := hide (HC.out.below HB5.out hB)
              have HG5 := hide (grown_below HG.out HB5.out)
              have HF5 : Hid (Small ((fs ++ [(⟨1, 20 * (k : Int), 20, r⟩ : PlaceV)]).map PlaceV.r)) := hide (by
                rw [List.map_append, List.map_singleton]
                exact HF.out.snoc HR.out.1 HR.out.2.1 HR.out.2.2.1 HR.out.2.2.2)
              obtain rfl : n' = k + 1 := by omega
              clear HGW5 HB5 HK HO HC HG HF HR
              go_roundw
              case rel => exact ⟨k + 1, cap', a', _, by omega, by go_num, rfl, HF5, HOW5, HK5, HC5, HG5⟩
              case measure => first | (simp [intOf]; done) | (simp [intOf]; omega)
            · obtain rfl : k = km := by omega
              have hol := HO.out.len
              have hkl2 := HK.out.len
              go_wp2_with fail
              refine (onceX_any 8 (by omega) _ B a len cap zs HC.out).mono ?_
              rintro e w6 ⟨⟨b6, rfl⟩, hc6, hg6⟩
              have HC6 := hide hc6
              have HG6 := hide (grown_trans HG.out hg6)
              have HO6 := hide (HO.out.grownB hg6 hB)
              have hkB : B < kB := by
                have := HC.out.lt
                omega
              have HK6 := hide (HK.out.grownB hg6 hkB)
              clear hc6 hg6 HC HG HO HK
              cases b6 with
              | true =>
                go_wp2_with fail
                go_meet
                exact ⟨_, k, mc, fs, 2, bt, rfl, rfl, rfl, by omega, by omega, by omega, HF, HO6, HC6, HG6⟩
              | false =>
                go_wp2_with fail
                refine (seal9_any w6 kb k kc rs HK6.out.row (by omega) HS.out bt 5).mono ?_
                rintro e w7 ⟨⟨sm, rfl⟩, hb7⟩
                have hB6 : B < w6.heap.size := HC6.out.lt
                have HC7 := hide (HC6.out.below hb7 hB6)
                have HO7 := hide (HO6.out.later hb7 (Nat.le_refl _))
                have HG7 := hide (grown_trans HG6.out (below_grown (some B) hb7))
                clear hb7 HK6 HC6 HG6 HO6
                have hws : w.heap.size ≤ w7.heap.size := HG7.out.size
                go_wp2_with (at_builtin; refine wpList_app_pl rfl (.tmp 57) (.tmp 66) rfl ⟨1, 20 * (k : Int), 20, ⟨5, bt, ⟨#[]⟩, ⟨#[]⟩, k, sm⟩⟩ HO7.out hws (by omega) rfl rfl rfl ?_; intro a' n' cap' w8 hn8 ho8 hb8; have HO8 := hide ho8; have HB8 := hide hb8; clear ho8 hb8)
                have HC8 := hide (HC7.out.below HB8.out hB)
                have HG8 := hide (grown_below HG7.out HB8.out)
                have HF8 : Hid (Small ((fs ++ [(⟨1, 20 * (k : Int), 20, ⟨5, bt, ⟨#[]⟩, ⟨#[]⟩, k, sm⟩⟩ : PlaceV)]).map PlaceV.r)) := hide (by
                  rw [List.map_append, List.map_singleton]
                  exact HF.out.snoc (by exact Nat.zero_le _) (by exact Nat.zero_le _) (by simp only; omega) (by simp only; omega))
                obtain rfl : n' = k + 1 := by omega
                go_meet
                exact ⟨_, k + 1, cap', _, 2, bt, rfl, rfl, rfl, by omega, by omega, by omega, HF8, HO8, HC8, HG8⟩
  case rest =>
    clear HC1 HG1 HO1
    obtain ⟨b, m, capb, fs, sg, bt, rfl, rfl, rfl, hm3, hsg2, hbt2, HF, HO, HC, HG⟩ := hcut
    go_wp2_with fail
    refine (belowX_any 5 (by omega) _ B a len cap zs HC.out).mono ?_
    rintro e w1 ⟨⟨x1, hx1, rfl⟩, hc1, hg1⟩
    have HC1 := hide hc1
    have HG1 := hide (grown_trans HG.out hg1)
    have HO1 := hide (HO.out.grownB hg1 hB)
    clear hc1 hg1 HC HG HO
    go_wp2
    go_loopw [3, 4, 5, 9] (fun ov sv bv nv wr => ∃ (j m mc sg bt : Nat) (ob : Option Addr) (fs : List PlaceV), j ≤ 4 ∧ nv = .int .i64 j ∧ ov = .slice ob m mc ∧ sv = .int .i64 sg ∧ bv = .int .i64 bt ∧ m + 4 * j ≤ 19 ∧ sg + j ≤ 6 ∧ bt + 2 * j ≤ 10 ∧ Hid (Small (fs.map PlaceV.r)) ∧ Hid (plSh.Own 37 wr w.heap.size (.slice ob m mc) fs) ∧ Hid (CurX wr B a len cap zs) ∧ Hid (w.grownBy wr (some B))) (fun _ _ _ n _ => (intOf n).toNat)
    case atStart => exact ⟨x1, m, capb, sg, bt, b, fs, by omega, rfl, rfl, rfl, rfl, by omega, by omega, by omega, HF, HO1, HC1, HG1⟩
    case round =>
      clear HC1 HG1 HO1 HF hm3 hsg2 hbt2
      obtain ⟨j, m, mc, sg, bt, ob, fs, hj, rfl, rfl, rfl, rfl, hmj, hsj, hbj, HF, HO, HC, HG⟩ := hrel
      by_cases hz : 0 < j
      · have hz2 : (0 : Int) < (j : Int) := by omega
        go_wp2_with fail
        refine (belowX_any 2 (by omega) _ B a len cap zs HC.out).mono ?_
        rintro e wK ⟨⟨x2, hx2, rfl⟩, hc2, hg2⟩
        have hBK : B < wK.heap.size := hc2.lt
        have HCa := hide (hc2.below (al1 wK (.cells #[] 35)) hBK)
        have HGb := hide (grown_trans HG.out hg2)
        have HOb := hide (HO.out.grownB hg2 hB)
        have HGa : Hid (wK.grownBy (wK.alloc (.cells #[] 35)) (some B)) := hide (World.grownBy_alloc wK (.cells #[] 35) (some B))
        have HKa := hide (Shape.Own.empty recSh 35 wK)
        clear hc2 hg2 HC HG HO
        go_wp2_with fail
        refine (belowX_any 4 (by omega) _ B a len cap zs HCa.out).mono ?_
        rintro e w2 ⟨⟨x3, hx3, rfl⟩, hc2, hg2⟩
        have HC2 := hide hc2
        have HG2 := hide (grown_trans HGa.out hg2)
        have HK2 := hide (HKa.out.grownB hg2 hBK)
        clear hc2 hg2 HCa HGa HKa
        obtain ⟨bt2, HBT, hbt2j⟩ : ∃ q : Nat, Hid ((bt : Int) + 1 + (x2 : Int) = (q : Int)) ∧ q + 2 * (j - 1) ≤ 10 := ⟨bt + 1 + x2, hide (by omega), by omega⟩
        go_wp2
        rw [HBT.out]
        clear HBT
        go_loopw [10, 11] (fun lv kv wr => ∃ (i km lc : Nat) (lb : Option Addr) (rs : List RecV), kv = .int .i64 i ∧ lv = .slice lb km lc ∧ i + km ≤ 3 ∧ Hid (Small rs) ∧ Hid (recSh.Own 35 wr wK.heap.size (.slice lb km lc) rs) ∧ Hid (CurX wr B a len cap zs) ∧ Hid (wK.grownBy wr (some B))) (fun _ k _ => (intOf k).toNat)
        case atStart => exact ⟨x3, 0, 0, _, [], rfl, rfl, by omega, hide (fun r hr => by cases hr), HK2, HC2, HG2⟩
        case round =>
          clear HC2 HG2 HK2
          obtain ⟨i, km, lc, lb, rs, rfl, rfl, hik, HS, HK, HC, HG⟩ := hrel
          by_cases hy : 0 < i
          · have hy2 : (0 : Int) < (i : Int) := by omega
            go_wp2_with fail
            refine (key5_any _ B a len cap zs HC.out).mono ?_
            rintro e w3 ⟨⟨s, hs8, rfl⟩, hc3, hg3⟩
            have HC3 := hide hc3
            have HG3 := hide (grown_trans HG.out hg3)
            have HK3 := hide (HK.out.grownB hg3 hBK)
            clear hc3 hg3 HC HG HK
            go_wp2_with fail
            refine (textX_any 4 (by omega) _ B a len cap zs HC3.out).mono ?_
            rintro e w4 ⟨⟨t, ht4, rfl⟩, hc4, hg4⟩
            have HC4 := hide hc4
            have HG4 := hide (grown_trans HG3.out hg4)
            have HK4 := hide (HK3.out.grownB hg4 hBK)
            clear hc4 hg4 HC3 HG3 HK3
            obtain ⟨X4, hX4⟩ : ∃ X, X = w4.alloc (.cells #[.int .i64 1, .int .i64 bt2, .string s, .string t, .int .i64 0, .int .i64 0] 35) := ⟨_, rfl⟩
            have hal : Below w4.heap.size w4 X4 := by rw [hX4]; exact al1 _ _
            have HR4 : Hid (X4.heap[w4.heap.size]? = some (.cells #[.int .i64 1, .int .i64 bt2, .string s, .string t, .int .i64 0, .int .i64 0] 35 (0, 0))) := hide (by rw [hX4]; exact heap_alloc_new _ _)
            have hB4 : B < w4.heap.size := HC4.out.lt
            have HCX := hide (HC4.out.below hal hB4)
            have HGX := hide (grown_trans HG4.out (below_grown (some B) hal))
            have HKX := hide (HK4.out.later hal (Nat.le_refl _))
            have hwr : wK.heap.size ≤ w4.heap.size := HG4.out.size
            have HNE := hide (rec_ne HK4.out (Nat.le_refl _))
            clear hal HC4 HG4 HK4
            go_wp2_with fail
            rw [← hX4]
            clear hX4
            generalize w4.heap.size = rB at *
            refine (onceX_any 3 (by omega) _ B a len cap zs HCX.out).mono ?_
            rintro e w5 ⟨⟨b5, rfl⟩, hc5, hg5⟩
            have HC5 := hide hc5
            have HG5 := hide (grown_trans HGX.out hg5)
            have HK5 := hide (HKX.out.grownB hg5 hBK)
            have HR5 := hide ((hg5.block _ (Array.getElem?_eq_some_iff.1 HR4.out).1 (fun e => by injection e with e; omega)).trans HR4.out)
            clear hc5 hg5 HCX HGX HKX HR4
            cases b5 with
            | false =>
              have hkl := HK5.out.len
              have hws : wK.heap.size ≤ w5.heap.size := HG5.out.size
              obtain ⟨y0, y1, y2, y3, y4, y5, -⟩ := cells6d HR5.out
              go_wp2_with (at_builtin; refine wpList_app_rec rfl (.tmp 98) (.tmp 100) rfl ⟨1, bt2, s, t, 0, 0⟩ HK5.out hws (by omega) rfl rfl rfl ?_; intro a' n' cap' w6 hn6 ho6 hb6; have HK6 := hide ho6; have HB6 := hide hb6; clear ho6 hb6)
              have HC6 := hide (HC5.out.below HB6.out hBK)
              have HG6 := hide (grown_below HG5.out HB6.out)
              have HS6 := hide (HS.out.snoc (r := ⟨1, bt2, s, t, 0, 0⟩) hs8 ht4 (by simp only; omega) (by simp only; omega))
              obtain rfl : n' = km + 1 := by omega
              clear HB6 HC5 HG5 HK5 HR5 HS y0 y1 y2 y3 y4 y5
              go_roundw
              case rel => exact ⟨i - 1, km + 1, cap', a', _, by go_num, rfl, by omega, HS6, HK6, HC6, HG6⟩
              case measure => first | (simp [intOf]; done) | (simp [intOf]; omega)
            | true =>
              go_wp2_with fail
              refine (key5_any _ B a len cap zs HC5.out).mono ?_
              rintro e w6 ⟨⟨s2, hs28, rfl⟩, hc6, hg6⟩
              have HC6 := hide hc6
              have HG6 := hide (grown_trans HG5.out hg6)
              have HK6 := hide (HK5.out.grownB hg6 hBK)
              have HR6 := hide ((hg6.block _ (Array.getElem?_eq_some_iff.1 HR5.out).1 (fun e => by injection e with e; omega)).trans HR5.out)
              clear hc6 hg6 HC5 HG5 HK5 HR5
              obtain ⟨y0, y1, y2, y3, y4, y5, f0, f1, f2, f3, f4, f5⟩ := cells6d HR6.out
              have HK7 := hide (own_setNe (own_setNe (own_setNe (own_setNe (own_setNe (own_setNe HK6.out ⟨rB, 0, none⟩ (.int .i64 2) HNE.out) ⟨rB, 1, none⟩ (.int .i64 bt2) HNE.out) ⟨rB, 2, none⟩ (.string s2) HNE.out) ⟨rB, 3, none⟩ (.string ⟨#[]⟩) HNE.out) ⟨rB, 4, none⟩ (.int .i64 0) HNE.out) ⟨rB, 5, none⟩ (.int .i64 0) HNE.out)
              have HC7 := hide ((((((HC6.out.set ⟨rB, 0, none⟩ (.int .i64 2) (by exact hB4)).set ⟨rB, 1, none⟩ (.int .i64 bt2) (by exact hB4)).set ⟨rB, 2, none⟩ (.string s2) (by exact hB4)).set ⟨rB, 3, none⟩ (.string ⟨#[]⟩) (by exact hB4)).set ⟨rB, 4, none⟩ (.int .i64 0) (by exact hB4)).set ⟨rB, 5, none⟩ (.int .i64 0) (by exact hB4))
              have HG7 := hide (grown_cell9 (grown_cell9 (grown_cell9 (grown_cell9 (grown_cell9 (grown_cell9 HG6.out ⟨rB, 0, none⟩ (.int .i64 2) (by exact hwr)) ⟨rB, 1, none⟩ (.int .i64 bt2) (by exact hwr)) ⟨rB, 2, none⟩ (.string s2) (by exact hwr)) ⟨rB, 3, none⟩ (.string ⟨#[]⟩) (by exact hwr)) ⟨rB, 4, none⟩ (.int .i64 0) (by exact hwr)) ⟨rB, 5, none⟩ (.int .i64 0) (by exact hwr))
              obtain ⟨W7, HW7, HN7, HK7', HC7', HG7'⟩ : ∃ W7, Hid ((((((w6.setCell ⟨rB, 0, none⟩ (.int .i64 2)).setCell ⟨rB, 1, none⟩ (.int .i64 bt2)).setCell ⟨rB, 2, none⟩ (.string s2)).setCell ⟨rB, 3, none⟩ (.string ⟨#[]⟩)).setCell ⟨rB, 4, none⟩ (.int .i64 0)).setCell ⟨rB, 5, none⟩ (.int .i64 0) = W7) ∧ Hid (W7.heap.size = w6.heap.size) ∧ Hid (recSh.Own 35 W7 wK.heap.size (.slice lb km lc) rs) ∧ Hid (CurX W7 B a len cap zs) ∧ Hid (wK.grownBy W7 (some B)) := ⟨_, hide rfl, hide (by simp [World.setCell]), HK7, HC7, HG7⟩
              have hkl := HK7'.out.len
              clear HK6 HC6 HG6 HR6 HNE HK7 HC7 HG7
              go_wp2_with (at_builtin; rw [HW7.out]; clear HW7; refine wpList_app_rec rfl (.tmp 98) (.tmp 100) rfl ⟨2, bt2, s2, ⟨#[]⟩, 0, 0⟩ HK7'.out HG7'.out.size (by omega) rfl rfl HN7.out ?_; intro a' n' cap' w8 hn8 ho8 hb8; have HK8 := hide ho8; have HB8 := hide hb8; clear ho8 hb8)
              have HC8 := hide (HC7'.out.below HB8.out hBK)
              have HG8 := hide (grown_below HG7'.out HB8.out)
              have HS8 := hide (HS.out.snoc (r := ⟨2, bt2, s2, ⟨#[]⟩, 0, 0⟩) hs28 (by exact Nat.zero_le _) (by simp only; omega) (by simp only; omega))
              obtain rfl : n' = km + 1 := by omega
              clear HN7 HB8 HC7' HG7' HK7' HS y0 y1 y2 y3 y4 y5 f0 f1 f2 f3 f4 f5
              go_roundw
              case rel => exact ⟨i - 1, km + 1, cap', a', _, by go_num, rfl, by omega, HS8, HK8, HC8, HG8⟩
              case measure => first | (simp [intOf]; done) | (simp [intOf]; omega)
          · obtain rfl : i = 0 := by omega
            have hkl := HK.out.len
            have HCx := HC
            have HGx := hide (grown_trans HGb.out HG.out)
            have HOx := hide (HOb.out.grownB HG.out hB)
            have HKx := HK
            have hkm3 : km ≤ 3 := by omega
            clear HC HG HK HGb HOb hik
            generalize wK.heap.size = kB at *
            go_wp2_with fail
            rw [show ((0 : Nat) : Int) = 0 from rfl]
            go_loopw [3, 13] (fun ov iv wr => ∃ (k q mc : Nat) (ob : Option Addr) (fs : List PlaceV), k ≤ km ∧ q ≤ m + k ∧ iv = .int .i64 k ∧ ov = .slice ob q mc ∧ Hid (Small (fs.map PlaceV.r)) ∧ Hid (plSh.Own 37 wr w.heap.size (.slice ob q mc) fs) ∧ Hid (recSh.Own 35 wr kB (.slice lb km lc) rs) ∧ Hid (CurX wr B a len cap zs) ∧ Hid (w.grownBy wr (some B))) (fun _ i _ => km - (intOf i).toNat)
            case atStart => exact ⟨0, m, mc, ob, fs, by omega, by omega, rfl, rfl, HF, HOx, HKx, HCx, HGx⟩
            case round =>
              clear HOx HKx HCx HGx HF
              obtain ⟨k, q, mc, ob, fs, hk, hq, rfl, rfl, HF, HO, HK, HC, HG⟩ := hrel
              by_cases hlt : k < km
              · have hkx : k < rs.length := by omega
                obtain ⟨b', off, rfl, hbw, c0, c1, c2, c3, c4, c5⟩ := rec_cells HK.out.row k hkx
                have HR := hide (HS.out _ (List.getElem_mem hkx))
                generalize rs[k] = r at *
                have hk2 : (k : Int) < (km : Int) := by omega
                have hol := HO.out.len
                have hws : w.heap.size ≤ wr.heap.size := HG.out.size
                have hq19 : q ≤ 22 := by omega
                go_wp2_with (at_builtin; refine wpList_app_pl_at rfl (.tmp 108) (.tmp 118) rfl ⟨sg, 20 * (q : Int), 20, r⟩ HO.out hws (by omega) rfl rfl rfl ?_; intro a' n' cap' w5 hn5 ho5 hg5 hat5; have HOW5 := hide ho5; have HGW5 := hide hg5; clear ho5 hg5 hat5)
                have HB5 : Hid (Below w.heap.size wr w5) := hide ((Below.refl _ _).grown HGW5.out hws (fun g hg => (HO.out.blk g hg).1))
                have HK5 := hide (own_apart HK.out HO.out (by decide) HGW5.out)
                have HC5 := hide (HC.out.below HB5.out hB)
                have HG5 := hide (grown_below HG.out HB5.out)
                have HF5 : Hid (Small ((fs ++ [(⟨sg, 20 * (q : Int), 20, r⟩ : PlaceV)]).map PlaceV.r)) := hide (by
                  rw [List.map_append, List.map_singleton]
                  exact HF.out.snoc HR.out.1 HR.out.2.1 HR.out.2.2.1 HR.out.2.2.2)
                obtain rfl : n' = q + 1 := by omega
                clear HGW5 HB5 HK HO HC HG HF HR
                go_roundw
                case rel => exact ⟨k + 1, q + 1, cap', a', _, by omega, by omega, by go_num, rfl, HF5, HOW5, HK5, HC5, HG5⟩
                case measure => first | (simp [intOf]; done) | (simp [intOf]; omega)
              · obtain rfl : k = km := by omega
                have hol := HO.out.len
                have hkl2 := HK.out.len
                have hq22 : q ≤ 22 := by omega
                go_wp2_with fail
                refine (seal9_any wr lb k lc rs HK.out.row (by omega) HS.out bt2 3).mono ?_
                rintro e w7 ⟨⟨sm, rfl⟩, hb7⟩
                have hB6 : B < wr.heap.size := HC.out.lt
                have HC7 := hide (HC.out.below hb7 hB6)
                have HO7 := hide (HO.out.later hb7 (Nat.le_refl _))
                have HG7 := hide (grown_trans HG.out (below_grown (some B) hb7))
                clear hb7 HK HC HG HO
                obtain ⟨X7, hX7⟩ : ∃ X, X = w7.alloc (.cells #[.int .i64 3, .int .i64 bt2, .string ⟨#[]⟩, .string ⟨#[]⟩, .int .i64 k, .int .i64 sm] 35) := ⟨_, rfl⟩
                have hal : Below w7.heap.size w7 X7 := by rw [hX7]; exact al1 _ _
                have HR8 : Hid (X7.heap[w7.heap.size]? = some (.cells #[.int .i64 3, .int .i64 bt2, .string ⟨#[]⟩, .string ⟨#[]⟩, .int .i64 k, .int .i64 sm] 35 (0, 0))) := hide (by rw [hX7]; exact heap_alloc_new _ _)
                have hB7 : B < w7.heap.size := HC7.out.lt
                have HC8 := hide (HC7.out.below hal hB7)
                have HG8 := hide (grown_trans HG7.out (below_grown (some B) hal))
                have HO8 := hide (HO7.out.later hal (Nat.le_refl _))
                have hwr : w.heap.size ≤ w7.heap.size := HG7.out.size
                have HNE : Hid ((Value.slice ob q mc).ownBlock ≠ some w7.heap.size) := hide (fun e => by have := (HO7.out.blk _ e).2; omega)
                clear hal HC7 HG7 HO7
                go_wp2_with fail
                rw [← hX7]
                clear hX7
                generalize w7.heap.size = sB at *
                refine (belowX_any 8 (by omega) _ B a len cap zs HC8.out).mono ?_
                rintro e w9 ⟨⟨x8, hx8, rfl⟩, hc9, hg9⟩
                have HC9 := hide hc9
                have HG9 := hide (grown_trans HG8.out hg9)
                have HO9 := hide (HO8.out.grownB hg9 hB)
                have HR9 := hide ((hg9.block _ (Array.getElem?_eq_some_iff.1 HR8.out).1 (fun e => by injection e with e; omega)).trans HR8.out)
                clear hc9 hg9 HC8 HG8 HO8 HR8
                by_cases e0 : x8 = 0
                · subst e0
                  clear HR9
                  go_wp2
                  go_roundw
                  case rel => exact ⟨j - 1, q, mc, sg, bt2, ob, fs, by omega, by go_num, rfl, rfl, rfl, by omega, by omega, by omega, HF, HO9, HC9, HG9⟩
                  case measure => first | (simp [intOf]; done) | (simp [intOf]; omega)
                · by_cases e1 : x8 = 1
                  · subst e1
                    obtain ⟨y0, y1, y2, y3, y4, y5, f0, f1, f2, f3, f4, f5⟩ := cells6d HR9.out
                    obtain ⟨W10, HW10, HN10, HO10, HC10, HG10⟩ : ∃ W10, Hid (w9.setCell ⟨sB, 5, none⟩ (.int .i64 7) = W10) ∧ Hid (W10.heap.size = w9.heap.size) ∧ Hid (plSh.Own 37 W10 w.heap.size (.slice ob q mc) fs) ∧ Hid (CurX W10 B a len cap zs) ∧ Hid (w.grownBy W10 (some B)) := ⟨_, hide rfl, hide (by simp [World.setCell]), hide (own_setNe HO9.out ⟨sB, 5, none⟩ (.int .i64 7) HNE.out), hide (HC9.out.set ⟨sB, 5, none⟩ (.int .i64 7) (by exact hB7)), hide (grown_cell9 HG9.out ⟨sB, 5, none⟩ (.int .i64 7) (by exact hwr))⟩
                    clear HO9 HC9 HG9 HR9 HNE
                    have hol10 := HO10.out.len
                    go_wp2_with (at_builtin; rw [HW10.out]; clear HW10; refine wpList_app_pl rfl (.tmp 130) (.tmp 137) rfl ⟨sg, 20 * (q : Int), 20, ⟨3, bt2, ⟨#[]⟩, ⟨#[]⟩, k, 7⟩⟩ HO10.out HG10.out.size (by omega) rfl rfl HN10.out ?_; intro a' n' cap' w11 hn11 ho11 hb11; have HO11 := hide ho11; have HB11 := hide hb11; clear ho11 hb11)
                    have HC11 := hide (HC10.out.below HB11.out hB)
                    have HG11 := hide (grown_below HG10.out HB11.out)
                    have HF11 : Hid (Small ((fs ++ [(⟨sg, 20 * (q : Int), 20, ⟨3, bt2, ⟨#[]⟩, ⟨#[]⟩, k, 7⟩⟩ : PlaceV)]).map PlaceV.r)) := hide (by
                      rw [List.map_append, List.map_singleton]
                      exact HF.out.snoc (by exact Nat.zero_le _) (by exact Nat.zero_le _) (by simp only; omega) (by simp only; omega))
                    obtain rfl : n' = q + 1 := by omega
                    clear HB11 HC10 HG10 HO10 HF
                    refine (onceX_any 4 (by omega) _ B a len cap zs HC11.out).mono ?_
                    rintro e w12 ⟨⟨b12, rfl⟩, hc12, hg12⟩
                    have HC12 := hide hc12
                    have HG12 := hide (grown_trans HG11.out hg12)
                    have HO12 := hide (HO11.out.grownB hg12 hB)
                    clear hc12 hg12 HC11 HG11 HO11
                    cases b12 with
                    | false =>
                      go_wp2
                      go_roundw
                      case rel => exact ⟨j - 1, q + 1, cap', sg, bt2, a', _, by omega, by go_num, by rw [hol10], rfl, rfl, by omega, by omega, by omega, HF11, HO12, HC12, HG12⟩
                      case measure => first | (simp [intOf]; done) | (simp [intOf]; omega)
                    | true =>
                      go_wp2
                      go_roundw
                      case rel => exact ⟨j - 1, q + 1, cap', sg + 1, bt2, a', _, by omega, by go_num, by rw [hol10], by go_num, rfl, by omega, by omega, by omega, HF11, HO12, HC12, HG12⟩
                      case measure => first | (simp [intOf]; done) | (simp [intOf]; omega)
                  · have q0 : ((x8 : Int) == 0) = false := by simp; omega
                    have q1 : ((x8 : Int) == 1) = false := by simp; omega
                    obtain ⟨y0, y1, y2, y3, y4, y5, f0, f1, f2, f3, f4, f5⟩ := cells6d HR9.out
                    have HO10 := HO9
                    have HC10 := HC9
                    have HG10 := HG9
                    clear HO9 HC9 HG9 HR9 HNE
                    have hol10 := HO10.out.len
                    go_wp2_with (at_builtin; refine wpList_app_pl rfl (.tmp 130) (.tmp 137) rfl ⟨sg, 20 * (q : Int), 20, ⟨3, bt2, ⟨#[]⟩, ⟨#[]⟩, k, sm⟩⟩ HO10.out HG10.out.size (by omega) rfl rfl rfl ?_; intro a' n' cap' w11 hn11 ho11 hb11; have HO11 := hide ho11; have HB11 := hide hb11; clear ho11 hb11)
                    have HC11 := hide (HC10.out.below HB11.out hB)
                    have HG11 := hide (grown_below HG10.out HB11.out)
                    have HF11 : Hid (Small ((fs ++ [(⟨sg, 20 * (q : Int), 20, ⟨3, bt2, ⟨#[]⟩, ⟨#[]⟩, k, sm⟩⟩ : PlaceV)]).map PlaceV.r)) := hide (by
                      rw [List.map_append, List.map_singleton]
                      exact HF.out.snoc (by exact Nat.zero_le _) (by exact Nat.zero_le _) (by simp only; omega) (by simp only; omega))
                    obtain rfl : n' = q + 1 := by omega
                    clear HB11 HC10 HG10 HO10 HF
                    refine (onceX_any 4 (by omega) _ B a len cap zs HC11.out).mono ?_
                    rintro e w12 ⟨⟨b12, rfl⟩, hc12, hg12⟩
                    have HC12 := hide hc12
                    have HG12 := hide (grown_trans HG11.out hg12)
                    have HO12 := hide (HO11.out.grownB hg12 hB)
                    clear hc12 hg12 HC11 HG11 HO11
                    cases b12 with
                    | false =>
                      go_wp2
                      go_roundw
                      case rel => exact ⟨j - 1, q + 1, cap', sg, bt2, a', _, by omega, by go_num, by rw [hol10], rfl, rfl, by omega, by omega, by omega, HF11, HO12, HC12, HG12⟩
                      case measure => first | (simp [intOf]; done) | (simp [intOf]; omega)
                    | true =>
                      go_wp2
                      go_roundw
                      case rel => exact ⟨j - 1, q + 1, cap', sg + 1, bt2, a', _, by omega, by go_num, by rw [hol10], by go_num, rfl, by omega, by omega, by omega, HF11, HO12, HC12, HG12⟩
                      case measure => first | (simp [intOf]; done) | (simp [intOf]; omega)
      · obtain rfl : j = 0 := by omega
        go_wp2
        go_ret
        exact ⟨⟨ob, m, mc, fs, rfl, by omega, HF.out, HO.out⟩, HC.out, HG.out⟩

end Go.Proofs.YtphbinkkgmlnmaaGreatDoor
