/-
  The walk of FnNames.
-/
import Derived.Test.YthnealhaleccpaaGreatDoorDraws7
import Derived.Test.YthnealhaleccpaaGreatDoorG13
import Derived.Test.YthnealhaleccpaaGreatDoorG17
import Derived.Test.YthnealhaleccpaaGreatDoorMOrphImpl
import Derived.Deep.RegionHeld3
namespace Go.Proofs.YthnealhaleccpaaGreatDoor
open Go.RowKit Go.Maps
open Plain

theorem rl_none : rl ⟨#[]⟩ = (zeroL, false) := rl_of (Or.inr ⟨rfl, rfl, fun u hu e => by
  have h := showL_pos hu
  rw [e] at h
  exact absurd h (by decide)⟩)
theorem io_empty : io ⟨#[]⟩ = (0, false) := io_other _ (by decide) (by decide)
theorem io_seg_if (n : Int) : io (segS n) = (if decide (1 ≤ n) && decide (n ≤ 100000) then n else 0, decide (1 ≤ n) && decide (n ≤ 100000)) := by
  by_cases h : 1 ≤ n ∧ n ≤ 100000
  · rw [io_of (Or.inl ⟨rfl, h, Or.inl rfl⟩), decide_eq_true h.1, decide_eq_true h.2]; rfl
  · have h2 : (decide (1 ≤ n) && decide (n ≤ 100000)) = false := by simp; omega
    rw [h2, show segS n = ⟨#[]⟩ from if_neg h, io_empty]; rfl
theorem io_hint_if (n : Int) : io (hintS n) = (if decide (1 ≤ n) && decide (n ≤ 100000) then n else 0, decide (1 ≤ n) && decide (n ≤ 100000)) := by
  by_cases h : 1 ≤ n ∧ n ≤ 100000
  · rw [io_of (Or.inl ⟨rfl, h, Or.inr rfl⟩), decide_eq_true h.1, decide_eq_true h.2]; rfl
  · have h2 : (decide (1 ≤ n) && decide (n ≤ 100000)) = false := by simp; omega
    rw [h2, show hintS n = ⟨#[]⟩ from if_neg h, io_empty]; rfl
/-- What stands among the orphans. -/
theorem orphS_mem {fs : List FileV} {c u : Int} {ids : List Int} (i : Nat) (h : i < (orphS fs c u ids).length) : orphB ids ((orphS fs c u ids)[i]) = true ∧ ((orphS fs c u ids)[i]).size ≤ szFs fs := by
  have hm : (orphS fs c u ids)[i] ∈ orphS fs c u ids := List.getElem_mem h
  generalize (orphS fs c u ids)[i] = s at *
  unfold orphS at hm
  split at hm
  · unfold orphL at hm
    rw [List.mem_filter] at hm
    obtain ⟨h1, h2⟩ := hm
    rw [List.mem_map] at h1
    obtain ⟨f, hf, rfl⟩ := h1
    obtain ⟨k, hk, rfl⟩ := List.getElem_of_mem hf
    exact ⟨h2, name_le fs k hk⟩
  · simp at hm
theorem orphS_len (fs : List FileV) (c u : Int) (ids : List Int) : (orphS fs c u ids).length ≤ 130 := by
  unfold orphS
  split
  · rename_i q
    have h1 := ok_len q
    have h2 := orphL_len fs ids
    omega
  · simp

/-- The tables and the sentinel are as the program's text lays them. -/
def Laid7 (w : World) : Prop := STab w ∧ Tab w ∧ Syn w
theorem Laid7.later {w w' : World} (h : Laid7 w) (hb : Below w.heap.size w w') : Laid7 w' := ⟨h.1.later hb, h.2.1.later hb, h.2.2.later hb⟩

set_option maxRecDepth 100000 in
set_option maxHeartbeats 8000000 in
theorem names_walk (w : World) (a : Option Addr) (len cap : Nat) (zs : List Int) (hc : len ≤ 1048576 → CodeAt w a len zs) (hl : Laid7 w) :
    Calls Tryz.prog 3 #[.slice a len cap] w fun e w' => e = .returned (.bool true) ∧ Below w.heap.size w w' := by
  by_cases hb : 1048576 < len
  · have HBG := hide (big_any a len cap w)
    rw [decide_eq_true hb] at HBG
    go_enter Tryz.func3, Tryz.ntmps3
    go_wp2_with fail
    refine HBG.out.mono ?_
    rintro e w1 ⟨rfl, rfl⟩
    go_wp2
    go_ret
    exact ⟨rfl, Below.refl _ _⟩
  · have HBG := hide (big_any a len cap w)
    rw [decide_eq_false hb] at HBG
    have HC := hide (hc (by omega))
    have HL := hide hl
    have HSL := hide (drawShowL_any w a len cap zs HC.out)
    clear hc hl hb
    go_enter Tryz.func3, Tryz.ntmps3
    go_wp2_with fail
    refine HBG.out.mono ?_
    rintro e w0 ⟨rfl, rfl⟩
    clear HBG
    go_wp2_with fail
    refine HSL.out.mono ?_
    rintro e w1 ⟨⟨x, b, m, capb, ts, rfl, hm, hr⟩, hb1⟩
    obtain ⟨X1, hX1⟩ : ∃ X, X = w1.alloc (.cells #[.int .i64 x, .slice b m capb] 26) := ⟨_, rfl⟩
    have hbX : Below w1.heap.size w1 X1 := by rw [hX1]; exact al1 w1 _
    have HV : Hid (LvAt w w1.heap.size 26 x b m capb ts X1) := hide ⟨by rw [hX1]; exact heap_alloc_new w1 _, hr.later hbX (Nat.le_refl _), hb1.trans (hbX.mono hb1.size)⟩
    have y := HV.out.cells
    rw [hX1] at y
    obtain ⟨y0, y1⟩ := y
    clear HSL hr hb1 hbX
    go_wp2_with fail
    clear y0 y1
    rw [← hX1]
    clear hX1
    obtain ⟨bv, hbv⟩ : ∃ l, w1.heap.size = l := ⟨_, rfl⟩
    rw [hbv] at HV ⊢
    clear hbv
    refine (implShowL_any X1 (HL.out.later HV.out.bel).1 x b m capb ts HV.out.ids (by omega)).mono ?_
    rintro e w2 ⟨rfl, hb2⟩
    have HV2 := hide (HV.out.later hb2)
    have HRL := hide (implReadL_any (showL ⟨x, ts⟩) (Nat.le_trans (showL_size _) (by omega)) w2 (HL.out.later HV2.out.bel).1)
    have HLO := hide (fun W (h : IRow W 0 b m ts) => specLive_any W x b m capb ts h (by omega))
    clear HV hb2
    obtain ⟨lv, hlv⟩ : ∃ z, liveB ⟨x, ts⟩ = z := ⟨_, rfl⟩
    have hrl : (rl (showL ⟨x, ts⟩)).2 = lv ∧ (showL ⟨x, ts⟩).toList.isEmpty = !lv ∧ (lv = true → (rl (showL ⟨x, ts⟩)).1.next = x ∧ (rl (showL ⟨x, ts⟩)).1.ids = ts) := by
      cases lv with
      | true =>
        rw [rl_show hlv]
        refine ⟨rfl, ?_, fun _ => ⟨rfl, rfl⟩⟩
        have h := showL_pos hlv
        rw [ByteArray.toList_eq]
        rw [Bool.not_true]
        cases q : (showL ⟨x, ts⟩).data.toList with
        | nil =>
          have h2 : (showL ⟨x, ts⟩).data.toList.length = (showL ⟨x, ts⟩).size := rfl
          rw [q] at h2
          simp at h2
          omega
        | cons y ys => rfl
      | false =>
        rw [showL_out hlv, rl_none]
        exact ⟨rfl, by rw [ByteArray.toList_eq]; rfl, fun h => by cases h⟩
    obtain ⟨hr1, hr2, hr3⟩ := hrl
    rw [hlv] at HLO
    rw [hr1] at HRL
    generalize showL ⟨x, ts⟩ = s at *
    generalize (rl s).1.next = x2 at *
    generalize (rl s).1.ids = ts2 at *
    clear hlv hr1
    go_wp2_with fail
    refine HRL.out.mono ?_
    rintro e w3 ⟨⟨a3, n3, c3, rfl, ho3⟩, hb3⟩
    obtain ⟨X3, hX3⟩ : ∃ X, X = w3.alloc (.cells #[.int .i64 x2, .slice a3 n3 c3] 26) := ⟨_, rfl⟩
    have hbX : Below w3.heap.size w3 X3 := by rw [hX3]; exact al1 w3 _
    have HV3 : Hid (LvAt w bv 26 x b m capb ts X3 ∧ LvAt w w3.heap.size 26 x2 a3 n3 c3 ts2 X3) := hide ⟨(HV2.out.later hb3).later hbX, ⟨by rw [hX3]; exact heap_alloc_new w3 _, ho3.row.later hbX (Nat.le_refl _), ((HV2.out.later hb3).later hbX).bel⟩⟩
    obtain ⟨bw, hbw⟩ : ∃ l, w3.heap.size = l := ⟨_, rfl⟩
    rw [hbw] at HV3
    obtain ⟨v0, v1⟩ := HV3.out.1.cells
    obtain ⟨z0, z1⟩ := HV3.out.2.cells
    rw [hX3] at v0 v1 z0 z1
    clear HRL HV2 ho3 hb3 hbX
    cases lv
    case' true =>
      obtain ⟨rfl, rfl⟩ := hr3 rfl
      go_wp2_with fail
      rw [← hX3]
      clear hX3 v0 v1 z0 z1 hr3
      refine (HLO.out X3 HV3.out.1.ids).mono ?_
      rintro e w4 ⟨rfl, hb4⟩
      have HV4 : Hid (LvAt w bv 26 x2 b m capb ts2 w4 ∧ LvAt w bw 26 x2 a3 n3 c3 ts2 w4) := hide ⟨HV3.out.1.later hb4, HV3.out.2.later hb4⟩
      obtain ⟨v0, v1⟩ := HV4.out.1.cells
      obtain ⟨z0, z1⟩ := HV4.out.2.cells
      obtain rfl : n3 = m := by have h1 := HV4.out.1.ids.len; have h2 := HV4.out.2.ids.len; omega
      clear hb4 HLO HV3
      go_wp2_with fail
      clear v0 v1 z0 z1
      refine (sameInts_same w4 a3 b n3 c3 capb ts2 HV4.out.2.ids HV4.out.1.ids (by omega)).mono ?_
      rintro e w9 ⟨rfl, hb9⟩
      have HB9 := hide (HV4.out.1.later hb9).bel
      clear hb9 HV4
    case' false =>
      go_wp2_with fail
      rw [← hX3]
      clear hX3 v0 v1 z0 z1 hr3
      refine (HLO.out X3 HV3.out.1.ids).mono ?_
      rintro e w9 ⟨rfl, hb4⟩
      have HB9 := hide (HV3.out.1.later hb4).bel
      clear hb4 HLO HV3
    all_goals
      have HDS := hide (drawSeg_any w9 a len cap zs (HC.out.later HB9.out))
      go_wp2_with fail
      refine HDS.out.mono ?_
      rintro e w10 ⟨⟨n, rfl, hn⟩, hb10⟩
      have HB10 := hide (HB9.out.trans (hb10.mono HB9.out.size))
      have HI1 := hide (fun W h1 h2 => implIdOf_any (segS n) (Nat.le_trans (segS_size n) (by omega)) W h1 h2)
      have HI2 := hide (fun W h1 h2 => implIdOf_any (hintS n) (Nat.le_trans (hintS_size n) (by omega)) W h1 h2)
      rw [io_seg_if] at HI1
      rw [io_hint_if] at HI2
      obtain ⟨p, hp⟩ : ∃ p, decide (1 ≤ n) = p := ⟨_, rfl⟩
      obtain ⟨q, hq⟩ : ∃ q, decide (n ≤ 100000) = q := ⟨_, rfl⟩
      rw [hp, hq] at HI1 HI2
      have HSE := hide (fun W h => implSeg_any n W h)
      have HHI := hide (fun W h => implHint_any n W h)
      clear hb10 HB9 HDS
      cases p
      case' false => clear hq
      case' true => cases q
      all_goals
        simp only [Bool.false_and, Bool.and_self, Bool.and_false, if_true, if_false, Bool.false_eq_true] at HI1 HI2
        go_wp2_with fail
        refine (HSE.out _ (HL.out.later HB10.out).2.1).mono ?_
        rintro e w11 ⟨rfl, hb11⟩
        have HB11 := hide (HB10.out.trans (hb11.mono HB10.out.size))
        go_wp2_with fail
        refine (HI1.out _ (HL.out.later HB11.out).2.1 (HL.out.later HB11.out).2.2).mono ?_
        rintro e w12 ⟨rfl, hb12⟩
        have HB12 := hide (HB11.out.trans (hb12.mono HB11.out.size))
        go_wp2_with fail
        refine (HHI.out _ (HL.out.later HB12.out).2.1).mono ?_
        rintro e w13 ⟨rfl, hb13⟩
        have HB13 := hide (HB12.out.trans (hb13.mono HB12.out.size))
        go_wp2_with fail
        refine (HI2.out _ (HL.out.later HB13.out).2.1 (HL.out.later HB13.out).2.2).mono ?_
        rintro e w14 ⟨rfl, hb14⟩
        have HB14 := hide (HB13.out.trans (hb14.mono HB13.out.size))
        clear hb11 hb12 hb13 hb14 HB10 HB11 HB12 HB13 HSE HHI HI1 HI2
        have HDO := hide (drawOrph_any w14 a len cap zs (HC.out.later HB14.out))
        go_wp2_with fail
        refine HDO.out.mono ?_
        rintro e w15 ⟨⟨a', k, cap', c, u, d, fs, x', b', m', capb', ts', rfl, hk, hsz, hm', hfr, hir⟩, hb15⟩
        have HB15 := hide (HB14.out.trans (hb15.mono HB14.out.size))
        obtain ⟨X, hX⟩ : ∃ X, X = (w15.alloc (.cells #[.slice a' k cap', .int .i64 c, .int .i64 u, .bool d] 39)).alloc (.cells #[.int .i64 x', .slice b' m' capb'] 26) := ⟨_, rfl⟩
        have hA := news2 w15 (.cells #[.slice a' k cap', .int .i64 c, .int .i64 u, .bool d] 39) (.cells #[.int .i64 x', .slice b' m' capb'] 26)
        rw [← hX] at hA
        have HO : Hid (OArg w15 a' k cap' c u d fs x' b' m' capb' ts' X) := hide ⟨hA.2.2.1, hfr.later hA.2.1 (Nat.le_refl _), hA.2.2.2, hir.later hA.2.1 (Nat.le_refl _), hA.2.1⟩
        have y := HO.out.cells
        rw [hX] at y
        obtain ⟨y0, y1, y2, y3, y4, y5⟩ := y
        clear hA hfr hir hb15 HB14 HDO
        go_wp2_with fail
        clear y0 y1 y2 y3 y4 y5
        rw [← hX]
        clear hX
        have HBX := hide (HB15.out.trans (HO.out.bel.mono HB15.out.size))
        refine (implOrph_any X a' k cap' fs HO.out.row (by omega) (by omega) c u d x' b' m' capb' ts' HO.out.ids (by omega) (HL.out.later HBX.out).2.1 (HL.out.later HBX.out).2.2).mono ?_
        rintro e w16 ⟨⟨a8, n8, c8, rfl, ho8⟩, hb16⟩
        have HO16 : Hid (OArg w15 a' k cap' c u d fs x' b' m' capb' ts' w16 ∧ TOwn w16 0 (.slice a8 n8 c8) (orphS fs c u ts')) := hide ⟨HO.out.later hb16, ho8.mono (Nat.zero_le _)⟩
        clear hb16 HO ho8 HBX
        have HSO := hide (fun W h1 h2 => specOrph_any W a' k cap' fs h1 (show szFs fs ≤ 1048576 by omega) (show k ≤ 1048576 by omega) c u d x' b' m' capb' ts' h2 (show m' ≤ 1048576 by omega))
        have HME := hide (fun i h => orphS_mem (fs := fs) (c := c) (u := u) (ids := ts') i h)
        have hl8 := orphS_len fs c u ts'
        generalize orphS fs c u ts' = L at *
        go_wp2
        go_loopw [16] (fun i wr => ∃ j : Nat, j ≤ n8 ∧ i = .int .i64 j ∧ Hid (OArg w15 a' k cap' c u d fs x' b' m' capb' ts' wr ∧ TOwn wr 0 (.slice a8 n8 c8) L)) (fun i _ => n8 - (intOf i).toNat)
        case atStart => exact ⟨0, by omega, rfl, HO16⟩
        case round =>
          clear HO16
          obtain ⟨j, hj, rfl, HO⟩ := hrel
          by_cases hlt : j < n8
          · have hjl : j < L.length := by have := HO.out.2.len; omega
            obtain ⟨bo, oo, rfl, -, hbo, e1⟩ := HO.out.2.row.cells j hjl
            obtain ⟨hm1, hm2⟩ := HME.out j hjl
            obtain ⟨nm, hnm⟩ : ∃ nm, L[j] = nm := ⟨_, rfl⟩
            rw [hnm] at e1 hm1 hm2
            have HNM := hide hnm
            have HID := hide (specIdOf_any nm (by omega))
            unfold orphB at hm1
            obtain ⟨idn, hidn⟩ : ∃ z, (io nm).1 = z := ⟨_, rfl⟩
            obtain ⟨is, his⟩ : ∃ z, (io nm).2 = z := ⟨_, rfl⟩
            rw [hidn, his] at HID hm1
            have HM1 := hide hm1
            have hj2 : (j : Int) < (n8 : Int) := by omega
            clear hnm hidn his hm1 hm2
            go_wp2_with fail
            refine (HID.out _).mono ?_
            rintro e w17 ⟨rfl, hb17⟩
            have HO17 : Hid (OArg w15 a' k cap' c u d fs x' b' m' capb' ts' w17 ∧ TOwn w17 0 (.slice (some ⟨bo, oo, none⟩) n8 c8) L) := hide ⟨HO.out.1.later hb17, HO.out.2.later hb17 (Nat.le_refl _)⟩
            obtain ⟨bo', oo', q0, -, hbo', e2⟩ := HO17.out.2.row.cells j hjl
            simp only [Option.some.injEq, Addr.mk.injEq] at q0
            obtain ⟨rfl, rfl, -⟩ := q0
            rw [HNM.out] at e2
            obtain ⟨y0, y1, y2, y3, y4, y5⟩ := HO17.out.1.cells
            clear hb17 HO HID e1 HNM
            by_cases ht : nm = tempS
            · have q1 := temp_eq ht
              clear ht HM1
              go_wp2
              go_roundw
              case rel => exact ⟨j + 1, by omega, by go_num, HO17⟩
              case measure => first | (simp [intOf]; done) | (simp [intOf]; omega)
            · have q1 := temp_ne ht
              have hm1 := HM1.out
              rw [decide_eq_false ht, Bool.or_false, Bool.and_eq_true, Bool.not_eq_true'] at hm1
              obtain ⟨rfl, hct⟩ := hm1
              have HHN := hide (has_no w17 b' m' capb' ts' idn HO17.out.1.ids (by omega) hct)
              clear ht HM1 hct
              go_wp2_with fail
              refine HHN.out.mono ?_
              rintro e w18 ⟨rfl, hb18⟩
              have HO18 : Hid (OArg w15 a' k cap' c u d fs x' b' m' capb' ts' w18 ∧ TOwn w18 0 (.slice (some ⟨bo, oo, none⟩) n8 c8) L) := hide ⟨HO17.out.1.later hb18, HO17.out.2.later hb18 (Nat.le_refl _)⟩
              clear hb18 HO17 HHN y0 y1 y2 y3 y4 y5 e2
              go_wp2
              go_roundw
              case rel => exact ⟨j + 1, by omega, by go_num, HO18⟩
              case measure => first | (simp [intOf]; done) | (simp [intOf]; omega)
          · obtain rfl : j = n8 := by omega
            obtain ⟨y0, y1, y2, y3, y4, y5⟩ := HO.out.1.cells
            go_wp2_with fail
            clear y0 y1 y2 y3 y4 y5
            refine (HSO.out wr HO.out.1.row HO.out.1.ids).mono ?_
            rintro e w17 ⟨⟨a9, n9, c9, rfl, ho9⟩, hb17⟩
            have HO17 : Hid (OArg w15 a' k cap' c u d fs x' b' m' capb' ts' w17 ∧ TOwn w17 0 (.slice a8 j c8) L) := hide ⟨HO.out.1.later hb17, HO.out.2.later hb17 (Nat.le_refl _)⟩
            obtain rfl : n9 = j := by have h1 := ho9.len; have h2 := HO17.out.2.len; omega
            have HO9 := hide ho9
            clear hb17 HO HSO ho9
            go_wp2_with fail
            refine (sameTexts_same w17 a8 a9 n9 c8 c9 L HO17.out.2.row HO9.out.row (by have h1 := HO9.out.len; omega)).mono ?_
            rintro e w18 ⟨rfl, hb18⟩
            have HBZ := hide (HB15.out.trans ((HO17.out.1.later hb18).bel.mono HB15.out.size))
            clear hb18 HO17 HO9
            go_wp2
            go_ret
            exact ⟨rfl, HBZ.out⟩

end Go.Proofs.YthnealhaleccpaaGreatDoor
