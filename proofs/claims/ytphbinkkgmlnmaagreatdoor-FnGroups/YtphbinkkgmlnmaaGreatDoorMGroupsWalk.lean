/-
  The walk of FnGroups.
-/
import Derived.Test.YtphbinkkgmlnmaaGreatDoorG27
import Derived.Test.YtphbinkkgmlnmaaGreatDoorMGroupI
import Derived.Test.YtphbinkkgmlnmaaGreatDoorG30
import Derived.Test.YtphbinkkgmlnmaaGreatDoorMAtBig
import Derived.Deep.QuietTactic
import Derived.Deep.DeepCutAuto
namespace Go.Proofs.YtphbinkkgmlnmaaGreatDoor
open Go.RowKit
open Plain

theorem regF_lenG (g : GroupV) (l : List PlaceV) : (regF g l).dir.length ≤ g.dir.length + 20 + l.length := by
  have h0 : (regF g l).dir = (regL g l).dir := by unfold regF endG; split <;> rfl
  rw [h0]
  have h : ∀ k, (regL g (l.take k)).dir.length ≤ g.dir.length + 20 + l.length := by
    intro k
    induction k with
    | zero => show g.dir.length ≤ _; omega
    | succ k ih =>
      by_cases hk : k < l.length
      · rw [regL_succ g l k hk]
        have hd := regL_dir g l k
        generalize regL g (l.take k) = x at ih hd ⊢
        unfold stepG
        split
        · rename_i hc
          have hx := hd hc
          split
          · split
            · have h1 := behindP_len (ofB (l.take k) (l[k]).r.batch) x.dir
              have h2 := ofB_len (l.take k) (l[k]).r.batch
              rw [List.length_take] at h2
              show (behindP x.dir _).length ≤ _
              omega
            · exact ih
          · split
            · split
              · have h1 := behindP_len (keptP (l.take k)) x.dir
                have h2 := keptP_len (l.take k)
                rw [List.length_take] at h2
                show (behindP x.dir _).length ≤ _
                omega
              · exact ih
            · exact ih
        · exact ih
      · rw [List.take_of_length_le (by omega)]
        rw [List.take_of_length_le (by omega)] at ih
        exact ih
  have := h l.length
  rw [List.take_of_length_le (Nat.le_refl _)] at this
  exact this

set_option maxRecDepth 100000 in
set_option maxHeartbeats 8000000 in
theorem groups_walk (w : World) (ht : STab w) (a : Option Addr) (len cap : Nat) (zs : List Int) (hc : CodeAt w a len zs) (hl : len ≤ 1048576) :
    Calls Tryz.prog 3 #[.slice a len cap] w fun e w' => e = .returned (.bool true) ∧ Below w.heap.size w w' := by
  have HC := hide hc
  have hbig : decide (1048576 < len) = false := by simp; omega
  have HT := hide ht
  clear hc ht
  go_enter Tryz.func3, Tryz.ntmps3
  go_wp2_with fail
  refine (big_any a len cap w).mono ?_
  rintro e w0 ⟨rfl, rfl⟩
  rw [hbig]
  go_wp2_with fail
  refine (drawReg_any w a len cap zs HC.out).mono ?_
  rintro e w1 ⟨⟨ua, un, uc, ul, uq, b, m, capb, fs, rfl, hm, hs, ho⟩, hb1⟩
  have HB1 := hide hb1
  have HR1 := hide ho.row
  have HPF := hide hs.fit
  have hml := ho.len
  clear hb1 ho hs HC hbig
  obtain ⟨X1, hX1⟩ : ∃ X, X = w1.alloc (.cells #[.slice ua un uc, .int .i64 ul, .int .i64 uq] 26) := ⟨_, rfl⟩
  have hal : Below w1.heap.size w1 X1 := by rw [hX1]; exact al1 _ _
  have HBX1 := hide (HB1.out.trans (hal.mono HB1.out.size))
  have HRX1 := hide (HR1.out.later hal)
  clear hal HB1 HR1
  obtain ⟨R, hR⟩ : ∃ R, regF ⟨[], 0, 0⟩ fs = R := ⟨_, rfl⟩
  have HRE := hide hR
  obtain ⟨gz, gla, gco⟩ := R
  obtain ⟨nz, hnz⟩ : ∃ k, gz.length = k := ⟨_, rfl⟩
  have HIP : Hid (∀ W, Below w.heap.size w W → plSh.Row W b m fs → Calls Tryz.prog 7 #[.agg #[.slice none 0 0, .int .i64 0, .int .i64 0], .slice b m capb] W fun e w' => (∃ a' c', e = .returned (.agg #[.slice a' nz c', .int .i64 gla, .int .i64 gco]) ∧ entSh.Row w' a' nz gz) ∧ Below W.heap.size W w') := hide (fun W hb h2 => by
    refine (implReg_any W (HT.out.later hb) none b 0 0 m capb ⟨[], 0, 0⟩ fs (row_none W) h2 HPF.out (.inl rfl) (by omega) (by omega)).mono ?_
    rintro e w' ⟨⟨a', n', c', rfl, h3⟩, h4⟩
    rw [hR] at h3 ⊢
    obtain rfl : n' = nz := by rw [← hnz]; exact h3.len.symm
    exact ⟨⟨a', c', rfl, h3.row⟩, h4⟩)
  have HSP : Hid (∀ W, plSh.Row W b m fs → Calls Tryz.prog 8 #[.agg #[.slice none 0 0, .int .i64 0, .int .i64 0], .slice b m capb] W fun e w' => (∃ a' c', e = .returned (.agg #[.slice a' nz c', .int .i64 gla, .int .i64 gco]) ∧ entSh.Row w' a' nz gz) ∧ Below W.heap.size W w') := hide (fun W h2 => by
    refine (specReg_any W none b 0 0 m capb ⟨[], 0, 0⟩ fs (row_none W) h2 HPF.out (fun _ => rfl) (by omega) (by omega)).mono ?_
    rintro e w' ⟨⟨a', n', c', rfl, h3⟩, h4⟩
    rw [hR] at h3 ⊢
    obtain rfl : n' = nz := by rw [← hnz]; exact h3.len.symm
    exact ⟨⟨a', c', rfl, h3.row⟩, h4⟩)
  have HNZ : Hid (nz ≤ 1048576) := hide (by
    have h1 : gz.length ≤ 20 + fs.length := by
      have h := regF_lenG ⟨[], 0, 0⟩ fs
      rw [hR] at h
      simpa using h
    omega)
  clear hR hnz
  go_wp2_with fail
  rw [← hX1]
  clear hX1
  refine (HIP.out X1 HBX1.out HRX1.out).mono ?_
  rintro e w2 ⟨⟨a2, c2, rfl, hr2⟩, hb2⟩
  obtain ⟨X2, hX2⟩ : ∃ X, X = w2.alloc (.cells #[.slice a2 nz c2, .int .i64 gla, .int .i64 gco] 26) := ⟨_, rfl⟩
  have hal : Below w2.heap.size w2 X2 := by rw [hX2]; exact al1 _ _
  have hb2' := hb2.trans (hal.mono hb2.size)
  have HBX2 := hide (HBX1.out.trans (hb2'.mono HBX1.out.size))
  have HRX2 := hide (HRX1.out.later hb2')
  have HGX2 := hide (hr2.later hal)
  have HGB2 : Hid (X2.heap[w2.heap.size]? = some (.cells #[.slice a2 nz c2, .int .i64 gla, .int .i64 gco] 26 (0, 0))) := hide (by rw [hX2]; exact heap_alloc_new _ _)
  clear hb2' hal hb2 hr2 HBX1 HRX1
  go_wp2_with fail
  rw [← hX2]
  clear hX2
  generalize w2.heap.size = gB at *
  refine (HSP.out X2 HRX2.out).mono ?_
  rintro e w3 ⟨⟨a3, c3, rfl, hr3⟩, hb3⟩
  obtain ⟨X3, hX3⟩ : ∃ X, X = w3.alloc (.cells #[.slice a3 nz c3, .int .i64 gla, .int .i64 gco] 26) := ⟨_, rfl⟩
  have hal : Below w3.heap.size w3 X3 := by rw [hX3]; exact al1 _ _
  have hb3' := hb3.trans (hal.mono hb3.size)
  have HBX3 := hide (HBX2.out.trans (hb3'.mono HBX2.out.size))
  have HRX3 := hide (HRX2.out.later hb3')
  have HGX3 := hide (HGX2.out.later hb3')
  have HHX3 := hide (hr3.later hal)
  have HGB3 := hide ((hb3'.block _ (Array.getElem?_eq_some_iff.1 HGB2.out).1).trans HGB2.out)
  have HHB3 : Hid (X3.heap[w3.heap.size]? = some (.cells #[.slice a3 nz c3, .int .i64 gla, .int .i64 gco] 26 (0, 0))) := hide (by rw [hX3]; exact heap_alloc_new _ _)
  clear hb3' hal hb3 hr3 HBX2 HRX2 HGX2 HGB2 HSP
  have HE := hide (specSame_same X3 a2 a3 nz c2 c3 gz HGX3.out HHX3.out (by have := HNZ.out; omega))
  have t1 : (gco != gco) = false := by simp
  have t2 : (gla != gla) = false := by simp
  obtain ⟨hB, hhB⟩ : ∃ q, w3.heap.size = q := ⟨_, rfl⟩
  rw [hhB] at HHB3
  obtain ⟨y0, y1, y2, -⟩ := cells3 HGB3.out
  obtain ⟨z0, z1, z2, -⟩ := cells3 HHB3.out
  rw [← hhB] at z0 z1 z2
  rw [hX3] at y0 y1 y2 z0 z1 z2
  go_wp2_with fail
  rw [← hX3]
  clear hX3 y0 y1 y2 z0 z1 z2
  try rw [hhB]
  clear hhB
  refine HE.out.mono ?_
  rintro e w4 ⟨rfl, hb4⟩
  have HB4 := hide (HBX3.out.trans (hb4.mono HBX3.out.size))
  have HR4 := hide (HRX3.out.later hb4)
  have HG4 := hide (HGX3.out.later hb4)
  have HGB4 := hide ((hb4.block _ (Array.getElem?_eq_some_iff.1 HGB3.out).1).trans HGB3.out)
  clear hb4 HE HBX3 HRX3 HGX3 HHX3 HGB3 HHB3
  go_wp2_with fail
  refine (implSealed_any w4 (HT.out.later HB4.out) b m capb fs HR4.out HPF.out (by omega)).mono ?_
  rintro e w5 ⟨⟨sa, sn, sc, rfl, hs5⟩, hb5⟩
  have HB5 := hide (HB4.out.trans (hb5.mono HB4.out.size))
  have HR5 := hide (HR4.out.later hb5)
  have HG5 := hide (HG4.out.later hb5)
  have HGB5 := hide ((hb5.block _ (Array.getElem?_eq_some_iff.1 HGB4.out).1).trans HGB4.out)
  have hsl : sn ≤ 100 := by
    have h1 := sealF_len fs fs.length
    rw [List.take_length] at h1
    have h2 := hs5.len
    omega
  have HHAS : Hid (∀ W x, Below w5.heap.size w5 W → Calls Tryz.prog 11 #[.slice sa sn sc, .int .i64 x] W fun e w' => e = .returned (.bool (decide (x ∈ sealF fs))) ∧ Below W.heap.size W w') := hide (fun W x hb => has_any W sa sn sc (sealF fs) x ((hs5.later hb (Nat.le_refl _)).row) (by omega))
  clear hb5 hs5 HB4 HR4 HG4 HGB4 t1 t2
  have HA5 := hide (al1 w5 (.cells #[] 37))
  have HO5 := hide (Shape.Own.empty plSh 37 w5)
  obtain ⟨S, hS⟩ : ∃ S, sealF fs = S := ⟨_, rfl⟩
  rw [hS] at HHAS
  have HSF := hide hS
  clear hS
  go_wp2_with fail
  go_loopw [8, 9] (fun lv iv wr => ∃ (k q qc : Nat) (lb : Option Addr) (ls : List PlaceV), k ≤ m ∧ q ≤ k ∧ iv = .int .i64 k ∧ lv = .slice lb q qc ∧ Hid (ls = lessP S (fs.take k)) ∧ Hid (plSh.Own 37 wr w5.heap.size (.slice lb q qc) ls) ∧ Hid (Below w5.heap.size w5 wr)) (fun _ i _ => m - (intOf i).toNat)
  case atStart => exact ⟨0, 0, 0, _, [], by omega, by omega, rfl, rfl, hide rfl, HO5, HA5⟩
  case round =>
    clear HA5 HO5
    obtain ⟨k, q, qc, lb, ls, hk, hqk, rfl, rfl, HL, HO, HW⟩ := hrel
    by_cases hlt : k < m
    · have hkx : k < fs.length := by omega
      obtain ⟨b', off, rfl, hbw, c0, c1, c2, c3, c4, c5, c6, c7, c8⟩ := pl_cells (HR5.out.later HW.out) k hkx
      have HSN := hide (lessP_snoc S (fs.take k) (fs[k]))
      rw [← take_snoc fs k hkx, ← HL.out] at HSN
      obtain ⟨p, hp⟩ : ∃ p, fs[k] = p := ⟨_, rfl⟩
      rw [hp] at c0 c1 c2 c3 c4 c5 c6 c7 c8 HSN
      have HPE := hide hp
      clear hp
      have hk2 : (k : Int) < (m : Int) := by omega
      obtain ⟨XR, hXR⟩ : ∃ X, X = wr.alloc (.cells #[.int .i64 p.r.kind, .int .i64 p.r.batch, .string p.r.key, .string p.r.val, .int .i64 p.r.cnt, .int .i64 p.r.sum] 35) := ⟨_, rfl⟩
      have hal : Below wr.heap.size wr XR := by rw [hXR]; exact al1 _ _
      have HRB : Hid (XR.heap[wr.heap.size]? = some (.cells #[.int .i64 p.r.kind, .int .i64 p.r.batch, .string p.r.key, .string p.r.val, .int .i64 p.r.cnt, .int .i64 p.r.sum] 35 (0, 0))) := hide (by rw [hXR]; exact heap_alloc_new _ _)
      have HBXR := hide (HW.out.trans (hal.mono HW.out.size))
      have HOXR := hide (HO.out.later hal (Nat.le_refl _))
      clear hal
      by_cases k1 : p.r.kind = 1
      · have u1 : (p.r.kind == 1) = true := by simpa using k1
        have u2 : (p.r.kind == 2) = false := by simp; omega
        have HK12 : Hid (p.r.kind = 1 ∨ p.r.kind = 2) := hide (.inl k1)
        clear k1
        go_wp2_with fail
        rw [← hXR]
        clear hXR
        refine (HHAS.out XR p.r.batch HBXR.out).mono ?_
        rintro e wH ⟨rfl, hbH⟩
        have HBH := hide (HBXR.out.trans (hbH.mono HBXR.out.size))
        have HOH := hide (HOXR.out.later hbH (Nat.le_refl _))
        obtain ⟨f0, f1, f2, f3, f4, f5⟩ := cells6s ((hbH.block _ (Array.getElem?_eq_some_iff.1 HRB.out).1).trans HRB.out)
        clear hbH
        by_cases hmem : p.r.batch ∈ S
        · rw [decide_eq_true hmem]
          obtain ⟨b2, off2, e2, hbw2, d0, d1, d2, d3, d4, d5, d6, d7, d8⟩ := pl_cells (HR5.out.later HBH.out) k hkx
          rw [HPE.out] at d0 d1 d2 d3 d4 d5 d6 d7 d8
          simp only [Option.some.injEq, Addr.mk.injEq] at e2
          obtain ⟨rfl, rfl, -⟩ := e2
          have hol := HOH.out.len
          have HKP : Hid (ls ++ [p] = lessP S (fs.take (k + 1))) := hide (by rw [HSN.out, if_neg]; rintro ⟨h1, h2⟩; exact h2 hmem)
          go_wp2_with (at_builtin; first | (refine wpList_app_pl rfl (.tmp 82) (.tmp 87) rfl p HOH.out HBH.out.size (by omega) rfl rfl rfl ?_; intro a' n' cap' w8 hn8 ho8 hb8; have HO8 := hide ho8; have HB8 := hide (HBH.out.trans hb8); clear ho8 hb8) | refine Hid.out ?g)
          obtain rfl : n' = q + 1 := by omega
          clear HOH HBH HO HW HSN HL d0 d1 d2 d3 d4 d5 d6 d7 d8 c0 c1 c2 c3 c4 c5 c6 c7 c8
          go_roundw
          case rel => exact ⟨k + 1, q + 1, cap', a', _, by omega, by omega, by go_num, rfl, HKP, HO8, HB8⟩
          case measure => first | (simp [intOf]; done) | (simp [intOf]; omega)
        · rw [decide_eq_false hmem]
          have HKP : Hid (ls = lessP S (fs.take (k + 1))) := hide (by rw [HSN.out, if_pos]; exact ⟨HK12.out, hmem⟩)
          go_wp2
          clear HBXR HOXR HO HW HSN HL c0 c1 c2 c3 c4 c5 c6 c7 c8
          go_roundw
          case rel => exact ⟨k + 1, q, qc, lb, ls, by omega, by omega, by go_num, rfl, HKP, HOH, HBH⟩
          case measure => first | (simp [intOf]; done) | (simp [intOf]; omega)
      · have u1 : (p.r.kind == 1) = false := by simpa using k1
        by_cases k2 : p.r.kind = 2
        · have u2 : (p.r.kind == 2) = true := by simpa using k2
          have HK12 : Hid (p.r.kind = 1 ∨ p.r.kind = 2) := hide (.inr k2)
          clear k2 k1
          go_wp2_with fail
          rw [← hXR]
          clear hXR
          refine (HHAS.out XR p.r.batch HBXR.out).mono ?_
          rintro e wH ⟨rfl, hbH⟩
          have HBH := hide (HBXR.out.trans (hbH.mono HBXR.out.size))
          have HOH := hide (HOXR.out.later hbH (Nat.le_refl _))
          obtain ⟨f0, f1, f2, f3, f4, f5⟩ := cells6s ((hbH.block _ (Array.getElem?_eq_some_iff.1 HRB.out).1).trans HRB.out)
          clear hbH
          by_cases hmem : p.r.batch ∈ S
          · rw [decide_eq_true hmem]
            obtain ⟨b2, off2, e2, hbw2, d0, d1, d2, d3, d4, d5, d6, d7, d8⟩ := pl_cells (HR5.out.later HBH.out) k hkx
            rw [HPE.out] at d0 d1 d2 d3 d4 d5 d6 d7 d8
            simp only [Option.some.injEq, Addr.mk.injEq] at e2
            obtain ⟨rfl, rfl, -⟩ := e2
            have hol := HOH.out.len
            have HKP : Hid (ls ++ [p] = lessP S (fs.take (k + 1))) := hide (by rw [HSN.out, if_neg]; rintro ⟨h1, h2⟩; exact h2 hmem)
            go_wp2_with (at_builtin; first | (refine wpList_app_pl rfl (.tmp 82) (.tmp 87) rfl p HOH.out HBH.out.size (by omega) rfl rfl rfl ?_; intro a' n' cap' w8 hn8 ho8 hb8; have HO8 := hide ho8; have HB8 := hide (HBH.out.trans hb8); clear ho8 hb8) | refine Hid.out ?g)
            obtain rfl : n' = q + 1 := by omega
            clear HOH HBH HO HW HSN HL d0 d1 d2 d3 d4 d5 d6 d7 d8 c0 c1 c2 c3 c4 c5 c6 c7 c8
            go_roundw
            case rel => exact ⟨k + 1, q + 1, cap', a', _, by omega, by omega, by go_num, rfl, HKP, HO8, HB8⟩
            case measure => first | (simp [intOf]; done) | (simp [intOf]; omega)
          · rw [decide_eq_false hmem]
            have HKP : Hid (ls = lessP S (fs.take (k + 1))) := hide (by rw [HSN.out, if_pos]; exact ⟨HK12.out, hmem⟩)
            go_wp2
            clear HBXR HOXR HO HW HSN HL c0 c1 c2 c3 c4 c5 c6 c7 c8
            go_roundw
            case rel => exact ⟨k + 1, q, qc, lb, ls, by omega, by omega, by go_num, rfl, HKP, HOH, HBH⟩
            case measure => first | (simp [intOf]; done) | (simp [intOf]; omega)
        · have u2 : (p.r.kind == 2) = false := by simpa using k2
          obtain ⟨f0, f1, f2, f3, f4, f5⟩ := cells6s HRB.out
          rw [hXR] at f0 f1 f2 f3 f4 f5
          obtain ⟨b2, off2, e2, hbw2, d0, d1, d2, d3, d4, d5, d6, d7, d8⟩ := pl_cells (HR5.out.later HBXR.out) k hkx
          rw [HPE.out] at d0 d1 d2 d3 d4 d5 d6 d7 d8
          simp only [Option.some.injEq, Addr.mk.injEq] at e2
          obtain ⟨rfl, rfl, -⟩ := e2
          have hol := HOXR.out.len
          have HKP : Hid (ls ++ [p] = lessP S (fs.take (k + 1))) := hide (by rw [HSN.out, if_neg]; rintro ⟨h1, h2⟩; rcases h1 with h1 | h1; exact k1 h1; exact k2 h1)
          go_wp2_with (at_builtin; first | (rw [← hXR]; refine wpList_app_pl rfl (.tmp 82) (.tmp 87) rfl p HOXR.out HBXR.out.size (by omega) rfl rfl (by rw [hXR]; simp) ?_; intro a' n' cap' w8 hn8 ho8 hb8; clear hXR; have HO8 := hide ho8; have HB8 := hide (HBXR.out.trans hb8); clear ho8 hb8) | refine Hid.out ?g)
          obtain rfl : n' = q + 1 := by omega
          clear HOXR HBXR HO HW HSN HL d0 d1 d2 d3 d4 d5 d6 d7 d8 c0 c1 c2 c3 c4 c5 c6 c7 c8
          go_roundw
          case rel => exact ⟨k + 1, q + 1, cap', a', _, by omega, by omega, by go_num, rfl, HKP, HO8, HB8⟩
          case measure => first | (simp [intOf]; done) | (simp [intOf]; omega)
    · obtain rfl : k = m := by omega
      have HLQ : Hid (ls = lessP S fs) := hide (by have := HL.out; rwa [List.take_of_length_le (by omega)] at this)
      have hqm : q ≤ 100 := by omega
      have hql := HO.out.len
      have HRW := hide HO.out.row
      have HBW := hide (HB5.out.trans (HW.out.mono HB5.out.size))
      have HGW := hide (HG5.out.later HW.out)
      have HGBW := hide ((HW.out.block _ (Array.getElem?_eq_some_iff.1 HGB5.out).1).trans HGB5.out)
      have HHW : Hid (∀ W x, Below wr.heap.size wr W → Calls Tryz.prog 11 #[.slice sa sn sc, .int .i64 x] W fun e w' => e = .returned (.bool (decide (x ∈ S))) ∧ Below W.heap.size W w') := hide (fun W x hb => HHAS.out W x (HW.out.trans (hb.mono HW.out.size)))
      clear HL HO HW HB5 HG5 HGB5 HHAS HR5
      obtain ⟨wL, hwL⟩ : ∃ x, x = wr := ⟨_, rfl⟩
      rw [← hwL] at HRW HBW HGW HGBW HHW
      have HWL : Hid (wr = wL) := hide hwL.symm
      clear hwL
      go_wp2
      go_loopw [11] (fun iv wq => ∃ k : Nat, k ≤ q ∧ iv = .int .i64 k ∧ Hid (∀ p, p ∈ ls.take k → p.r.kind = 3 → ¬ p.r.batch ∈ S → ¬ p.r.cnt = 0) ∧ Hid (Below wL.heap.size wL wq)) (fun i _ => q - (intOf i).toNat)
      case atStart => exact ⟨0, by omega, rfl, hide (fun p hp => by simp at hp), hide (by rw [HWL.out]; exact Below.refl _ _)⟩
      case round =>
        clear HWL
        obtain ⟨k, hk, rfl, HZ, HW⟩ := hrel
        by_cases hlt : k < q
        · have hkx : k < ls.length := by omega
          obtain ⟨b', off, rfl, hbw, c0, c1, c2, c3, c4, c5, c6, c7, c8⟩ := pl_cells (HRW.out.later HW.out) k hkx
          have HSN : Hid (ls.take (k + 1) = ls.take k ++ [ls[k]]) := hide (take_snoc ls k hkx)
          obtain ⟨p, hp⟩ : ∃ p, ls[k] = p := ⟨_, rfl⟩
          rw [hp] at c0 c1 c2 c3 c4 c5 c6 c7 c8 HSN
          have HPE := hide hp
          clear hp
          have hk2 : (k : Int) < (q : Int) := by omega
          by_cases k3 : p.r.kind = 3
          · have u3 : (p.r.kind == 3) = true := by simpa using k3
            have HK3 := hide k3
            clear k3
            go_wp2_with fail
            refine (HHW.out wr p.r.batch HW.out).mono ?_
            rintro e wH ⟨rfl, hbH⟩
            have HBH := hide (HW.out.trans (hbH.mono HW.out.size))
            obtain ⟨b2, off2, e2, hbw2, d0, d1, d2, d3, d4, d5, d6, d7, d8⟩ := pl_cells (HRW.out.later HBH.out) k hkx
            rw [HPE.out] at d0 d1 d2 d3 d4 d5 d6 d7 d8
            simp only [Option.some.injEq, Addr.mk.injEq] at e2
            obtain ⟨rfl, rfl, -⟩ := e2
            clear hbH HW c0 c1 c2 c3 c4 c5 c6 c7 c8
            by_cases hmem : p.r.batch ∈ S
            · rw [decide_eq_true hmem]
              have HZ2 : Hid (∀ p', p' ∈ ls.take (k + 1) → p'.r.kind = 3 → ¬ p'.r.batch ∈ S → ¬ p'.r.cnt = 0) := hide (fun p' h1 h2 h3 => by
                rw [HSN.out, List.mem_append, List.mem_singleton] at h1
                rcases h1 with h1 | rfl
                · exact HZ.out p' h1 h2 h3
                · exact absurd hmem h3)
              clear HZ HSN
              go_wp2
              go_roundw
              case rel => exact ⟨k + 1, by omega, by go_num, HZ2, HBH⟩
              case measure => first | (simp [intOf]; done) | (simp [intOf]; omega)
            · rw [decide_eq_false hmem]
              by_cases c0 : p.r.cnt = 0
              · have u4 : (p.r.cnt == 0) = true := by simpa using c0
                clear c0
                go_wp2
                go_ret
                exact ⟨rfl, HBW.out.trans (HBH.out.mono HBW.out.size)⟩
              · have u4 : (p.r.cnt == 0) = false := by simpa using c0
                have HZ2 : Hid (∀ p', p' ∈ ls.take (k + 1) → p'.r.kind = 3 → ¬ p'.r.batch ∈ S → ¬ p'.r.cnt = 0) := hide (fun p' h1 h2 h3 => by
                  rw [HSN.out, List.mem_append, List.mem_singleton] at h1
                  rcases h1 with h1 | rfl
                  · exact HZ.out p' h1 h2 h3
                  · exact c0)
                clear c0
                clear HZ HSN
                go_wp2
                go_roundw
                case rel => exact ⟨k + 1, by omega, by go_num, HZ2, HBH⟩
                case measure => first | (simp [intOf]; done) | (simp [intOf]; omega)
          · have u3 : (p.r.kind == 3) = false := by simpa using k3
            have HZ2 : Hid (∀ p', p' ∈ ls.take (k + 1) → p'.r.kind = 3 → ¬ p'.r.batch ∈ S → ¬ p'.r.cnt = 0) := hide (fun p' h1 h2 => by
              rw [HSN.out, List.mem_append, List.mem_singleton] at h1
              rcases h1 with h1 | rfl
              · exact HZ.out p' h1 h2
              · exact absurd h2 k3)
            clear HZ HSN
            go_wp2
            go_roundw
            case rel => exact ⟨k + 1, by omega, by go_num, HZ2, HW⟩
            case measure => first | (simp [intOf]; done) | (simp [intOf]; omega)
        · obtain rfl : k = q := by omega
          have HAL : Hid (Alike (regF ⟨[], 0, 0⟩ ls) (regF ⟨[], 0, 0⟩ fs)) := hide (by
            have hz := HZ.out
            rw [List.take_of_length_le (by omega), HLQ.out] at hz
            have h := less_regF ⟨[], 0, 0⟩ fs (by rw [HSF.out]; exact hz)
            rw [HSF.out, ← HLQ.out] at h
            exact h)
          rw [HRE.out] at HAL
          obtain ⟨Q, hQ⟩ : ∃ Q, regF ⟨[], 0, 0⟩ ls = Q := ⟨_, rfl⟩
          rw [hQ] at HAL
          obtain ⟨kz, kla, kco⟩ := Q
          obtain ⟨h1, h2, h3⟩ := HAL.out
          simp only at h1 h2 h3
          subst h1
          subst h2
          have HFL : Hid (PFits ls) := hide (HPF.out.sub (fun p hp => by rw [HLQ.out] at hp; unfold lessP at hp; exact (List.mem_filter.1 hp).1))
          have HIM := hide (implReg_any wr (HT.out.later (HBW.out.trans (HW.out.mono HBW.out.size))) none lb 0 0 k qc ⟨[], 0, 0⟩ ls (row_none wr) (HRW.out.later HW.out) HFL.out (.inl rfl) (by omega) (by omega))
          rw [hQ] at HIM
          have t3 : decide (kla ≤ gla) = true := by simpa using h3
          have t4 : (kco == kco) = true := by simp
          clear hQ HAL HFL HZ HLQ HHW h3
          go_wp2_with fail
          refine HIM.out.mono ?_
          rintro e w6 ⟨⟨a6, n6, c6, rfl, hr6⟩, hb6⟩
          obtain rfl : n6 = nz := by
            have h1 := hr6.len
            have h2 := HGW.out.len
            try simp only at h1
            omega
          obtain ⟨X6, hX6⟩ : ∃ X, X = w6.alloc (.cells #[.slice a6 n6 c6, .int .i64 kla, .int .i64 kco] 26) := ⟨_, rfl⟩
          have hal : Below w6.heap.size w6 X6 := by rw [hX6]; exact al1 _ _
          have hb6' := hb6.trans (hal.mono hb6.size)
          have hW6 := HW.out.trans (hb6'.mono HW.out.size)
          have HBX6 := hide (HBW.out.trans (hW6.mono HBW.out.size))
          have HGX6 := hide (HGW.out.later hW6)
          have HGBX6 : Hid (X6.heap[gB]? = some (.cells #[.slice a2 n6 c2, .int .i64 gla, .int .i64 kco] 26 (0, 0))) := hide ((hW6.block _ (Array.getElem?_eq_some_iff.1 HGBW.out).1).trans HGBW.out)
          have HKX6 := hide (hr6.row.later hal)
          have HKBX6 : Hid (X6.heap[w6.heap.size]? = some (.cells #[.slice a6 n6 c6, .int .i64 kla, .int .i64 kco] 26 (0, 0))) := hide (by rw [hX6]; exact heap_alloc_new _ _)
          clear hb6' hal hb6 hr6 hW6 HBW HGW HGBW HW HRW HIM
          have HE := hide (specSame_same X6 a6 a2 n6 c6 c2 kz HKX6.out HGX6.out (by have := HNZ.out; omega))
          have HLT : Hid (∀ W', Below X6.heap.size X6 W' → W'.heap[gB]? = some (.cells #[.slice a2 n6 c2, .int .i64 gla, .int .i64 kco] 26 (0, 0)) ∧ W'.heap[w6.heap.size]? = some (.cells #[.slice a6 n6 c6, .int .i64 kla, .int .i64 kco] 26 (0, 0)) ∧ Below w.heap.size w W') := hide (fun W' h => ⟨(h.block _ (Array.getElem?_eq_some_iff.1 HGBX6.out).1).trans HGBX6.out, (h.block _ (Array.getElem?_eq_some_iff.1 HKBX6.out).1).trans HKBX6.out, HBX6.out.trans (h.mono HBX6.out.size)⟩)
          obtain ⟨y0, y1, y2, -⟩ := cells3 HGBX6.out
          obtain ⟨z0, z1, z2, -⟩ := cells3 HKBX6.out
          obtain ⟨kB, hkB⟩ : ∃ q, w6.heap.size = q := ⟨_, rfl⟩
          rw [hkB] at HLT
          rw [hX6] at y0 y1 y2 z0 z1 z2
          clear HGBX6 HKBX6
          go_wp2_with fail
          rw [← hX6]
          clear hX6 y0 y1 y2 z0 z1 z2
          try rw [hkB]
          clear hkB
          refine HE.out.mono ?_
          rintro e w7 ⟨rfl, hb7⟩
          obtain ⟨q1, q2, q3⟩ := HLT.out w7 hb7
          obtain ⟨y0, y1, y2, -⟩ := cells3 q1
          obtain ⟨z0, z1, z2, -⟩ := cells3 q2
          have HF := hide q3
          clear hb7 q1 q2 q3 HLT HE
          go_wp2
          go_ret
          exact ⟨rfl, HF.out⟩

set_option maxRecDepth 100000 in
set_option maxHeartbeats 2000000 in
theorem groups_big (w : World) (a : Option Addr) (len cap : Nat) (hl : 1048576 < len) :
    Calls Tryz.prog 3 #[.slice a len cap] w fun e w' => e = .returned (.bool true) ∧ Below w.heap.size w w' := by
  have hbig : decide (1048576 < len) = true := by simpa using hl
  clear hl
  go_enter Tryz.func3, Tryz.ntmps3
  go_wp2_with fail
  refine (big_any a len cap w).mono ?_
  rintro e w0 ⟨rfl, rfl⟩
  rw [hbig]
  go_wp2
  go_ret
  exact ⟨rfl, Below.refl _ _⟩

end Go.Proofs.YtphbinkkgmlnmaaGreatDoor
