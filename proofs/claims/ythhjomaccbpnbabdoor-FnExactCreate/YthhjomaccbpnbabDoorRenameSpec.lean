/-
  spec.Rename: a file has another name, in the place of the one that had it.
-/
import Derived.Test.YthhjomaccbpnbabDoorRemoveSpec
namespace Go.Proofs.YthhjomaccbpnbabDoor
open Go.RowKit
open Plain

/-- Without the file of that name, if any. -/
def dropF (fs : List FileV) (nm : ByteArray) : List FileV := if findF fs nm < 0 then fs else fs.eraseIdx (findF fs nm).toNat
def ren2 (fs : List FileV) (k : Nat) (f : FileV) : List FileV := insF (dropF (fs.eraseIdx k) f.name) f
/-- What Rename answers: the files, and the code. -/
def renF (fs : List FileV) (c u : Int) (d : Bool) (nm to : ByteArray) : List FileV × Int :=
  if begC fs c u d = 0 then
    (if nameOk to = true then (if findF fs nm < 0 then (fs, 3) else if nm = to then (fs, 0) else
      (ren2 fs (findF fs nm).toNat ⟨to, (fs.getD (findF fs nm).toNat zeroF).text, (fs.getD (findF fs nm).toNat zeroF).safe⟩, 0)) else (fs, 5))
  else (fs, begC fs c u d)

set_option maxRecDepth 100000 in
set_option maxHeartbeats 2000000 in
theorem specRename_some (w : World) (ad : Addr) (n cap : Nat) (fs : List FileV) (hr : FRow w 0 (some ad) n fs) (hn : n ≤ 1048576) (hz : szFs fs ≤ 1048576) (c u : Int) (d : Bool) (hu : -9223372036854775808 ≤ u) (hu2 : u ≤ 9223372036854775807) (nm to : ByteArray) (hnm : to.size ≤ 1048576) :
    Calls Tryd.prog 20 #[.agg #[.slice (some ad) n cap, .int .i64 c, .int .i64 u, .bool d], .string nm, .string to] w fun e w' => (∃ a' cap', e = .returned (.tuple #[.agg #[.slice a' (renF fs c u d nm to).1.length cap', .int .i64 c, .int .i64 (begU fs c u d), .bool (begD fs c u d)], .int .i64 (renF fs c u d nm to).2]) ∧ FOwn w' w.heap.size (.slice a' (renF fs c u d nm to).1.length cap') (renF fs c u d nm to).1) ∧ Below w.heap.size w w' := by
  have hfn := hr.len
  obtain ⟨W, hW⟩ : ∃ W, W = (w.alloc (.cells #[.slice (some ad) n cap, .int .i64 c, .int .i64 u, .bool d] 28)).alloc (.cells #[.slice none 0 0, .int .i64 0, .int .i64 0, .bool false] 28) := ⟨_, rfl⟩
  have hA := alloc2 w (.cells #[.slice (some ad) n cap, .int .i64 c, .int .i64 u, .bool d] 28) (.cells #[.slice none 0 0, .int .i64 0, .int .i64 0, .bool false] 28)
  rw [← hW] at hA
  have HS := hide hA.1
  have HB0 := hide hA.2.1
  have HC0 := hide hA.2.2.1
  have HC1 := hide hA.2.2.2
  clear hA
  have HR := hide (hr.later HB0.out (Nat.le_refl _))
  clear hr
  go_enter Tryd.func20, Tryd.ntmps20
  go_wp2_with fail
  rw [← hW]
  clear hW
  refine (specBegin_some W ad n cap fs HR.out hn hz c u d hu hu2).mono ?_
  rintro e w2 ⟨⟨a', cap', rfl, ho2⟩, hb2⟩
  obtain ⟨U, hU⟩ : ∃ U, begU fs c u d = U := ⟨_, rfl⟩
  obtain ⟨D, hD⟩ : ∃ D, begD fs c u d = D := ⟨_, rfl⟩
  obtain ⟨C, hC⟩ : ∃ C, begC fs c u d = C := ⟨_, rfl⟩
  rw [hU, hD, hC]
  have HU := hide hU
  have HD := hide hD
  have HC := hide hC
  clear hU hD hC
  obtain ⟨X, hX⟩ : ∃ X, X = w2.alloc (.cells #[.slice a' n cap', .int .i64 c, .int .i64 U, .bool D] 28) := ⟨_, rfl⟩
  have hsz2 : w.heap.size + 2 ≤ w2.heap.size := by have := HS.out; have := hb2.size; omega
  have HBX : Hid (Below w2.heap.size w2 X) := hide (by rw [hX]; exact (Below.refl _ _).alloc (Nat.le_refl _) _)
  have HXS : Hid (X.heap.size = w2.heap.size + 1) := hide (by rw [hX]; simp)
  have HCX : Hid (X.heap[w2.heap.size]? = some (.cells #[.slice a' n cap', .int .i64 c, .int .i64 U, .bool D] 28 (0, 0))) := hide (by rw [hX]; exact heap_alloc_new w2 _)
  have HD0 : Hid (X.heap[w.heap.size]? = some (.cells #[.slice (some ad) n cap, .int .i64 c, .int .i64 u, .bool d] 28 (0, 0))) := hide (((HBX.out.block _ (by omega)).trans (hb2.block _ (by have := HS.out; omega))).trans HC0.out)
  have HD1 : Hid (X.heap[w.heap.size + 1]? = some (.cells #[.slice none 0 0, .int .i64 0, .int .i64 0, .bool false] 28 (0, 0))) := hide (((HBX.out.block _ (by omega)).trans (hb2.block _ (by have := HS.out; omega))).trans HC1.out)
  have HBK : Hid (∀ g, (Value.slice a' n cap').ownBlock = some g → w.heap.size + 2 ≤ g ∧ g < w2.heap.size) := hide (fun g hg => by have h := ho2.blk g hg; have := HS.out; omega)
  have HOX : Hid (FOwn X (w.heap.size + 2) (.slice a' n cap') fs) := hide ((ho2.later HBX.out (Nat.le_refl _)).mono (by have := HS.out; omega))
  have HBW := hide (hb2.trans (HBX.out.mono hb2.size))
  have HRX := hide (HR.out.later HBW.out (Nat.le_refl _))
  have HB3 := hide (HB0.out.trans (HBW.out.mono HB0.out.size))
  clear hb2 ho2 HC0 HC1 HR HB0 HBX HBW HS
  by_cases q0 : C = 0
  · subst q0
    have hx0 := cells4 HD0.out
    have hx1 := cells4 HD1.out
    have hxx := cells4 HCX.out
    go_wp2_with fail
    rw [← hX]
    clear hX
    refine (specName_any to X (by omega)).mono ?_
    rintro e w3 ⟨rfl, rfl⟩
    obtain ⟨x, hx⟩ : ∃ x, w2.heap.size = x := ⟨_, rfl⟩
    rw [hx] at HCX HXS hsz2 HBK hxx
    rw [hx]
    have HVL : Hid (fs.length = n) := hide hfn
    by_cases qn : nameOk to = true
    · rw [qn]
      obtain ⟨y0, y1, y2, y3, -, -, -, -⟩ := hx0
      go_wp2_with fail
      clear y0 y1 y2 y3 hx1 hxx
      refine (specFind_any X (some ad) n cap fs HRX.out (by omega) c u d nm).mono ?_
      rintro e w4 ⟨rfl, hb4⟩
      obtain ⟨a0, a1, a2, a3, -, -, -, -⟩ := cells4 ((hb4.block _ (by have := HXS.out; omega)).trans HD0.out)
      obtain ⟨b0, b1, b2, b3, k0, k1, k2, k3⟩ := cells4 ((hb4.block _ (by have := HXS.out; omega)).trans HD1.out)
      obtain ⟨c0, c1, c2, c3, l0, l1, l2, l3⟩ := cells4 ((hb4.block _ (by have := HXS.out; omega)).trans HCX.out)
      have HW1 := hide ((hb4.block _ (by have := HXS.out; omega)).trans HD1.out)
      have HWX := hide ((hb4.block _ (by have := HXS.out; omega)).trans HCX.out)
      have hx4 : x + 1 ≤ w4.heap.size := by have := HXS.out; have := hb4.size; omega
      have HO4 := hide (HOX.out.later hb4 (Nat.le_refl _))
      have HR4 := hide (HRX.out.later hb4 (Nat.le_refl _))
      have HB4 := hide (HB3.out.trans (hb4.mono HB3.out.size))
      clear hb4 HD0 HD1 HCX HXS HOX HB3 HRX hx
      by_cases q1 : findF fs nm < 0
      · have t1 : decide (findF fs nm < 0) = true := by simpa using q1
        have HV : Hid (renF fs c u d nm to = (fs, 3)) := hide (by unfold renF; rw [if_pos HC.out, if_pos qn, if_pos q1])
        clear q1
        go_wp2
        refine bodyPost_ret (v := .tuple #[.agg #[.slice a' n cap', .int .i64 c, .int .i64 U, .bool D], .int .i64 3]) (by simp [results, Tryd.results20, go_sem, *]) rfl ⟨⟨a', cap', by rw [HV.out, HU.out, HD.out, HVL.out], ?_⟩, ?_⟩
        · rw [HV.out]
          dsimp only
          rw [HVL.out]
          refine FOwn.mono ?_ (Nat.le_add_right _ 2)
          iterate 4 (refine FOwn.setNe ?_ _ _ (by intro q; have := HBK.out _ q; dsimp only at this; omega))
          exact HO4.out
        · iterate 4 (refine Below.setCell ?_ (by dsimp only; omega) _)
          exact HB4.out
      · obtain ⟨k, hk, hkl⟩ := findF_lt fs nm q1
        by_cases q2 : nm = to
        · have t2 := str_eq _ _ q2
          have HV : Hid (renF fs c u d nm to = (fs, 0)) := hide (by unfold renF; rw [if_pos HC.out, if_pos qn, if_neg q1, if_pos q2])
          have hkz : decide ((k : Int) < 0) = false := by simp
          rw [hk]
          clear q1 q2 hk
          go_wp2
          refine bodyPost_ret (v := .tuple #[.agg #[.slice a' n cap', .int .i64 c, .int .i64 U, .bool D], .int .i64 0]) (by simp [results, Tryd.results20, go_sem, *]) rfl ⟨⟨a', cap', by rw [HV.out, HU.out, HD.out, HVL.out], ?_⟩, ?_⟩
          · rw [HV.out]
            dsimp only
            rw [HVL.out]
            refine FOwn.mono ?_ (Nat.le_add_right _ 2)
            iterate 4 (refine FOwn.setNe ?_ _ _ (by intro q; have := HBK.out _ q; dsimp only at this; omega))
            exact HO4.out
          · iterate 4 (refine Below.setCell ?_ (by dsimp only; omega) _)
            exact HB4.out
        · have t2 := str_ne _ _ q2
          have hkz : decide ((k : Int) < 0) = false := by simp
          have hgd : fs.getD k zeroF = fs[k] := by simp [List.getD, hkl]
          have HV : Hid (renF fs c u d nm to = (ren2 fs k ⟨to, (fs[k]).text, (fs[k]).safe⟩, 0)) := hide (by unfold renF; rw [if_pos HC.out, if_pos qn, if_neg q1, if_neg q2, hk, Int.toNat_natCast, hgd])
          rw [hk]
          clear q1 q2 hk hgd
          obtain ⟨b, off, hab, -, hbw, e1, e2, e3⟩ := HR4.out.cells k hkl
          injection hab with hab
          subst hab
          have hkn : (k : Int) < (n : Int) := by omega
          obtain ⟨g, hg⟩ : ∃ g, a' = some ⟨g, 0, none⟩ := by
            rcases HO4.out.2 with ⟨e, h0⟩ | ⟨g, c, cur, e, _⟩
            · simp only [Value.slice.injEq] at e; omega
            · simp only [Value.slice.injEq] at e
              exact ⟨g, e.1⟩
          subst hg
          have hcc := HO4.out.cap
          obtain ⟨V, hV⟩ : ∃ V, V = w4.alloc (.cells #[.string to, .string (fs[k]).text, .int .i64 (fs[k]).safe] 45) := ⟨_, rfl⟩
          have hbV : Below w4.heap.size w4 V := by rw [hV]; exact (Below.refl _ _).alloc (Nat.le_refl _) _
          have zV : V.heap.size = w4.heap.size + 1 := by rw [hV]; simp
          have HF : Hid (V.heap[w4.heap.size]? = some (.cells #[.string to, .string (fs[k]).text, .int .i64 (fs[k]).safe] 45 (0, 0))) := hide (by rw [hV]; exact heap_alloc_new w4 _)
          have HV1 := hide ((hbV.block _ (by omega)).trans HW1.out)
          have HVX := hide ((hbV.block _ (by omega)).trans HWX.out)
          have HOV := hide (HO4.out.later hbV (Nat.le_refl _))
          have HBV := hide (HB4.out.trans (hbV.mono HB4.out.size))
          have y := cells4 HVX.out
          rw [hV] at y
          obtain ⟨y0, -⟩ := y
          clear HO4 HB4 HW1 HWX HR4 hbV
          go_wp2_with fail
          clear y0 a0 a1 a2 a3 b0 b1 b2 b3 k0 k1 k2 k3 c0 c1 c2 c3 l0 l1 l2 l3 e1 e2 e3
          rw [← hV]
          clear hV
          obtain ⟨F, hF⟩ : ∃ F, w4.heap.size = F := ⟨_, rfl⟩
          rw [hF] at HF hx4 hbw zV
          rw [hF]
          clear hF
          refine (specWithout_any V g n cap' fs HOV.out.row.base0 hn hcc k (by omega)).mono ?_
          rintro e w5 ⟨⟨a5, cap5, rfl, ho5⟩, hb5⟩
          have HBK5 : Hid (∀ g, (Value.slice a5 (n - 1) cap5).ownBlock = some g → F + 1 ≤ g) := hide (fun g hg => by rw [← zV]; exact (ho5.blk g hg).1)
          have s5 : F + 1 ≤ w5.heap.size := by rw [← zV]; exact hb5.size
          have H5X := hide ((hb5.block x (by omega)).trans HVX.out)
          have H51 := hide ((hb5.block (w.heap.size + 1) (by omega)).trans HV1.out)
          have H5F := hide ((hb5.block F (by omega)).trans HF.out)
          have HB5 := hide (HBV.out.trans (hb5.mono HBV.out.size))
          have HO5 : Hid (FOwn w5 (F + 1) (.slice a5 (n - 1) cap5) (fs.eraseIdx k)) := hide (by rw [zV] at ho5; exact ho5)
          clear ho5 hb5 HOV HBV HV1 HVX HF zV
          obtain ⟨c0, c1, c2, c3, l0, -, -, -⟩ := cells4 H5X.out
          obtain ⟨Y, hY⟩ : ∃ Y, Y = w5.setCell ⟨x, 0, none⟩ (.slice a5 (n - 1) cap5) := ⟨_, rfl⟩
          have HYX : Hid (Y.heap[x]? = some (.cells #[(.slice a5 (n - 1) cap5), .int .i64 c, .int .i64 U, .bool D] 28 (0, 0))) := hide (by rw [hY, heap_setCell_same w5 x 0 _ _ _ H5X.out]; rfl)
          have HY1 : Hid (Y.heap[w.heap.size + 1]? = some (.cells #[.slice none 0 0, .int .i64 0, .int .i64 0, .bool false] 28 (0, 0))) := hide (by rw [hY]; exact (Below.heap_setCell w5 _ _ _ (by dsimp only; omega)).trans H51.out)
          have HYF : Hid (Y.heap[F]? = some (.cells #[.string to, .string (fs[k]).text, .int .i64 (fs[k]).safe] 45 (0, 0))) := hide (by rw [hY]; exact (Below.heap_setCell w5 _ _ _ (by dsimp only; omega)).trans H5F.out)
          have HOY : Hid (FOwn Y (F + 1) (.slice a5 (n - 1) cap5) (fs.eraseIdx k)) := hide (by rw [hY]; exact HO5.out.setNe _ _ (by intro q; have := HBK5.out _ q; dsimp only at this; omega))
          have HBY : Hid (Below w.heap.size w Y) := hide (by rw [hY]; exact HB5.out.setCell (by dsimp only; omega) _)
          have sY : F + 1 ≤ Y.heap.size := by rw [hY]; simpa [World.setCell] using s5
          have y := cells4 HYX.out
          rw [hY] at y
          obtain ⟨y0, y1, y2, y3, -⟩ := y
          go_wp2_with fail
          clear y0 y1 y2 y3 c0 c1 c2 c3 l0
          rw [← hY]
          clear hY H5X H51 H5F HO5 HB5
          have hel : (fs.eraseIdx k).length = n - 1 := by rw [List.length_eraseIdx, if_pos hkl, hfn]
          refine (specFind_any Y a5 (n - 1) cap5 (fs.eraseIdx k) HOY.out.row.base0 (by omega) c U D to).mono ?_
          rintro e w6 ⟨rfl, hb6⟩
          have H6X := hide ((hb6.block x (by omega)).trans HYX.out)
          have H61 := hide ((hb6.block (w.heap.size + 1) (by omega)).trans HY1.out)
          have H6F := hide ((hb6.block F (by omega)).trans HYF.out)
          have HO6 := hide (HOY.out.later hb6 (Nat.le_refl _))
          have HB6 := hide (HBY.out.trans (hb6.mono HBY.out.size))
          have s6 : F + 1 ≤ w6.heap.size := Nat.le_trans sY hb6.size
          clear hb6 HYX HY1 HYF HOY HBY
          obtain ⟨c0, c1, c2, c3, l0, -, -, -⟩ := cells4 H6X.out
          have f0 : w6.cell? ⟨F, 0, none⟩ = some (.string to) := by rw [cell_of_row w6 _ _ _ _ _ H6F.out]; rfl
          have f1 : w6.cell? ⟨F, 1, none⟩ = some (.string (fs[k]).text) := by rw [cell_of_row w6 _ _ _ _ _ H6F.out]; rfl
          have f2 : w6.cell? ⟨F, 2, none⟩ = some (.int .i64 (fs[k]).safe) := by rw [cell_of_row w6 _ _ _ _ _ H6F.out]; rfl
          by_cases q3 : findF (fs.eraseIdx k) to < 0
          · have t3 : decide (0 ≤ findF (fs.eraseIdx k) to) = false := by simp; omega
            have HE : Hid (ren2 fs k ⟨to, (fs[k]).text, (fs[k]).safe⟩ = insF (fs.eraseIdx k) ⟨to, (fs[k]).text, (fs[k]).safe⟩) := hide (by unfold ren2 dropF; rw [if_pos q3])
            have HVL2 : Hid ((ren2 fs k ⟨to, (fs[k]).text, (fs[k]).safe⟩).length = n - 1 + 1) := hide (by rw [HE.out, insF_length, hel])
            clear q3
            go_wp2_with fail
            clear c0 c1 c2 c3 l0 f0 f1 f2
            refine (specInsert_any w6 a5 (n - 1) cap5 (fs.eraseIdx k) HO6.out.row.base0 (by omega) ⟨to, (fs[k]).text, (fs[k]).safe⟩).mono ?_
            rintro e w7 ⟨⟨a7, cap7, rfl, ho7⟩, hb7⟩
            obtain ⟨b0, b1, b2, b3, k0, k1, k2, k3⟩ := cells4 ((hb7.block (w.heap.size + 1) (by omega)).trans H61.out)
            obtain ⟨c0, c1, c2, c3, l0, -, -, -⟩ := cells4 ((hb7.block x (by omega)).trans H6X.out)
            have HBK7 : Hid (∀ g, (Value.slice a7 (n - 1 + 1) cap7).ownBlock = some g → F + 1 ≤ g) := hide (fun g hg => Nat.le_trans s6 (ho7.blk g hg).1)
            have HO7 : Hid (FOwn w7 (w.heap.size + 2) (.slice a7 (n - 1 + 1) cap7) (ren2 fs k ⟨to, (fs[k]).text, (fs[k]).safe⟩)) := hide (by rw [HE.out]; exact ho7.mono (by omega))
            have HB7 := hide (HB6.out.trans (hb7.mono HB6.out.size))
            clear ho7 hb7 HO6 HB6 H6X H61 H6F
            have HVL := HVL2
            clear HVL2
            go_wp2
            refine bodyPost_ret (v := .tuple #[.agg #[.slice a7 (n - 1 + 1) cap7, .int .i64 c, .int .i64 U, .bool D], .int .i64 0]) (by simp [results, Tryd.results20, go_sem, *]) rfl ⟨⟨a7, cap7, by rw [HV.out, HU.out, HD.out, HVL.out], ?_⟩, ?_⟩
            · rw [HV.out]
              dsimp only
              rw [HVL.out]
              refine FOwn.mono ?_ (Nat.le_add_right _ 2)
              iterate 5 (refine FOwn.setNe ?_ _ _ (by intro q; have := HBK7.out _ q; dsimp only at this; omega))
              exact HO7.out
            · iterate 5 (refine Below.setCell ?_ (by dsimp only; omega) _)
              exact HB7.out
          · have t3 : decide (0 ≤ findF (fs.eraseIdx k) to) = true := by simp; omega
            obtain ⟨j, hj, hjl⟩ := findF_lt (fs.eraseIdx k) to q3
            have HE : Hid (ren2 fs k ⟨to, (fs[k]).text, (fs[k]).safe⟩ = insF ((fs.eraseIdx k).eraseIdx j) ⟨to, (fs[k]).text, (fs[k]).safe⟩) := hide (by unfold ren2 dropF; rw [if_neg q3]; dsimp only; rw [hj, Int.toNat_natCast])
            have HVL2 : Hid ((ren2 fs k ⟨to, (fs[k]).text, (fs[k]).safe⟩).length = n - 1 - 1 + 1) := hide (by rw [HE.out, insF_length, List.length_eraseIdx, if_pos hjl, hel])
            rw [hj]
            have t3' : decide ((0 : Int) ≤ (j : Int)) = true := by simp
            clear q3 t3 hj
            obtain ⟨g5, hg5⟩ : ∃ g, a5 = some ⟨g, 0, none⟩ := by
              rcases HO6.out.2 with ⟨e, h0⟩ | ⟨g, c, cur, e, _⟩
              · simp only [Value.slice.injEq] at e; omega
              · simp only [Value.slice.injEq] at e
                exact ⟨g, e.1⟩
            subst hg5
            have hc5 := HO6.out.cap
            go_wp2_with fail
            clear c0 c1 c2 c3 l0 f0 f1 f2
            refine (specWithout_any w6 g5 (n - 1) cap5 (fs.eraseIdx k) HO6.out.row.base0 (by omega) hc5 j (by omega)).mono ?_
            rintro e w7 ⟨⟨a7, cap7, rfl, ho7⟩, hb7⟩
            have HBK7 : Hid (∀ g, (Value.slice a7 (n - 1 - 1) cap7).ownBlock = some g → F + 1 ≤ g) := hide (fun g hg => Nat.le_trans s6 (ho7.blk g hg).1)
            have s7 : F + 1 ≤ w7.heap.size := Nat.le_trans s6 hb7.size
            have H7X := hide ((hb7.block x (by omega)).trans H6X.out)
            have H71 := hide ((hb7.block (w.heap.size + 1) (by omega)).trans H61.out)
            have H7F := hide ((hb7.block F (by omega)).trans H6F.out)
            have HB7 := hide (HB6.out.trans (hb7.mono HB6.out.size))
            have HO7 : Hid (FOwn w7 (F + 1) (.slice a7 (n - 1 - 1) cap7) ((fs.eraseIdx k).eraseIdx j)) := hide (ho7.mono s6)
            clear ho7 hb7 HO6 HB6 H6X H61 H6F
            obtain ⟨c0, c1, c2, c3, l0, -, -, -⟩ := cells4 H7X.out
            obtain ⟨Y7, hY7⟩ : ∃ Y, Y = w7.setCell ⟨x, 0, none⟩ (.slice a7 (n - 1 - 1) cap7) := ⟨_, rfl⟩
            have HYX : Hid (Y7.heap[x]? = some (.cells #[(.slice a7 (n - 1 - 1) cap7), .int .i64 c, .int .i64 U, .bool D] 28 (0, 0))) := hide (by rw [hY7, heap_setCell_same w7 x 0 _ _ _ H7X.out]; rfl)
            have HY1 : Hid (Y7.heap[w.heap.size + 1]? = some (.cells #[.slice none 0 0, .int .i64 0, .int .i64 0, .bool false] 28 (0, 0))) := hide (by rw [hY7]; exact (Below.heap_setCell w7 _ _ _ (by dsimp only; omega)).trans H71.out)
            have HYF : Hid (Y7.heap[F]? = some (.cells #[.string to, .string (fs[k]).text, .int .i64 (fs[k]).safe] 45 (0, 0))) := hide (by rw [hY7]; exact (Below.heap_setCell w7 _ _ _ (by dsimp only; omega)).trans H7F.out)
            have HOY : Hid (FOwn Y7 (F + 1) (.slice a7 (n - 1 - 1) cap7) ((fs.eraseIdx k).eraseIdx j)) := hide (by rw [hY7]; exact HO7.out.setNe _ _ (by intro q; have := HBK7.out _ q; dsimp only at this; omega))
            have HBY : Hid (Below w.heap.size w Y7) := hide (by rw [hY7]; exact HB7.out.setCell (by dsimp only; omega) _)
            have sY : F + 1 ≤ Y7.heap.size := by rw [hY7]; simpa [World.setCell] using s7
            have y := cells4 HYX.out
            have f0 : Y7.cell? ⟨F, 0, none⟩ = some (.string to) := by rw [cell_of_row Y7 _ _ _ _ _ HYF.out]; rfl
            have f1 : Y7.cell? ⟨F, 1, none⟩ = some (.string (fs[k]).text) := by rw [cell_of_row Y7 _ _ _ _ _ HYF.out]; rfl
            have f2 : Y7.cell? ⟨F, 2, none⟩ = some (.int .i64 (fs[k]).safe) := by rw [cell_of_row Y7 _ _ _ _ _ HYF.out]; rfl
            rw [hY7] at y f0 f1 f2
            obtain ⟨y0, y1, y2, y3, -⟩ := y
            go_wp2_with fail
            clear y0 y1 y2 y3 c0 c1 c2 c3 l0 f0 f1 f2
            rw [← hY7]
            clear hY7 H7X H71 H7F HO7 HB7
            refine (specInsert_any Y7 a7 (n - 1 - 1) cap7 ((fs.eraseIdx k).eraseIdx j) HOY.out.row.base0 (by omega) ⟨to, (fs[k]).text, (fs[k]).safe⟩).mono ?_
            rintro e w8 ⟨⟨a8, cap8, rfl, ho8⟩, hb8⟩
            obtain ⟨b0, b1, b2, b3, k0, k1, k2, k3⟩ := cells4 ((hb8.block (w.heap.size + 1) (by omega)).trans HY1.out)
            obtain ⟨c0, c1, c2, c3, l0, -, -, -⟩ := cells4 ((hb8.block x (by omega)).trans HYX.out)
            have HBK8 : Hid (∀ g, (Value.slice a8 (n - 1 - 1 + 1) cap8).ownBlock = some g → F + 1 ≤ g) := hide (fun g hg => Nat.le_trans sY (ho8.blk g hg).1)
            have HO8 : Hid (FOwn w8 (w.heap.size + 2) (.slice a8 (n - 1 - 1 + 1) cap8) (ren2 fs k ⟨to, (fs[k]).text, (fs[k]).safe⟩)) := hide (by rw [HE.out]; exact ho8.mono (by omega))
            have HB8 := hide (HBY.out.trans (hb8.mono HBY.out.size))
            clear ho8 hb8 HOY HBY HYX HY1 HYF
            have HVL := HVL2
            clear HVL2
            go_wp2
            refine bodyPost_ret (v := .tuple #[.agg #[.slice a8 (n - 1 - 1 + 1) cap8, .int .i64 c, .int .i64 U, .bool D], .int .i64 0]) (by simp [results, Tryd.results20, go_sem, *]) rfl ⟨⟨a8, cap8, by rw [HV.out, HU.out, HD.out, HVL.out], ?_⟩, ?_⟩
            · rw [HV.out]
              dsimp only
              rw [HVL.out]
              refine FOwn.mono ?_ (Nat.le_add_right _ 2)
              iterate 5 (refine FOwn.setNe ?_ _ _ (by intro q; have := HBK8.out _ q; dsimp only at this; omega))
              exact HO8.out
            · iterate 5 (refine Below.setCell ?_ (by dsimp only; omega) _)
              exact HB8.out
    · have qn' : nameOk to = false := by simpa using qn
      have HV : Hid (renF fs c u d nm to = (fs, 5)) := hide (by unfold renF; rw [if_pos HC.out, if_neg qn])
      rw [qn']
      obtain ⟨b0, b1, b2, b3, k0, k1, k2, k3⟩ := hx1
      obtain ⟨c0, c1, c2, c3, l0, l1, l2, l3⟩ := hxx
      clear hx0
      go_wp2
      refine bodyPost_ret (v := .tuple #[.agg #[.slice a' n cap', .int .i64 c, .int .i64 U, .bool D], .int .i64 5]) (by simp [results, Tryd.results20, go_sem, *]) rfl ⟨⟨a', cap', by rw [HV.out, HU.out, HD.out, HVL.out], ?_⟩, ?_⟩
      · rw [HV.out]
        dsimp only
        rw [HVL.out]
        refine FOwn.mono ?_ (Nat.le_add_right _ 2)
        iterate 4 (refine FOwn.setNe ?_ _ _ (by intro q; have := HBK.out _ q; dsimp only at this; omega))
        exact HOX.out
      · iterate 4 (refine Below.setCell ?_ (by dsimp only; omega) _)
        exact HB3.out
  · have HV : Hid (renF fs c u d nm to = (fs, C)) := hide (by unfold renF; rw [if_neg (by rw [HC.out]; exact q0), HC.out])
    have t0 : (C == 0) = false := by simpa using q0
    have t0' : (C != 0) = true := by simpa using q0
    have hx1 := cells4 HD1.out
    rw [hX] at hx1
    obtain ⟨b0, b1, b2, b3, k0, k1, k2, k3⟩ := hx1
    have HOX' : Hid (FOwn (w2.alloc (.cells #[.slice a' n cap', .int .i64 c, .int .i64 U, .bool D] 28)) (w.heap.size + 2) (.slice a' n cap') fs) := hide (by rw [← hX]; exact HOX.out)
    have HB3' : Hid (Below w.heap.size w (w2.alloc (.cells #[.slice a' n cap', .int .i64 c, .int .i64 U, .bool D] 28))) := hide (by rw [← hX]; exact HB3.out)
    have HVL : Hid (fs.length = n) := hide hfn
    clear q0 hX
    go_wp2
    refine bodyPost_ret (v := .tuple #[.agg #[.slice a' n cap', .int .i64 c, .int .i64 U, .bool D], .int .i64 C]) (by simp [results, Tryd.results20, go_sem, *]) rfl ⟨⟨a', cap', by rw [HV.out, HU.out, HD.out, HVL.out], ?_⟩, ?_⟩
    · rw [HV.out]
      dsimp only
      rw [HVL.out]
      refine FOwn.mono ?_ (Nat.le_add_right _ 2)
      iterate 4 (refine FOwn.setNe ?_ _ _ (by intro q; have := HBK.out _ q; dsimp only at this; omega))
      exact HOX'.out
    · iterate 4 (refine Below.setCell ?_ (by dsimp only; omega) _)
      exact HB3'.out

end Go.Proofs.YthhjomaccbpnbabDoor
