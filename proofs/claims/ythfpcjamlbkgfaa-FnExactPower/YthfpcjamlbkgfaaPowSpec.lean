/-
  spec.Power.
-/
import Derived.Test.YthfpcjamlbkgfaaPowPlain
import Derived.Test.YthfpcjamlbkgfaaIntRow
import Derived.Test.YthfpcjamlbkgfaaCMid
import Derived.Test.YthfpcjamlbkgfaaDiskOkImpl
import Derived.BigQuiet
namespace Go.Proofs.Ythfpcjamlbkgfaa
open Go.RowKit
open Plain

set_option maxRecDepth 100000 in
set_option maxHeartbeats 4000000 in
theorem specPow_any (w : World) (a : Option Addr) (n cap : Nat) (fs : List FileV) (hr : FRow w 0 a n fs) (hc0 : a = none → cap = 0) (hn : n ≤ 1048576) (hz : szFs fs ≤ 1048576) (c u : Int) (d : Bool) (b : Option Addr) (m capb : Nat) (zs : List Int) (hzr : IRow w 0 b m zs) (hm : m ≤ 1099511627776) :
    Calls Try.prog 18 #[.agg #[.slice a n cap, .int .i64 c, .int .i64 u, .bool d], .slice b m capb] w fun e w' => (∃ a' cap', e = .returned (.agg #[.slice a' n cap', .int .i64 c, .int .i64 (powU fs c u), .bool (powD fs c u d)]) ∧ FOwn w' w.heap.size (.slice a' n cap') (powF fs c u zs)) ∧ Below w.heap.size w w' := by
  have hfn := hr.len
  obtain ⟨W, hW⟩ : ∃ W, W = (w.alloc (.cells #[.slice a n cap, .int .i64 c, .int .i64 u, .bool d] 26)).alloc (.cells #[.slice none 0 0, .int .i64 0, .int .i64 0, .bool false] 26) := ⟨_, rfl⟩
  have hA := alloc2 w (.cells #[.slice a n cap, .int .i64 c, .int .i64 u, .bool d] 26) (.cells #[.slice none 0 0, .int .i64 0, .int .i64 0, .bool false] 26)
  rw [← hW] at hA
  have HR := hide (hr.later hA.2.1 (Nat.le_refl _))
  have HR0 := hide hr
  have HZ := hide hzr
  obtain ⟨y0, y1, y2, y3, -⟩ := cells4 hA.2.2.1
  rw [hW] at y0 y1 y2 y3
  clear hA hr hzr
  go_enter Try.func18, Try.ntmps18
  go_wp2_with fail
  rw [← hW]
  clear y0 y1 y2 y3
  refine (specCopy_any W a n cap fs HR.out hc0 hn c u d).mono ?_
  rintro e w2 ⟨⟨a', cap', rfl, ho2⟩, hb2⟩
  obtain ⟨X, hX⟩ : ∃ X, X = w2.alloc (.cells #[.slice a' n cap', .int .i64 c, .int .i64 u, .bool d] 26) := ⟨_, rfl⟩
  have HM : Hid (CMid w X w2.heap.size a n cap c u d fs a' cap' u d fs) := hide (by subst hW; subst hX; exact CMid.start HR0.out hb2 ho2)
  have y := cells4 HM.out.box
  rw [hX] at y
  obtain ⟨y0, y1, y2, y3, -⟩ := y
  clear hW hb2 ho2 HR
  go_wp2_with fail
  clear y0 y1 y2 y3
  rw [← hX]
  clear hX
  obtain ⟨x, hx⟩ : ∃ x, w2.heap.size = x := ⟨_, rfl⟩
  rw [hx] at HM ⊢
  clear hx
  refine (specOk_any X a n cap fs HM.out.row (by omega) (by omega) c u d).mono ?_
  rintro e w3 ⟨rfl, hb3⟩
  have HM3 := hide (HM.out.later hb3)
  clear hb3 HM
  have hlo := HM3.out.lo
  by_cases q : diskOk fs c u = true
  · have HV : Hid (powF fs c u zs = powL zs 0 fs ∧ powU fs c u = -1 ∧ powD fs c u d = false) := hide (by unfold powF powU powD; rw [if_pos q, if_pos q, if_pos q]; exact ⟨rfl, rfl, rfl⟩)
    have HSF := hide (safe_of q)
    rw [q]
    obtain ⟨y0, y1, y2, y3, -⟩ := cells4 HM3.out.box
    go_wp2
    clear y0 y1 y2 y3
    go_loopw [6] (fun i wr => ∃ k : Nat, k ≤ n ∧ i = .int .i64 k ∧ Hid (CMid w wr x a n cap c u d fs a' cap' u d (powK zs fs k))) (fun i _ => n - (intOf i).toNat)
    case atStart => exact ⟨0, by omega, rfl, hide (by rw [powK_zero]; exact HM3.out)⟩
    case round =>
      clear HM3
      obtain ⟨k, hk, rfl, HM⟩ := hrel
      by_cases hlt : k < n
      · have hkf : k < fs.length := by omega
        obtain ⟨g, hg⟩ : ∃ g, a' = some ⟨g, 0, none⟩ := by
          rcases HM.out.own.2 with ⟨e, h0⟩ | ⟨g, c, cur, e, _⟩
          · have := HM.out.own.len
            simp only [Value.slice.injEq] at e
            omega
          · simp only [Value.slice.injEq] at e
            exact ⟨g, e.1⟩
        subst hg
        have hkn : (k : Int) < (n : Int) := by omega
        have hxw := HM.out.hi
        have hgx : g < x := HM.out.blk g rfl
        obtain ⟨c0, c1, c2, c3, -⟩ := cells4 HM.out.aft
        have hgk := powK_get zs fs k hkf
        have hlk : k < (powK zs fs k).length := by rw [powK_length zs fs k (by omega)]; exact hkf
        rw [List.getElem?_eq_getElem hlk] at hgk
        injection hgk with hgk
        obtain ⟨b', o', r0, -, -, r1, r2, r3⟩ := HM.out.own.row.cells k hlk
        simp only [Option.some.injEq, Addr.mk.injEq] at r0
        obtain ⟨rfl, rfl, -⟩ := r0
        rw [Nat.zero_add, hgk] at r1 r2 r3
        have hw := HM.out.own
        unfold FOwn at hw
        rw [HM.out.own.len] at hw
        have f1 := hw.frozenAt (k * 3)
        have f2 := hw.frozenAt (k * 3 + 1)
        have f3 := hw.frozenAt (k * 3 + 2)
        have hsf := HSF.out k hkf
        have htx : (fs[k]).text.size ≤ 1048576 := Nat.le_trans (text_le fs k hkf) hz
        have hkb := leftK_bd hsf (tearAt zs k)
        obtain ⟨sn, hsn⟩ : ∃ sn : Nat, (fs[k]).safe = (sn : Int) := ⟨(fs[k]).safe.toNat, by omega⟩
        have hxf : x ≠ wr.heap.size := by omega
        have hgf : g ≠ wr.heap.size := by omega
        have hzl := HZ.out.len
        have hA : ∀ o : Obj, Below wr.heap.size wr (wr.alloc o) := fun o => (Below.refl _ _).alloc (Nat.le_refl _) _
        have hgw : g < wr.heap.size := by omega
        have HA := hide hA
        clear hw hgk hlk hA
        by_cases h0 : 0 < m ∧ 0 ≤ zs.getD (k % m) 0
        · obtain ⟨h1, h2⟩ := h0
          have hlm : k % m < zs.length := by have := Nat.mod_lt k h1; omega
          obtain ⟨b2, o2, rfl, -, hb2, z1⟩ := (HZ.out.later HM.out.bel (Nat.le_refl _)).cells (k % m) hlm
          obtain ⟨Z, hZ⟩ : ∃ Z, zs[k % m] = Z := ⟨_, rfl⟩
          have hT : tearAt zs k = Z := by
            unfold tearAt
            rw [hzl, if_neg (by omega), List.getD, List.getElem?_eq_getElem hlm, hZ]
            rw [List.getD, List.getElem?_eq_getElem hlm, hZ] at h2
            simp only [Option.getD_some] at h2 ⊢
            omega
          have hZn : 0 ≤ Z := by rw [← hT]; exact tearAt_nonneg zs k
          rw [hZ] at z1
          obtain ⟨M, hM⟩ : ∃ M, k % m = M := ⟨_, rfl⟩
          have hmod : ((k : Int) % (m : Int)) = (M : Int) := by rw [← hM]; omega
          have hMm : M < m := by rw [← hM]; exact Nat.mod_lt _ h1
          rw [hM] at z1
          have z2 : ∀ o : Obj, (wr.alloc o).cell? ⟨b2, o2 + M, none⟩ = some (.int .i64 Z) := fun o => by rw [(HA.out o).cell (p := ⟨b2, _, none⟩) hb2]; exact z1
          obtain ⟨L, hL⟩ : ∃ L : Int, ((fs[k]).text.size : Int) - (sn : Int) = L := ⟨_, rfl⟩
          rw [hT] at hkb
          have hKF : leftF (fs[k]) Z = ⟨(fs[k]).name, (fs[k]).text.extract 0 (sn + (Z % (L + 1)).toNat), (((sn + (Z % (L + 1)).toNat : Nat)) : Int)⟩ := by
            have e : leftK (fs[k]) Z = (((sn + (Z % (L + 1)).toNat : Nat)) : Int) := by
              unfold leftK looseF
              rw [hsn, hL]
              have := Int.emod_nonneg Z (b := L + 1) (by omega)
              omega
            unfold leftF
            rw [e, Int.toNat_natCast]
          have hkb2 : (((sn + (Z % (L + 1)).toNat : Nat)) : Int) ≤ ((fs[k]).text.size : Int) := by
            have h3 : (leftF (fs[k]) Z).safe ≤ ((fs[k]).text.size : Int) := hkb.2
            rw [hKF] at h3
            exact h3
          obtain ⟨Rn, hRn⟩ : ∃ Rn : Nat, Z % (L + 1) = (Rn : Int) := ⟨(Z % (L + 1)).toNat, by have := Int.emod_nonneg Z (b := L + 1) (by omega); omega⟩
          rw [hRn, Int.toNat_natCast] at hKF hkb2
          have HKF : Hid (leftF (fs[k]) (tearAt zs k) = ⟨(fs[k]).name, (fs[k]).text.extract 0 (sn + Rn), ((sn + Rn : Nat) : Int)⟩) := hide (by rw [hT]; exact hKF)
          rw [hsn] at hsf r3
          have q1 : ∀ o : Obj, (wr.alloc o).cell? ⟨g, k * 3, none⟩ = some (.string (fs[k]).name) := fun o => by rw [(HA.out o).cell (p := ⟨g, _, none⟩) hgw]; exact r1
          have q2 : ∀ o : Obj, (wr.alloc o).cell? ⟨g, k * 3 + 1, none⟩ = some (.string (fs[k]).text) := fun o => by rw [(HA.out o).cell (p := ⟨g, _, none⟩) hgw]; exact r2
          have q3 : ∀ o : Obj, (wr.alloc o).cell? ⟨g, k * 3 + 2, none⟩ = some (.int .i64 (sn : Int)) := fun o => by rw [(HA.out o).cell (p := ⟨g, _, none⟩) hgw]; exact r3
          have q4 : ∀ (o : Obj) (j : Nat), (wr.alloc o).frozen? ⟨g, j, none⟩ = wr.frozen? ⟨g, j, none⟩ := fun o j => (HA.out o).frozen (p := ⟨g, j, none⟩) hgw
          have hsl : sn + Rn ≤ (fs[k]).text.size := by omega
          have hsz := ext_size (fs[k]).text (sn + Rn) hsl
          have hw0 : IntKind.i64.wrap ((((fs[k]).text.size : Nat) : Int) - (sn : Int)) = L := by rw [hL, IntKind.wrap_i64]; omega
          have hw1 : IntKind.i64.wrap (L + 1) = L + 1 := by rw [IntKind.wrap_i64]; omega
          have hne : ((L + 1 : Int) == 0) = false := by simp; omega
          have hne2 : ¬ (L + 1 = 0) := by omega
          have htm : Z.tmod (L + 1) = (Rn : Int) := by rw [Int.tmod_eq_emod_of_nonneg hZn, hRn]
          have hw2 : IntKind.i64.wrap (Rn : Int) = (Rn : Int) := by rw [IntKind.wrap_i64]; omega
          clear hT hkb hsn h2 hZ hM hlm hzl hKF
          go_wp2
          go_region
          obtain ⟨Y, hY⟩ : ∃ Y, Y = (wr.alloc (.cells #[.string (fs[k]).name, .string (fs[k]).text, .int .i64 (sn : Int)] 35)).drew := ⟨_, rfl⟩
          have hbY : Below wr.heap.size wr Y := by rw [hY]; exact ((Below.refl _ _).alloc (Nat.le_refl _) _).drew
          have hYF : Y.heap[wr.heap.size]? = some (.cells #[.string (fs[k]).name, .string (fs[k]).text, .int .i64 (sn : Int)] 35 (0, 0)) := by rw [hY]; exact heap_alloc_new wr _
          rw [← hY]
          have HMY := hide (HM.out.later hbY)
          have p1 : Y.cell? ⟨g, k * 3, none⟩ = some (.string (fs[k]).name) := by rw [hbY.cell (p := ⟨g, _, none⟩) hgw]; exact r1
          have p2 : Y.cell? ⟨g, k * 3 + 1, none⟩ = some (.string (fs[k]).text) := by rw [hbY.cell (p := ⟨g, _, none⟩) hgw]; exact r2
          have p3 : Y.cell? ⟨g, k * 3 + 2, none⟩ = some (.int .i64 (sn : Int)) := by rw [hbY.cell (p := ⟨g, _, none⟩) hgw]; exact r3
          have p4 : Y.frozen? ⟨g, k * 3, none⟩ = false := by rw [hbY.frozen (p := ⟨g, _, none⟩) hgw]; exact f1
          have p5 : Y.frozen? ⟨g, k * 3 + 1, none⟩ = false := by rw [hbY.frozen (p := ⟨g, _, none⟩) hgw]; exact f2
          have p6 : Y.frozen? ⟨g, k * 3 + 2, none⟩ = false := by rw [hbY.frozen (p := ⟨g, _, none⟩) hgw]; exact f3
          have p7 : Y.cell? ⟨x, 0, none⟩ = some (.slice (some ⟨g, 0, none⟩) n cap') := by rw [hbY.cell (p := ⟨x, _, none⟩) hxw]; exact c0
          obtain ⟨v0, v1, v2⟩ := cells3 hYF
          have hfz : ∀ j, Y.frozen? ⟨wr.heap.size, j, none⟩ = false := fun j => by simp [World.frozen?, hYF]
          have v3 := hfz 1
          have v4 := hfz 2
          obtain ⟨fb, hfb⟩ : ∃ fb, wr.heap.size = fb := ⟨_, rfl⟩
          rw [hfb] at hxf hgf v0 v1 v2 v3 v4 hgw hxw
          rw [hfb]
          have HMZ : Hid (CMid w (put3 ((Y.setCell ⟨fb, 1, none⟩ (.string ((fs[k]).text.extract 0 (sn + Rn)))).setCell ⟨fb, 2, none⟩ (.int .i64 ((sn + Rn : Nat) : Int))) g k ⟨(fs[k]).name, (fs[k]).text.extract 0 (sn + Rn), ((sn + Rn : Nat) : Int)⟩) x a n cap c u d fs (some ⟨g, 0, none⟩) cap' u d (powK zs fs (k + 1))) := hide (by
            have h := ((HMY.out.setFar ⟨fb, 1, none⟩ (.string ((fs[k]).text.extract 0 (sn + Rn))) hxw).setFar ⟨fb, 2, none⟩ (.int .i64 ((sn + Rn : Nat) : Int)) hxw).put (g := g) rfl k (leftF (fs[k]) (tearAt zs k)) hlt
            rw [powK_succ zs fs k hkf, HKF.out] at h
            exact h)
          clear hY hbY hYF hfz HM HMY q1 q2 q3 q4 z1 z2 r1 r2 r3 f1 f2 f3 c0 c1 c2 c3 hfb HA HKF hw0 hw1 hw2 hne hne2 htm hRn hL hmod
          go_wp2
          go_roundw
          case rel => exact ⟨k + 1, by omega, by go_num, HMZ⟩
          case measure => first | (simp [intOf]; done) | (simp [intOf]; omega)
        · have hT : tearAt zs k = 0 := by
            unfold tearAt
            rw [hzl]
            split
            · rfl
            · omega
          have HKF : Hid (leftF (fs[k]) (tearAt zs k) = ⟨(fs[k]).name, (fs[k]).text.extract 0 sn, (sn : Int)⟩) := hide (by
            unfold leftF leftK
            rw [hT, hsn, Int.zero_emod, Int.add_zero, Int.toNat_natCast])
          rw [hsn] at hsf r3
          have q1 : ∀ o : Obj, (wr.alloc o).cell? ⟨g, k * 3, none⟩ = some (.string (fs[k]).name) := fun o => by rw [(HA.out o).cell (p := ⟨g, _, none⟩) hgw]; exact r1
          have q2 : ∀ o : Obj, (wr.alloc o).cell? ⟨g, k * 3 + 1, none⟩ = some (.string (fs[k]).text) := fun o => by rw [(HA.out o).cell (p := ⟨g, _, none⟩) hgw]; exact r2
          have q3 : ∀ o : Obj, (wr.alloc o).cell? ⟨g, k * 3 + 2, none⟩ = some (.int .i64 (sn : Int)) := fun o => by rw [(HA.out o).cell (p := ⟨g, _, none⟩) hgw]; exact r3
          have q4 : ∀ (o : Obj) (j : Nat), (wr.alloc o).frozen? ⟨g, j, none⟩ = wr.frozen? ⟨g, j, none⟩ := fun o j => (HA.out o).frozen (p := ⟨g, j, none⟩) hgw
          have HMZ : Hid (∀ o : Obj, CMid w ((put3 wr g k ⟨(fs[k]).name, (fs[k]).text.extract 0 sn, (sn : Int)⟩).alloc o) x a n cap c u d fs (some ⟨g, 0, none⟩) cap' u d (powK zs fs (k + 1))) := hide (fun o => by
            have h := (HM.out.put (g := g) rfl k (leftF (fs[k]) (tearAt zs k)) hlt).later ((Below.refl _ _).alloc (Nat.le_refl _) o)
            rw [powK_succ zs fs k hkf, HKF.out] at h
            exact h)
          have hsl : sn ≤ (fs[k]).text.size := by omega
          have hsz := ext_size (fs[k]).text sn hsl
          clear hT hkb hsn
          by_cases h1 : 0 < m
          · have hlm : k % m < zs.length := by have := Nat.mod_lt k h1; omega
            obtain ⟨b2, o2, rfl, -, hb2, z1⟩ := (HZ.out.later HM.out.bel (Nat.le_refl _)).cells (k % m) hlm
            obtain ⟨Z, hZ⟩ : ∃ Z, zs[k % m] = Z := ⟨_, rfl⟩
            have hZn : Z < 0 := by
              rw [List.getD, List.getElem?_eq_getElem hlm, hZ] at h0
              simp only [Option.getD_some] at h0
              omega
            rw [hZ] at z1
            obtain ⟨M, hM⟩ : ∃ M, k % m = M := ⟨_, rfl⟩
            have hmod : ((k : Int) % (m : Int)) = (M : Int) := by rw [← hM]; omega
            have hMm : M < m := by rw [← hM]; exact Nat.mod_lt _ h1
            rw [hM] at z1
            have z2 : ∀ o : Obj, (wr.alloc o).cell? ⟨b2, o2 + M, none⟩ = some (.int .i64 Z) := fun o => by rw [(HA.out o).cell (p := ⟨b2, _, none⟩) hb2]; exact z1
            clear h0 hZ hM hlm hzl
            go_wp2
            go_roundw
            case rel => exact ⟨k + 1, by omega, by go_num, hide (HMZ.out _)⟩
            case measure => first | (simp [intOf]; done) | (simp [intOf]; omega)
          · obtain rfl : m = 0 := by omega
            clear h0 hzl
            go_wp2
            go_roundw
            case rel => exact ⟨k + 1, by omega, by go_num, hide (HMZ.out _)⟩
            case measure => first | (simp [intOf]; done) | (simp [intOf]; omega)
      · obtain rfl : k = n := by omega
        have HMK : Hid (CMid w wr x a k cap c u d fs a' cap' u d (powL zs 0 fs)) := hide (by
          have h := HM.out
          rw [← hfn, powK_all, hfn] at h
          exact h)
        clear HM
        obtain ⟨b0, b1, b2, b3, k0, k1, k2, k3⟩ := cells4 HMK.out.res
        obtain ⟨c0, c1, c2, c3, l0, l1, l2, l3⟩ := cells4 HMK.out.aft
        go_wp2
        have HF := hide ((HMK.out.setFuel (-1)).setDown false)
        refine bodyPost_ret (v := .agg #[.slice a' k cap', .int .i64 c, .int .i64 (-1), .bool false]) (by simp [results, Try.results18, go_sem, *]) rfl ⟨⟨a', cap', by rw [HV.out.2.1, HV.out.2.2], ?_⟩, ?_⟩
        · rw [HV.out.1]
          exact (HF.out.fin _ _ _ _).1
        · exact (HF.out.fin _ _ _ _).2
  · have q' : diskOk fs c u = false := by simpa using q
    have HV : Hid (powF fs c u zs = fs ∧ powU fs c u = u ∧ powD fs c u d = d) := hide (by unfold powF powU powD; rw [if_neg q, if_neg q, if_neg q]; exact ⟨rfl, rfl, rfl⟩)
    rw [q']
    obtain ⟨b0, b1, b2, b3, k0, k1, k2, k3⟩ := cells4 HM3.out.res
    obtain ⟨c0, c1, c2, c3, l0, l1, l2, l3⟩ := cells4 HM3.out.aft
    go_wp2
    refine bodyPost_ret (v := .agg #[.slice a' n cap', .int .i64 c, .int .i64 u, .bool d]) (by simp [results, Try.results18, go_sem, *]) rfl ⟨⟨a', cap', by rw [HV.out.2.1, HV.out.2.2], ?_⟩, ?_⟩
    · rw [HV.out.1]
      exact (HM3.out.fin _ _ _ _).1
    · exact (HM3.out.fin _ _ _ _).2

end Go.Proofs.Ythfpcjamlbkgfaa
