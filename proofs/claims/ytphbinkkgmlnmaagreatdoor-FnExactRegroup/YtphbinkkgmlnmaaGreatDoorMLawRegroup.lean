/-
  The walk of the exact law of Regroup.
-/
import Derived.Test.YtphbinkkgmlnmaaGreatDoorMGroupLaw
import Derived.Test.YtphbinkkgmlnmaaGreatDoorMGroupS
import Derived.Test.YtphbinkkgmlnmaaGreatDoorMGroupI
import Derived.Test.YtphbinkkgmlnmaaGreatDoorG34
import Derived.Deep.RegionHeld3
namespace Go.Proofs.YtphbinkkgmlnmaaGreatDoor
open Go.RowKit
open Plain

theorem regF_len (g : GroupV) (l : List PlaceV) : (regF g l).dir.length ≤ g.dir.length + 20 + l.length := by
  have h0 : (regF g l).dir = (regL g l).dir := by unfold regF endG; split <;> rfl
  rw [h0]
  have h : ∀ k, (regL g (l.take k)).dir.length ≤ g.dir.length + 20 + l.length := by
    intro k
    induction k with
    | zero => show g.dir.length ≤ _; omega
    | succ k ih =>
      by_cases hk : k < l.length
      · rw [regL_succ g l k hk]
        have hd := regL_dir g l k
        generalize regL g (l.take k) = x at ih hd ⊢
        unfold stepG
        split
        · rename_i hc
          have hx := hd hc
          split
          · split
            · have h1 := behindP_len (ofB (l.take k) (l[k]).r.batch) x.dir
              have h2 := ofB_len (l.take k) (l[k]).r.batch
              rw [List.length_take] at h2
              show (behindP x.dir _).length ≤ _
              omega
            · exact ih
          · split
            · split
              · have h1 := behindP_len (keptP (l.take k)) x.dir
                have h2 := keptP_len (l.take k)
                rw [List.length_take] at h2
                show (behindP x.dir _).length ≤ _
                omega
              · exact ih
            · exact ih
        · exact ih
      · rw [List.take_of_length_le (by omega)]
        rw [List.take_of_length_le (by omega)] at ih
        exact ih
  have := h l.length
  rw [List.take_of_length_le (Nat.le_refl _)] at this
  exact this

set_option maxRecDepth 100000 in
set_option maxHeartbeats 8000000 in
theorem lawRegroup_walk (w : World) (ht : STab w) (a b : Option Addr) (n cap m cap' : Nat) (g : GroupV) (xs : List PlaceV) (hg : entSh.Row w a n g.dir) (hgf : EFits g.dir) (hgl : n ≤ maxLen) (hr : plSh.Row w b m xs) (hf : PFits xs) (hl : m ≤ maxLen) :
    Calls Tryz.prog 4 #[.agg #[.slice a n cap, .int .i64 g.last, .int .i64 g.code], .slice b m cap'] w fun e w' => e = .returned (.bool true) ∧ Below w.heap.size w w' := by
  obtain ⟨W0, hW0⟩ : ∃ W0, W0 = w.alloc (.cells #[.slice a n cap, .int .i64 g.last, .int .i64 g.code] 41) := ⟨_, rfl⟩
  have HA : Hid (Below w.heap.size w W0) := hide (by rw [hW0]; exact al1 w _)
  have ha0 : W0.heap[w.heap.size]? = some (.cells #[.slice a n cap, .int .i64 g.last, .int .i64 g.code] 41 (0, 0)) := by rw [hW0]; exact heap_alloc_new w _
  have HAX : Hid (∀ W, Below W0.heap.size W0 W → W.cell? ⟨w.heap.size, 0, none⟩ = some (.slice a n cap) ∧ W.cell? ⟨w.heap.size, 1, none⟩ = some (.int .i64 g.last) ∧ W.cell? ⟨w.heap.size, 2, none⟩ = some (.int .i64 g.code) ∧ Hid (Below W0.heap.size W0 W)) := hide (fun W h => by
    obtain ⟨y0, y1, y2, -⟩ := cells3 ((h.block _ (Array.getElem?_eq_some_iff.1 ha0).1).trans ha0)
    exact ⟨y0, y1, y2, hide h⟩)
  have HSG := hide (szGroup_any W0 a n cap g.dir g.last g.code (hg.later HA.out) hgf hgl 1048576 (by omega) (by omega))
  have HSP : Hid (∀ (W : World) (l : Int), Below W0.heap.size W0 W → 0 ≤ l → l ≤ 1048576 → _) := hide (fun (W : World) (l : Int) (h : Below W0.heap.size W0 W) h0 h1 => szPlaceS_any W b m cap' xs ((hr.later HA.out).later h) hf hl l h0 h1)
  have HGR := hide (hg.later HA.out)
  have HPR := hide (hr.later HA.out)
  have HPF := hide hf
  have HT := hide (ht.later HA.out)
  clear hg hgf hgl hr hf hl ht
  go_enter Tryz.func4, Tryz.ntmps4
  go_wp2_with fail
  rw [← hW0]
  clear hW0
  refine HSG.out.mono ?_
  rintro e w1 ⟨rfl, hb1⟩
  by_cases hsz : ((n + szEs g.dir : Nat) : Int) ≤ 1048576
  · rw [lessR_yes hsz]
    have hn : n ≤ 1048576 := by omega
    have d0 : decide ((1048576 : Int) - ((n + szEs g.dir : Nat) : Int) < 0) = false := by simp; omega
    have hL0 : (0 : Int) ≤ (1048576 : Int) - ((n + szEs g.dir : Nat) : Int) := by omega
    have hL1 : (1048576 : Int) - ((n + szEs g.dir : Nat) : Int) ≤ 1048576 := by omega
    generalize (1048576 : Int) - ((n + szEs g.dir : Nat) : Int) = L at *
    have HB1 := hide hb1
    clear hb1 hsz HSG
    go_wp2_with fail
    refine (HSP.out w1 L HB1.out hL0 hL1).mono ?_
    rintro e w2 ⟨rfl, hb2⟩
    have HB2 := hide (HB1.out.trans (hb2.mono HB1.out.size))
    clear hb2 HB1 HSP
    by_cases hsz2 : ((m + szPs xs : Nat) : Int) ≤ L
    · rw [lessR_yes hsz2]
      have hm : m ≤ 1048576 := by omega
      have d1 : decide (L - ((m + szPs xs : Nat) : Int) < 0) = false := by simp; omega
      generalize L - ((m + szPs xs : Nat) : Int) = L2 at *
      clear hsz2 d0 hL0 hL1
      have HTG : Hid (∀ W, Below W0.heap.size W0 W → _) := hide (fun W (h : Below W0.heap.size W0 W) => toGroup_any W a n cap g.dir g.last g.code (HGR.out.later h) hn)
      have HTP : Hid (∀ W, Below W0.heap.size W0 W → _) := hide (fun W (h : Below W0.heap.size W0 W) => toPlaceS_any W b m cap' xs (HPR.out.later h) hm)
      obtain ⟨R, hR⟩ : ∃ R, regF g xs = R := ⟨_, rfl⟩
      obtain ⟨zs, la, co⟩ := R
      obtain ⟨nz, hnz⟩ : ∃ k, zs.length = k := ⟨_, rfl⟩
      have HNZ : Hid (nz ≤ 1099511627776) := hide (by
        have h1 := regF_len g xs
        rw [hR] at h1
        have h2 := HGR.out.len
        have h3 := HPR.out.len
        simp only at h1
        omega)
      have HSP : Hid (∀ W q1 q2 c1 c2, Below W0.heap.size W0 W → entSh.Row W (some ⟨q1, 0, none⟩) n g.dir → plSh.Row W (some ⟨q2, 0, none⟩) m xs → Calls Tryz.prog 8 #[.agg #[.slice (some ⟨q1, 0, none⟩) n c1, .int .i64 g.last, .int .i64 g.code], .slice (some ⟨q2, 0, none⟩) m c2] W fun e w' => (∃ a' c', e = .returned (.agg #[.slice a' nz c', .int .i64 la, .int .i64 co]) ∧ entSh.Own 59 w' W.heap.size (.slice a' nz c') zs) ∧ Below W.heap.size W w') := hide (fun W q1 q2 c1 c2 hb h1 h2 => by
        refine (specReg_any W _ _ n c1 m c2 g xs h1 h2 HPF.out (fun e => by cases e) hn hm).mono ?_
        rintro e w' ⟨⟨a', n', c', rfl, h3⟩, h4⟩
        rw [hR] at h3 ⊢
        obtain rfl : n' = nz := by rw [← hnz]; exact h3.len.symm
        exact ⟨⟨a', c', rfl, h3⟩, h4⟩)
      have HIP : Hid (∀ W q1 q2 c1 c2, Below W0.heap.size W0 W → entSh.Row W (some ⟨q1, 0, none⟩) n g.dir → plSh.Row W (some ⟨q2, 0, none⟩) m xs → Calls Tryz.prog 7 #[.agg #[.slice (some ⟨q1, 0, none⟩) n c1, .int .i64 g.last, .int .i64 g.code], .slice (some ⟨q2, 0, none⟩) m c2] W fun e w' => (∃ a' c', e = .returned (.agg #[.slice a' nz c', .int .i64 la, .int .i64 co]) ∧ entSh.Own 59 w' W.heap.size (.slice a' nz c') zs) ∧ Below W.heap.size W w') := hide (fun W q1 q2 c1 c2 hb h1 h2 => by
        refine (implReg_any W (HT.out.later hb) _ _ n c1 m c2 g xs h1 h2 HPF.out (.inr ⟨_, rfl⟩) hn hm).mono ?_
        rintro e w' ⟨⟨a', n', c', rfl, h3⟩, h4⟩
        rw [hR] at h3 ⊢
        obtain rfl : n' = nz := by rw [← hnz]; exact h3.len.symm
        exact ⟨⟨a', c', rfl, h3⟩, h4⟩)
      clear hR hnz HT HPF HGR HPR
      obtain ⟨y0, y1, y2, -⟩ := HAX.out w2 HB2.out
      go_wp2_with fail
      clear y0 y1 y2
      refine (HTG.out w2 HB2.out).mono ?_
      rintro e w3 ⟨⟨q3, rfl, ho3⟩, hb3⟩
      have HB3 := hide (HB2.out.trans (hb3.mono HB2.out.size))
      clear HB2
      have HQ3 := hide ho3
      clear ho3 hb3
      go_wp2_with fail
      refine (HTP.out w3 HB3.out).mono ?_
      rintro e w4 ⟨rfl, ho4, hb4⟩
      have HB4 := hide (HB3.out.trans (hb4.mono HB3.out.size))
      have HQ4 := hide (HQ3.out.later hb4 (Nat.le_refl _))
      clear HB3 HQ3
      have HP4 := hide ho4
      clear ho4 hb4
      go_wp2_with fail
      refine (HSP.out w4 _ _ n m HB4.out HQ4.out.row HP4.out.row).mono ?_
      rintro e w5 ⟨⟨sa, sc, rfl, ho5⟩, hb5⟩
      have HB5 := hide (HB4.out.trans (hb5.mono HB4.out.size))
      clear HB4 HQ4 HP4
      have HS5 := hide ho5
      clear ho5 hb5
      obtain ⟨X5, hX5⟩ : ∃ X, X = w5.alloc (.cells #[.slice sa nz sc, .int .i64 la, .int .i64 co] 26) := ⟨_, rfl⟩
      have hx5 : Below w5.heap.size w5 X5 := by rw [hX5]; exact al1 _ _
      have hbx : X5.heap[w5.heap.size]? = some (.cells #[.slice sa nz sc, .int .i64 la, .int .i64 co] 26 (0, 0)) := by rw [hX5]; exact heap_alloc_new _ _
      have HBx5 := hide (HB5.out.trans (hx5.mono HB5.out.size))
      have HSx5 := hide (HS5.out.later hx5 (Nat.le_refl _))
      clear HB5 HS5
      have HSBx5 := hide hbx
      clear hbx hx5
      obtain ⟨sB, hsB⟩ : ∃ b, w5.heap.size = b := ⟨_, rfl⟩
      rw [hsB] at HSBx5
      obtain ⟨y0, y1, y2, -⟩ := HAX.out X5 HBx5.out
      rw [hX5] at y0 y1 y2
      go_wp2_with fail
      clear y0 y1 y2
      rw [← hX5]
      clear hX5
      try rw [hsB]
      clear hsB
      refine (HTG.out X5 HBx5.out).mono ?_
      rintro e w6 ⟨⟨q6, rfl, ho6⟩, hb6⟩
      have HL5 : Hid (W0.heap.size ≤ X5.heap.size) := hide HBx5.out.size
      have HSL5 := hide HSx5.out
      have HB6 := hide (HBx5.out.trans (hb6.mono HBx5.out.size))
      have HS6 := hide (HSx5.out.later hb6 (Nat.le_refl _))
      have HSB6 := hide ((hb6.block _ (Array.getElem?_eq_some_iff.1 HSBx5.out).1).trans HSBx5.out)
      clear HBx5 HSx5 HSBx5
      have HX6 := hide ho6
      clear ho6 hb6
      obtain ⟨l5, hl5⟩ : ∃ l, X5.heap.size = l := ⟨_, rfl⟩
      rw [hl5] at HX6 HL5
      have HX5l : Hid (X5.heap.size ≤ l5) := hide (by rw [hl5]; exact Nat.le_refl _)
      clear hl5
      obtain ⟨X6, hX6⟩ : ∃ X, X = w6.alloc (.cells #[.slice (some ⟨q6, 0, none⟩) n n, .int .i64 g.last, .int .i64 g.code] 26) := ⟨_, rfl⟩
      have hx6 : Below w6.heap.size w6 X6 := by rw [hX6]; exact al1 _ _
      have hbx : X6.heap[w6.heap.size]? = some (.cells #[.slice (some ⟨q6, 0, none⟩) n n, .int .i64 g.last, .int .i64 g.code] 26 (0, 0)) := by rw [hX6]; exact heap_alloc_new _ _
      have HBx6 := hide (HB6.out.trans (hx6.mono HB6.out.size))
      have HSx6 := hide (HS6.out.later hx6 (Nat.le_refl _))
      have HSBx6 := hide ((hx6.block _ (Array.getElem?_eq_some_iff.1 HSB6.out).1).trans HSB6.out)
      have HXx6 := hide (HX6.out.later hx6 (Nat.le_refl _))
      clear HB6 HS6 HSB6 HX6
      have HXBx6 := hide hbx
      clear hbx hx6
      obtain ⟨xB, hxB⟩ : ∃ b, w6.heap.size = b := ⟨_, rfl⟩
      rw [hxB] at HXBx6
      go_wp2_with fail
      rw [← hX6]
      clear hX6
      try rw [hxB]
      clear hxB
      have HL6 : Hid (W0.heap.size ≤ X6.heap.size) := hide HBx6.out.size
      have HSL6 := hide HSx6.out
      have HXL6 := hide HXx6.out
      refine (HTP.out X6 HBx6.out).mono ?_
      rintro e w7 ⟨rfl, ho7, hb7⟩
      have HB7 := hide (HBx6.out.trans (hb7.mono HBx6.out.size))
      have HS7 := hide (HSx6.out.later hb7 (Nat.le_refl _))
      have HSB7 := hide ((hb7.block _ (Array.getElem?_eq_some_iff.1 HSBx6.out).1).trans HSBx6.out)
      have HX7 := hide (HXx6.out.later hb7 (Nat.le_refl _))
      have HXB7 := hide ((hb7.block _ (Array.getElem?_eq_some_iff.1 HXBx6.out).1).trans HXBx6.out)
      clear HBx6 HSx6 HSBx6 HXx6 HXBx6
      have HY7 := hide ho7
      clear ho7 hb7
      have HXL7 := hide HX7.out
      have HYL7 := hide HY7.out
      have HSL7 := hide HS7.out
      have HL7 : Hid (W0.heap.size ≤ w7.heap.size) := hide HB7.out.size
      obtain ⟨y0, y1, y2, -⟩ := cells3 HXB7.out
      go_wp2_with fail
      clear y0 y1 y2
      refine (HIP.out w7 _ _ n m HB7.out HX7.out.row HY7.out.row).mono ?_
      rintro e w8 ⟨⟨ia, ic, rfl, ho8⟩, hb8⟩
      have HB8 := hide (HB7.out.trans (hb8.mono HB7.out.size))
      have HS8 := hide (HS7.out.later hb8 (Nat.le_refl _))
      have HSB8 := hide ((hb8.block _ (Array.getElem?_eq_some_iff.1 HSB7.out).1).trans HSB7.out)
      have HX8 := hide (HX7.out.later hb8 (Nat.le_refl _))
      have HXB8 := hide ((hb8.block _ (Array.getElem?_eq_some_iff.1 HXB7.out).1).trans HXB7.out)
      have HY8 := hide (HY7.out.later hb8 (Nat.le_refl _))
      clear HB7 HS7 HSB7 HX7 HXB7 HY7
      have HG8 := hide ho8
      clear ho8 hb8
      obtain ⟨X8, hX8⟩ : ∃ X, X = w8.alloc (.cells #[.slice ia nz ic, .int .i64 la, .int .i64 co] 26) := ⟨_, rfl⟩
      have hx8 : Below w8.heap.size w8 X8 := by rw [hX8]; exact al1 _ _
      have hbx : X8.heap[w8.heap.size]? = some (.cells #[.slice ia nz ic, .int .i64 la, .int .i64 co] 26 (0, 0)) := by rw [hX8]; exact heap_alloc_new _ _
      have HBx8 := hide (HB8.out.trans (hx8.mono HB8.out.size))
      have HSx8 := hide (HS8.out.later hx8 (Nat.le_refl _))
      have HSBx8 := hide ((hx8.block _ (Array.getElem?_eq_some_iff.1 HSB8.out).1).trans HSB8.out)
      have HXx8 := hide (HX8.out.later hx8 (Nat.le_refl _))
      have HXBx8 := hide ((hx8.block _ (Array.getElem?_eq_some_iff.1 HXB8.out).1).trans HXB8.out)
      have HYx8 := hide (HY8.out.later hx8 (Nat.le_refl _))
      have HGx8 := hide (HG8.out.later hx8 (Nat.le_refl _))
      clear HB8 HS8 HSB8 HX8 HXB8 HY8 HG8
      have HGBx8 := hide hbx
      clear hbx hx8
      obtain ⟨gB, hgB⟩ : ∃ b, w8.heap.size = b := ⟨_, rfl⟩
      rw [hgB] at HGBx8
      obtain ⟨y0, y1, y2, -⟩ := cells3 HSBx8.out
      obtain ⟨z0, z1, z2, -⟩ := cells3 HGBx8.out
      rw [← hgB] at z0 z1 z2
      rw [hX8] at y0 y1 y2 z0 z1 z2
      go_wp2_with fail
      clear y0 y1 y2 z0 z1 z2
      rw [← hX8]
      clear hX8
      try rw [hgB]
      clear hgB
      refine (eqGroup_same X8 ia sa nz ic sc zs la co HGx8.out.row HSx8.out.row HNZ.out).mono ?_
      rintro e w9 ⟨rfl, hb9⟩
      have HB9 := hide (HBx8.out.trans (hb9.mono HBx8.out.size))
      have HS9 := hide (HSx8.out.later hb9 (Nat.le_refl _))
      have HSB9 := hide ((hb9.block _ (Array.getElem?_eq_some_iff.1 HSBx8.out).1).trans HSBx8.out)
      have HX9 := hide (HXx8.out.later hb9 (Nat.le_refl _))
      have HXB9 := hide ((hb9.block _ (Array.getElem?_eq_some_iff.1 HXBx8.out).1).trans HXBx8.out)
      have HY9 := hide (HYx8.out.later hb9 (Nat.le_refl _))
      have HG9 := hide (HGx8.out.later hb9 (Nat.le_refl _))
      have HGB9 := hide ((hb9.block _ (Array.getElem?_eq_some_iff.1 HGBx8.out).1).trans HGBx8.out)
      clear HBx8 HSx8 HSBx8 HXx8 HXBx8 HYx8 HGx8 HGBx8
      clear hb9
      have HAK : Hid (∀ W, Hid (Below W0.heap.size W0 W) → W.heap[xB]? = some (.cells #[.slice (some ⟨q6, 0, none⟩) n n, .int .i64 g.last, .int .i64 g.code] 26 (0, 0)) → W.cell? ⟨w.heap.size, 0, none⟩ = some (.slice a n cap) ∧ W.cell? ⟨w.heap.size, 1, none⟩ = some (.int .i64 g.last) ∧ W.cell? ⟨w.heap.size, 2, none⟩ = some (.int .i64 g.code) ∧ W.cell? ⟨xB, 0, none⟩ = some (.slice (some ⟨q6, 0, none⟩) n n) ∧ W.cell? ⟨xB, 1, none⟩ = some (.int .i64 g.last) ∧ W.cell? ⟨xB, 2, none⟩ = some (.int .i64 g.code)) := hide (fun W hb hx => by
        obtain ⟨v0, v1, v2, -⟩ := HAX.out W hb.out
        obtain ⟨u0, u1, u2, -⟩ := cells3 hx
        exact ⟨v0, v1, v2, u0, u1, u2⟩)
      have S9 := HAK.out w9.drew (hide HB9.out.drew) HXB9.out
      obtain ⟨y0, y1, y2, y3, y4, y5⟩ := HAK.out w9 HB9 HXB9.out
      go_wp2_with fail
      (go_region_held3 (fun W' => W'.cell? ⟨w.heap.size, 0, none⟩ = some (.slice a n cap) ∧ W'.cell? ⟨w.heap.size, 1, none⟩ = some (.int .i64 g.last) ∧ W'.cell? ⟨w.heap.size, 2, none⟩ = some (.int .i64 g.code) ∧ W'.cell? ⟨xB, 0, none⟩ = some (.slice (some ⟨q6, 0, none⟩) n n) ∧ W'.cell? ⟨xB, 1, none⟩ = some (.int .i64 g.last) ∧ W'.cell? ⟨xB, 2, none⟩ = some (.int .i64 g.code)) (assumption) (first
            | (go_at_call 14; refine (HTG.out w9.drew HB9.out.drew).mono ?_; rintro e w10 ⟨⟨q10, rfl, ho10⟩, hb10⟩; have hd10 : Hid (Below w9.heap.size w9 w10) := hide (((Below.refl w9.heap.size w9).drew).trans hb10); have hS10 := HAK.out w10 (hide (HB9.out.trans (hd10.out.mono HB9.out.size))) ((hd10.out.block _ (Array.getElem?_eq_some_iff.1 HXB9.out).1).trans HXB9.out); have HE10 := hide (eqGroup_same w10 _ _ n n n g.dir g.last g.code (HX9.out.later hd10.out (Nat.le_refl _)).row ho10.row (by omega)); clear ho10 hb10)
            | (go_at_call 16; refine HE10.out.mono ?_; rintro e w11 ⟨rfl, hb11⟩; have hd11 : Hid (Below w9.heap.size w9 w11) := hide (hd10.out.trans (hb11.mono hd10.out.size)); have hS11 := HAK.out w11 (hide (HB9.out.trans (hd11.out.mono HB9.out.size))) ((hd11.out.block _ (Array.getElem?_eq_some_iff.1 HXB9.out).1).trans HXB9.out); clear hb11)))
      have hd := hd11.out
      have HB11 := hide (HB9.out.trans (hd.mono HB9.out.size))
      have HS11 := hide (HS9.out.later hd (Nat.le_refl _))
      have HSB11 := hide ((hd.block _ (Array.getElem?_eq_some_iff.1 HSB9.out).1).trans HSB9.out)
      have HX11 := hide (HX9.out.later hd (Nat.le_refl _))
      have HXB11 := hide ((hd.block _ (Array.getElem?_eq_some_iff.1 HXB9.out).1).trans HXB9.out)
      have HY11 := hide (HY9.out.later hd (Nat.le_refl _))
      have HG11 := hide (HG9.out.later hd (Nat.le_refl _))
      have HGB11 := hide ((hd.block _ (Array.getElem?_eq_some_iff.1 HGB9.out).1).trans HGB9.out)
      clear HB9 HS9 HSB9 HX9 HXB9 HY9 HG9 HGB9
      clear hd hd11 hS11 hS10 HE10 hd10 S9 y0 y1 y2 y3 y4 y5 HAK
      go_wp2_with fail
      refine (HTP.out w11 HB11.out).mono ?_
      rintro e w12 ⟨rfl, ho12, hb12⟩
      have HB12 := hide (HB11.out.trans (hb12.mono HB11.out.size))
      have HS12 := hide (HS11.out.later hb12 (Nat.le_refl _))
      have HSB12 := hide ((hb12.block _ (Array.getElem?_eq_some_iff.1 HSB11.out).1).trans HSB11.out)
      have HX12 := hide (HX11.out.later hb12 (Nat.le_refl _))
      have HXB12 := hide ((hb12.block _ (Array.getElem?_eq_some_iff.1 HXB11.out).1).trans HXB11.out)
      have HY12 := hide (HY11.out.later hb12 (Nat.le_refl _))
      have HG12 := hide (HG11.out.later hb12 (Nat.le_refl _))
      have HGB12 := hide ((hb12.block _ (Array.getElem?_eq_some_iff.1 HGB11.out).1).trans HGB11.out)
      clear HB11 HS11 HSB11 HX11 HXB11 HY11 HG11 HGB11
      have HE := hide (eqPlaceS_same w12 _ _ m m m xs HY12.out.row ho12.row hm)
      clear ho12 hb12
      go_wp2_with fail
      refine HE.out.mono ?_
      rintro e w13 ⟨rfl, hb13⟩
      have HB13 := hide (HB12.out.trans (hb13.mono HB12.out.size))
      have HS13 := hide (HS12.out.later hb13 (Nat.le_refl _))
      have HSB13 := hide ((hb13.block _ (Array.getElem?_eq_some_iff.1 HSB12.out).1).trans HSB12.out)
      have HX13 := hide (HX12.out.later hb13 (Nat.le_refl _))
      have HXB13 := hide ((hb13.block _ (Array.getElem?_eq_some_iff.1 HXB12.out).1).trans HXB12.out)
      have HY13 := hide (HY12.out.later hb13 (Nat.le_refl _))
      have HG13 := hide (HG12.out.later hb13 (Nat.le_refl _))
      have HGB13 := hide ((hb13.block _ (Array.getElem?_eq_some_iff.1 HGB12.out).1).trans HGB12.out)
      clear HB12 HS12 HSB12 HX12 HXB12 HY12 HG12 HGB12
      clear hb13 HE
      obtain ⟨y0, y1, y2, -⟩ := cells3 HXB13.out
      go_wp2_with fail
      clear y0 y1 y2
      refine (markGroup_any w13 l5 _ n n g.dir g.last g.code HX13.out (by omega) 1 (by omega) (by omega)).mono ?_
      rintro e w14 ⟨rfl, ho14, hg14⟩
      clear ho14
      have hu14 : ∀ i, (Value.ownBlock (Value.slice (some ⟨q6, 0, none⟩) n n)) = some i → W0.heap.size ≤ i := fun i hi => Nat.le_trans HL5.out (HX13.out.blk i hi).1
      have HB14 := hide (HB13.out.trans (grown_to hg14 HB13.out.size hu14))
      have HS14 : Hid (entSh.Own 59 w14 w4.heap.size (.slice sa nz sc) zs) := hide (row_apart HS13.out HSL5.out HX5l.out HX13.out hg14)
      have HSB14 := hide ((hg14.block _ (Array.getElem?_eq_some_iff.1 HSB13.out).1 (fun e => (ent_off HX13.out HSB13.out (by decide)) e.symm)).trans HSB13.out)
      have HXB14 := hide ((hg14.block _ (Array.getElem?_eq_some_iff.1 HXB13.out).1 (fun e => (ent_off HX13.out HXB13.out (by decide)) e.symm)).trans HXB13.out)
      have HY14 : Hid (plSh.Own 37 w14 X6.heap.size (.slice (some ⟨X6.heap.size, 0, none⟩) m m) xs) := hide (row_behind HY13.out HXL6.out (Nat.le_refl _) hg14)
      have HG14 : Hid (entSh.Own 59 w14 w7.heap.size (.slice ia nz ic) _) := hide (row_behind HG13.out HXL7.out (Nat.le_refl _) hg14)
      have HGB14 := hide ((hg14.block _ (Array.getElem?_eq_some_iff.1 HGB13.out).1 (fun e => (ent_off HX13.out HGB13.out (by decide)) e.symm)).trans HGB13.out)
      clear hu14 HB13 HS13 HSB13 HX13 HXB13 HY13 HG13 HGB13
      clear hg14
      obtain ⟨k1, hk1⟩ : ∃ k, 1 + 5 * n = k := ⟨_, rfl⟩
      have hk1l : k1 ≤ 1099511627776 := by omega
      have hk10 : 0 < k1 := by omega
      rw [hk1]
      clear hk1
      go_wp2_with fail
      refine (markPlaceS_any w14 X6.heap.size _ m m xs HY14.out (by omega) k1 hk10 hk1l).mono ?_
      rintro e w15 ⟨rfl, ho15, hg15⟩
      clear ho15
      clear HXB14
      have hu15 : ∀ i, (Value.ownBlock (Value.slice (some ⟨X6.heap.size, 0, none⟩) m m)) = some i → W0.heap.size ≤ i := fun i hi => Nat.le_trans HL6.out (HY14.out.blk i hi).1
      have HB15 := hide (HB14.out.trans (grown_to hg15 HB14.out.size hu15))
      have HS15 : Hid (entSh.Own 59 w15 w4.heap.size (.slice sa nz sc) zs) := hide (row_apart HS14.out HSL6.out (Nat.le_refl _) HY14.out hg15)
      have HSB15 := hide ((hg15.block _ (Array.getElem?_eq_some_iff.1 HSB14.out).1 (fun e => by obtain ⟨cur, hc⟩ := own_heap HY14.out e.symm; rw [HSB14.out] at hc; cases hc)).trans HSB14.out)
      have HG15 : Hid (entSh.Own 59 w15 w7.heap.size (.slice ia nz ic) _) := hide (row_behind HG14.out HYL7.out (Nat.le_refl _) hg15)
      have HGB15 := hide ((hg15.block _ (Array.getElem?_eq_some_iff.1 HGB14.out).1 (fun e => by obtain ⟨cur, hc⟩ := own_heap HY14.out e.symm; rw [HGB14.out] at hc; cases hc)).trans HGB14.out)
      clear hu15 HB14 HS14 HSB14 HY14 HG14 HGB14
      clear hg15
      obtain ⟨k2, hk2⟩ : ∃ k, k1 + 9 * m = k := ⟨_, rfl⟩
      rw [hk2]
      have d2 : decide ((k2 : Int) < 0) = false := by simp
      clear hk2 hk1l hk10
      obtain ⟨y0, y1, y2, -⟩ := cells3 HSB15.out
      obtain ⟨z0, z1, z2, -⟩ := cells3 HGB15.out
      go_wp2_with fail
      clear y0 y1 y2 z0 z1 z2
      refine (eqGroup_same w15 ia sa nz ic sc zs la co HG15.out.row HS15.out.row HNZ.out).mono ?_
      rintro e w16 ⟨rfl, hb16⟩
      have HB16 := hide (HB15.out.trans (hb16.mono HB15.out.size))
      have HS16 := hide (HS15.out.later hb16 (Nat.le_refl _))
      have HSB16 := hide ((hb16.block _ (Array.getElem?_eq_some_iff.1 HSB15.out).1).trans HSB15.out)
      have HG16 := hide (HG15.out.later hb16 (Nat.le_refl _))
      have HGB16 := hide ((hb16.block _ (Array.getElem?_eq_some_iff.1 HGB15.out).1).trans HGB15.out)
      clear HB15 HS15 HSB15 HG15 HGB15
      clear hb16 d2
      obtain ⟨z0, z1, z2, -⟩ := cells3 HGB16.out
      go_wp2_with fail
      clear z0 z1 z2
      refine (markGroup_any w16 w7.heap.size ia nz ic zs la co HG16.out HNZ.out 1 (by omega) (by omega)).mono ?_
      rintro e w17 ⟨rfl, ho17, hg17⟩
      have hu17 : ∀ i, (Value.ownBlock (Value.slice ia nz ic)) = some i → W0.heap.size ≤ i := fun i hi => Nat.le_trans HL7.out (HG16.out.blk i hi).1
      have HB17 := hide (HB16.out.trans (grown_to hg17 HB16.out.size hu17))
      have HS17 : Hid (entSh.Own 59 w17 w4.heap.size (.slice sa nz sc) zs) := hide (row_apart HS16.out HSL7.out (Nat.le_refl _) HG16.out hg17)
      have HSB17 := hide ((hg17.block _ (Array.getElem?_eq_some_iff.1 HSB16.out).1 (fun e => (ent_off HG16.out HSB16.out (by decide)) e.symm)).trans HSB16.out)
      have HG17 : Hid (entSh.Own 59 w17 w7.heap.size (.slice ia nz ic) _) := hide (ho17)
      have HGB17 := hide ((hg17.block _ (Array.getElem?_eq_some_iff.1 HGB16.out).1 (fun e => (ent_off HG16.out HGB16.out (by decide)) e.symm)).trans HGB16.out)
      clear hu17 HB16 HS16 HSB16 HG16 HGB16
      clear ho17 hg17
      have HHE := hide (fun W (h : entSh.Row W ia nz (markE nz 1)) => heldGroup_any W ia nz ic la co HNZ.out 1 (by omega) (by omega) h)
      obtain ⟨t, ht⟩ : ∃ t : Int, ((1 + 5 * nz : Nat) : Int) = t := ⟨_, rfl⟩
      have t1 : decide (t < 0) = false := by simp; omega
      have t2 : (t != t) = false := by simp
      rw [ht] at HHE ⊢
      clear ht
      obtain ⟨z0, z1, z2, -⟩ := cells3 HGB17.out
      go_wp2_with fail
      clear z0 z1 z2
      refine (HHE.out w17 HG17.out.row).mono ?_
      rintro e w18 ⟨rfl, hb18⟩
      have HB18 := hide (HB17.out.trans (hb18.mono HB17.out.size))
      have HS18 := hide (HS17.out.later hb18 (Nat.le_refl _))
      have HSB18 := hide ((hb18.block _ (Array.getElem?_eq_some_iff.1 HSB17.out).1).trans HSB17.out)
      have HG18 := hide (HG17.out.later hb18 (Nat.le_refl _))
      have HGB18 := hide ((hb18.block _ (Array.getElem?_eq_some_iff.1 HGB17.out).1).trans HGB17.out)
      clear HB17 HS17 HSB17 HG17 HGB17
      clear hb18
      obtain ⟨y0, y1, y2, -⟩ := HAX.out w18 HB18.out
      go_wp2_with fail
      clear y0 y1 y2
      refine (HTG.out w18 HB18.out).mono ?_
      rintro e w19 ⟨⟨q19, rfl, ho19⟩, hb19⟩
      have HB19 := hide (HB18.out.trans (hb19.mono HB18.out.size))
      have HS19 := hide (HS18.out.later hb19 (Nat.le_refl _))
      have HSB19 := hide ((hb19.block _ (Array.getElem?_eq_some_iff.1 HSB18.out).1).trans HSB18.out)
      have HG19 := hide (HG18.out.later hb19 (Nat.le_refl _))
      have HGB19 := hide ((hb19.block _ (Array.getElem?_eq_some_iff.1 HGB18.out).1).trans HGB18.out)
      clear HB18 HS18 HSB18 HG18 HGB18
      have HQ19 := hide ho19
      clear ho19 hb19
      go_wp2_with fail
      refine (HTP.out w19 HB19.out).mono ?_
      rintro e w20 ⟨rfl, ho20, hb20⟩
      have HB20 := hide (HB19.out.trans (hb20.mono HB19.out.size))
      have HS20 := hide (HS19.out.later hb20 (Nat.le_refl _))
      have HSB20 := hide ((hb20.block _ (Array.getElem?_eq_some_iff.1 HSB19.out).1).trans HSB19.out)
      have HG20 := hide (HG19.out.later hb20 (Nat.le_refl _))
      have HGB20 := hide ((hb20.block _ (Array.getElem?_eq_some_iff.1 HGB19.out).1).trans HGB19.out)
      have HQ20 := hide (HQ19.out.later hb20 (Nat.le_refl _))
      clear HB19 HS19 HSB19 HG19 HGB19 HQ19
      have HP20 := hide ho20
      clear ho20 hb20
      go_wp2_with fail
      refine (HIP.out w20 _ _ n m HB20.out HQ20.out.row HP20.out.row).mono ?_
      rintro e w21 ⟨⟨ja, jc, rfl, ho21⟩, hb21⟩
      have HB21 := hide (HB20.out.trans (hb21.mono HB20.out.size))
      have HS21 := hide (HS20.out.later hb21 (Nat.le_refl _))
      have HSB21 := hide ((hb21.block _ (Array.getElem?_eq_some_iff.1 HSB20.out).1).trans HSB20.out)
      have HG21 := hide (HG20.out.later hb21 (Nat.le_refl _))
      have HGB21 := hide ((hb21.block _ (Array.getElem?_eq_some_iff.1 HGB20.out).1).trans HGB20.out)
      clear HB20 HS20 HSB20 HG20 HGB20 HQ20 HP20
      have HJ21 := hide ho21
      clear ho21 hb21
      obtain ⟨X21, hX21⟩ : ∃ X, X = w21.alloc (.cells #[.slice ja nz jc, .int .i64 la, .int .i64 co] 26) := ⟨_, rfl⟩
      have hx21 : Below w21.heap.size w21 X21 := by rw [hX21]; exact al1 _ _
      have hbx : X21.heap[w21.heap.size]? = some (.cells #[.slice ja nz jc, .int .i64 la, .int .i64 co] 26 (0, 0)) := by rw [hX21]; exact heap_alloc_new _ _
      have HBx21 := hide (HB21.out.trans (hx21.mono HB21.out.size))
      have HSx21 := hide (HS21.out.later hx21 (Nat.le_refl _))
      have HSBx21 := hide ((hx21.block _ (Array.getElem?_eq_some_iff.1 HSB21.out).1).trans HSB21.out)
      have HGx21 := hide (HG21.out.later hx21 (Nat.le_refl _))
      have HGBx21 := hide ((hx21.block _ (Array.getElem?_eq_some_iff.1 HGB21.out).1).trans HGB21.out)
      have HJx21 := hide (HJ21.out.later hx21 (Nat.le_refl _))
      clear HB21 HS21 HSB21 HG21 HGB21 HJ21
      have HJBx21 := hide hbx
      clear hbx hx21
      obtain ⟨jB, hjB⟩ : ∃ b, w21.heap.size = b := ⟨_, rfl⟩
      rw [hjB] at HJBx21
      obtain ⟨y0, y1, y2, -⟩ := cells3 HSBx21.out
      obtain ⟨z0, z1, z2, -⟩ := cells3 HJBx21.out
      rw [← hjB] at z0 z1 z2
      rw [hX21] at y0 y1 y2 z0 z1 z2
      go_wp2_with fail
      clear y0 y1 y2 z0 z1 z2
      rw [← hX21]
      clear hX21
      try rw [hjB]
      clear hjB
      refine (eqGroup_same X21 ja sa nz jc sc zs la co HJx21.out.row HSx21.out.row HNZ.out).mono ?_
      rintro e w22 ⟨rfl, hb22⟩
      have HB22 := hide (HBx21.out.trans (hb22.mono HBx21.out.size))
      have HS22 := hide (HSx21.out.later hb22 (Nat.le_refl _))
      have HSB22 := hide ((hb22.block _ (Array.getElem?_eq_some_iff.1 HSBx21.out).1).trans HSBx21.out)
      have HG22 := hide (HGx21.out.later hb22 (Nat.le_refl _))
      have HGB22 := hide ((hb22.block _ (Array.getElem?_eq_some_iff.1 HGBx21.out).1).trans HGBx21.out)
      have HJ22 := hide (HJx21.out.later hb22 (Nat.le_refl _))
      have HJB22 := hide ((hb22.block _ (Array.getElem?_eq_some_iff.1 HJBx21.out).1).trans HJBx21.out)
      clear HBx21 HSx21 HSBx21 HGx21 HGBx21 HJx21 HJBx21
      clear hb22
      obtain ⟨z0, z1, z2, -⟩ := cells3 HGB22.out
      go_wp2_with fail
      clear z0 z1 z2
      refine (HHE.out w22 HG22.out.row).mono ?_
      rintro e w23 ⟨rfl, hb23⟩
      have HB23 := hide (HB22.out.trans (hb23.mono HB22.out.size))
      have HS23 := hide (HS22.out.later hb23 (Nat.le_refl _))
      have HSB23 := hide ((hb23.block _ (Array.getElem?_eq_some_iff.1 HSB22.out).1).trans HSB22.out)
      have HG23 := hide (HG22.out.later hb23 (Nat.le_refl _))
      have HGB23 := hide ((hb23.block _ (Array.getElem?_eq_some_iff.1 HGB22.out).1).trans HGB22.out)
      have HJ23 := hide (HJ22.out.later hb23 (Nat.le_refl _))
      have HJB23 := hide ((hb23.block _ (Array.getElem?_eq_some_iff.1 HJB22.out).1).trans HJB22.out)
      clear HB22 HS22 HSB22 HG22 HGB22 HJ22 HJB22
      clear hb23
      clear HSB23 HGB23 HJB23 HJ23 HS23 HG23
      go_wp2
      go_ret
      exact ⟨rfl, HA.out.trans (HB23.out.mono HA.out.size)⟩
    · rw [lessR_no (by omega)]
      go_wp2
      go_ret
      exact ⟨rfl, HA.out.trans (HB2.out.mono HA.out.size)⟩
  · rw [lessR_no (by omega)]
    have HB1 := hide hb1
    clear hb1
    go_wp2
    go_ret
    exact ⟨rfl, HA.out.trans (HB1.out.mono HA.out.size)⟩

end Go.Proofs.YtphbinkkgmlnmaaGreatDoor
