/-
  impl.Regroup.
-/
import Derived.Test.YtimpokbcfjgdaaaGreatDoorHG33
import Derived.Test.YtimpokbcfjgdaaaGreatDoorHG35
namespace Go.Proofs.YtimpokbcfjgdaaaGreatDoor
open Go.RowKit Go.Maps
open Plain

theorem stepG_fits {pre : List PlaceV} {x : GroupV} {p : PlaceV} (hc : x.code = 0) (hb : takeB pre p = true) : stepG pre x p = fitG x (takeP pre p) (max x.last p.r.batch) := by
  unfold takeB at hb
  unfold takeP
  by_cases h3 : p.r.kind = 3
  · rw [if_pos h3] at hb ⊢
    rw [stepG_seal hc h3, if_pos hb]
  · rw [if_neg h3] at hb ⊢
    by_cases h5 : p.r.kind = 5
    · rw [if_pos h5] at hb ⊢
      rw [stepG_mark hc h5, if_pos hb]
    · rw [if_neg h5] at hb
      cases hb
theorem stepG_no5 {pre : List PlaceV} {x : GroupV} {p : PlaceV} (hc : x.code = 0) (hb : takeB pre p = false) (h5 : p.r.kind = 5) : stepG pre x p = ⟨x.dir, max x.last p.r.batch, 1⟩ := by
  unfold takeB at hb
  rw [if_neg (by rw [h5]; decide), if_pos h5] at hb
  rw [stepG_mark hc h5, if_neg (by rw [hb]; simp)]
theorem stepG_no {pre : List PlaceV} {x : GroupV} {p : PlaceV} (hc : x.code = 0) (hb : takeB pre p = false) (h5 : ¬ p.r.kind = 5) : stepG pre x p = ⟨x.dir, max x.last p.r.batch, 0⟩ := by
  by_cases h3 : p.r.kind = 3
  · unfold takeB at hb
    rw [if_pos h3] at hb
    rw [stepG_seal hc h3, if_neg (by rw [hb]; simp)]
  · exact stepG_rest hc h3 h5
theorem takeP_len (pre : List PlaceV) (p : PlaceV) : (takeP pre p).length ≤ pre.length := by
  unfold takeP
  split
  · exact ofB_len _ _
  · split
    · exact keptP_len _
    · exact Nat.zero_le _
theorem own_keepE {w w' : World} {base base' L : Nat} {v : Value} {xs : List EntV} (h : entSh.Own 71 w base v xs) (hk : KeepT base' L w w') : entSh.Own 71 w' base v xs := by
  refine ⟨h.1, ?_⟩
  rcases h.2 with h1 | ⟨g, c, cur, e, hbg, hg, h1⟩
  · exact .inl h1
  · exact .inr ⟨g, c, cur, e, hbg, hk.2.1 g _ _ _ hg (by decide) (by decide), h1⟩
theorem KeepT.box {w w' : World} {base L B : Nat} {cs : Array Value} (hk : KeepT base L w w') (h : w.heap[B]? = some (.cells cs 47 (0, 0))) : w'.heap[B]? = some (.cells cs 47 (0, 0)) := hk.2.1 B _ _ _ h (by decide) (by decide)
theorem box1_set {w : World} {B : Nat} {x y z u : Value} {T : TypeId} (h : w.heap[B]? = some (.cells #[x, y, z] T (0, 0))) : (w.setCell ⟨B, 1, none⟩ u).heap[B]? = some (.cells #[x, u, z] T (0, 0)) := by simp [World.setCell, Array.getElem?_modify, h]
theorem other_set {w : World} {B C j : Nat} {u : Value} {o : Obj} (h : w.heap[B]? = some o) (hne : B ≠ C) : (w.setCell ⟨C, j, none⟩ u).heap[B]? = some o := (Below.heap_setCell w ⟨C, j, none⟩ u B hne).trans h
theorem WSx.setG {w : World} {base B G j : Nat} {u : Value} {cs : Array Value} {pre : List PlaceV} (h : WSx w base B pre) (hg : w.heap[G]? = some (.cells cs 47 (0, 0))) : WSx (w.setCell ⟨G, j, none⟩ u) base B pre :=
  h.grown (grown_setW w G j u) (fun r e => by cases e; exact ⟨_, _, _, hg, by decide, by decide⟩)

set_option maxRecDepth 100000 in
set_option maxHeartbeats 8000000 in
theorem implReg_any (w : World) (ht : STab w) (a b : Option Addr) (n cap m cap' : Nat) (g : GroupV) (xs : List PlaceV) (ho : entSh.Row w a n g.dir) (hr : plSh.Row w b m xs) (hf : PFits xs) (ha : a = none ∨ ∃ q, a = some ⟨q, 0, none⟩) (hn : n ≤ 1048576) (hm : m ≤ 1048576) :
    Calls Tryz.prog 48 #[.agg #[.slice a n cap, .int .i64 g.last, .int .i64 g.code], .slice b m cap'] w fun e w' => (∃ a' n' c', e = .returned (.agg #[.slice a' n' c', .int .i64 (regF g xs).last, .int .i64 (regF g xs).code]) ∧ entSh.Own 71 w' w.heap.size (.slice a' n' c') (regF g xs).dir) ∧ Below w.heap.size w w' := by
  have hlen := hr.len
  have hxl := ho.len
  have HR := hide hr
  have HO := hide ho
  have HF := hide hf
  obtain ⟨W, hW⟩ : ∃ W, W = (w.alloc (.cells #[.slice a n cap, .int .i64 g.last, .int .i64 g.code] 47)).alloc (.cells #[.slice none 0 0, .int .i64 0, .int .i64 0] 47) := ⟨_, rfl⟩
  have HB0 : Hid (Below w.heap.size w W) := hide (by rw [hW]; exact al2 w _ _)
  have hg0 : W.heap[w.heap.size]? = some (.cells #[.slice a n cap, .int .i64 g.last, .int .i64 g.code] 47 (0, 0)) := by
    rw [hW, Below.heap_alloc _ _ _ (by simp)]
    exact heap_alloc_new w _
  have hr0 : W.heap[w.heap.size + 1]? = some (.cells #[.slice none 0 0, .int .i64 0, .int .i64 0] 47 (0, 0)) := by
    rw [hW]
    have h := heap_alloc_new (w.alloc (.cells #[.slice a n cap, .int .i64 g.last, .int .i64 g.code] 47)) (.cells #[.slice none 0 0, .int .i64 0, .int .i64 0] 47)
    rw [World.size_alloc] at h
    exact h
  have HCL := hide (cloneE_any W a n cap g.dir ha (ho.later HB0.out) hn)
  have HSZ : Hid (W.heap.size = w.heap.size + 1 + 1) := hide (by rw [hW]; simp)
  have hmm := @run_makeMap Tryz.prog
  have HT := hide ht
  have hgs := ht.lt
  have HGS := hide hgs
  clear hr ho hf ht hgs
  go_enter Tryz.func48, Tryz.ntmps48
  go_wp2
  go_step3
  go_wp2_with fail
  rw [← hW]
  clear hW
  refine HCL.out.mono ?_
  rintro e W1 ⟨⟨a1, c1, rfl, ho1⟩, hb1⟩
  have hg1 := (hb1.block _ (Array.getElem?_eq_some_iff.1 hg0).1).trans hg0
  have HR1 := hide ((hb1.block _ (Array.getElem?_eq_some_iff.1 hr0).1).trans hr0)
  have HG1 := hide hg1
  obtain ⟨d0, d1, d2, f0, f1, f2⟩ := cells3 hg1
  have HO1 := hide ho1
  have HB1 := hide hb1
  clear hg0 hr0 hg1 ho1 hb1 HCL
  have HRR : Hid (w.heap.size + 1 < W.heap.size) := hide (by have := HSZ.out; omega)
  have hGne : w.heap.size + 1 ≠ w.heap.size := by omega
  have HG2 := hide (box0_set (u := .slice a1 n c1) HG1.out)
  have HR2 := hide (other_set (C := w.heap.size) (j := 0) (u := .slice a1 n c1) HR1.out hGne)
  have HO2 := hide (HO1.out.setNe ⟨w.heap.size, 0, none⟩ (.slice a1 n c1) (ent_off HO1.out HG1.out (by decide)))
  have HB2 : Hid (Below w.heap.size w (W1.setCell ⟨w.heap.size, 0, none⟩ (.slice a1 n c1))) := hide (Below.setCell (HB0.out.trans (HB1.out.mono HB0.out.size)) (by exact Nat.le_refl _) _)
  by_cases hc : g.code = 0
  · have tc : (g.code != 0) = false := by simpa using hc
    have HC := hide hc
    have hsz : (W1.setCell ⟨w.heap.size, 0, none⟩ (.slice a1 n c1)).heap.size = W1.heap.size := by simp
    have HW3 := hide (WSx.start (W1.setCell ⟨w.heap.size, 0, none⟩ (.slice a1 n c1)))
    obtain ⟨W2, hW2⟩ : ∃ W2, W2 = W1.setCell ⟨w.heap.size, 0, none⟩ (.slice a1 n c1) := ⟨_, rfl⟩
    rw [← hW2] at HG2 HR2 HO2 HB2 HW3
    have HBA := hide (al2 W2 (.map #[] 0) (.cells #[.map (some W2.heap.size), .slice none 0 0] 132))
    have HG3 : Hid (GBox ((W2.alloc (.map #[] 0)).alloc (.cells #[.map (some W2.heap.size), .slice none 0 0] 132)) W.heap.size w.heap.size g) := hide ⟨a1, n, c1, (HBA.out.block _ (Array.getElem?_eq_some_iff.1 HG2.out).1).trans HG2.out, HO2.out.later HBA.out (Nat.le_refl _)⟩
    have HR3 := hide ((HBA.out.block _ (Array.getElem?_eq_some_iff.1 HR2.out).1).trans HR2.out)
    have HB3 := hide (HB2.out.trans (HBA.out.mono HB2.out.size))
    obtain ⟨bs, hbs⟩ : ∃ bs, W2.heap.size = bs := ⟨_, rfl⟩
    have hbw : W.heap.size ≤ bs := by rw [← hbs, hW2, hsz]; exact HB1.out.size
    have HBW := hide hbw
    have HXS : Hid (W1.heap.size = bs) := hide (by rw [← hbs, hW2, hsz])
    rw [hbs] at HW3 HG3 HR3 HB3
    obtain ⟨Ws, hWs⟩ : ∃ Ws, Ws = (W2.alloc (.map #[] 0)).alloc (.cells #[.map (some bs), .slice none 0 0] 132) := ⟨_, rfl⟩
    rw [← hWs] at HW3 HG3 HR3 HB3
    clear hc HG2 HR2 HO2 HB2 HBA hsz hbw HG1 HR1 HO1
    go_wp2
    go_step3
    rw [HXS.out, ← hW2, ← hWs]
    clear hWs hW2 hbs HXS HB1 d0 d1 d2 f0 f1 f2 hmm
    go_wp2
    go_loopw [22] (fun i wr => ∃ (k : Nat) (x : GroupV), k ≤ m ∧ i = .int .i64 k ∧ Hid (regL g (xs.take k) = x) ∧ Hid (x.code = 0) ∧ Hid (GBox wr W.heap.size w.heap.size x) ∧ Hid (WSx wr bs (bs + 1) (xs.take k)) ∧ Hid (wr.heap[w.heap.size + 1]? = some (.cells #[.slice none 0 0, .int .i64 0, .int .i64 0] 47 (0, 0))) ∧ Hid (Below w.heap.size w wr)) (fun i _ => m - (nI i).toNat)
    case atStart => exact ⟨0, g, by omega, rfl, hide rfl, HC, HG3, HW3, HR3, HB3⟩
    case round =>
      clear HG3 HW3 HR3 HB3 HC
      obtain ⟨k, x, hk, rfl, HX, HC, HG, HW, HRB, HB⟩ := hrel
      obtain ⟨da, dn, dc, hbx, hdo⟩ := HG.out
      have HBX := hide hbx
      have HDO := hide hdo
      obtain ⟨d0, d1, d2, f0, f1, f2⟩ := cells3 hbx
      have hGl : w.heap.size < wr.heap.size := (Array.getElem?_eq_some_iff.1 hbx).1
      have tc := ieq _ _ HC.out
      clear hbx hdo HG
      by_cases hlt : k < m
      · have hkf : k < xs.length := by omega
        obtain ⟨bb, off, rfl, hbw2, e0, e1, e2, e3, e4, e5, e6, e7, e8⟩ := pl_cells (HR.out.later HB.out) k hkf
        have HE : Hid (regL g (xs.take (k + 1)) = stepG (xs.take k) x (xs[k])) := hide (by rw [regL_succ g xs k hkf, HX.out])
        have HTK : Hid (xs.take (k + 1) = xs.take k ++ [xs[k]]) := hide (take_snoc xs k hkf)
        have hfz := HF.out (xs[k]) (List.getElem_mem hkf)
        have hdl : x.dir.length ≤ 20 + n := by
          have := regL_dir g xs k (by rw [HX.out]; exact HC.out)
          rw [HX.out, hxl] at this
          exact this
        obtain ⟨z, hz⟩ : ∃ z, xs[k] = z := ⟨_, rfl⟩
        rw [hz] at e0 e1 e2 e3 e4 e5 e6 e7 e8 HE HTK hfz
        have hlk : (xs.take k).length ≤ 1048576 := by rw [List.length_take]; omega
        obtain ⟨pre, hpre⟩ : ∃ pre, xs.take k = pre := ⟨_, rfl⟩
        rw [hpre] at HE HTK hlk HW
        clear hz hpre HX
        obtain ⟨mx, hmx⟩ : ∃ mx, max x.last z.r.batch = mx := ⟨_, rfl⟩
        -- the world ahead of the call, the copy of the place in it
        obtain ⟨W0, hW0⟩ : ∃ W0, W0 = wr.setCell ⟨w.heap.size, 1, none⟩ (.int .i64 mx) := ⟨_, rfl⟩
        have hs0 : W0.heap.size = wr.heap.size := by rw [hW0]; simp
        rw [HC.out] at HBX d2
        have HBX0 : Hid (W0.heap[w.heap.size]? = some (.cells #[.slice da dn dc, .int .i64 mx, .int .i64 0] 47 (0, 0))) := hide (by rw [hW0]; exact box1_set HBX.out)
        have HRB0 := hide (show W0.heap[w.heap.size + 1]? = some (.cells #[.slice none 0 0, .int .i64 0, .int .i64 0] 47 (0, 0)) by rw [hW0]; exact other_set HRB.out (by omega))
        have HDO0 : Hid (entSh.Own 71 W0 W.heap.size (.slice da dn dc) x.dir) := hide (by rw [hW0]; exact HDO.out.setNe ⟨w.heap.size, 1, none⟩ _ (ent_off HDO.out HBX.out (by decide)))
        have HWS0 : Hid (WSx W0 bs (bs + 1) pre) := hide (by rw [hW0]; exact HW.out.setG HBX.out)
        have HB0' : Hid (Below w.heap.size w W0) := hide (by rw [hW0]; exact Below.setCell HB.out (by exact Nat.le_refl _) _)
        have HAP := hide (al1 W0 (.cells #[.int .i64 z.seg, .int .i64 z.pos, .int .i64 z.len, .int .i64 z.r.kind, .int .i64 z.r.batch, .string z.r.key, .string z.r.val, .int .i64 z.r.cnt, .int .i64 z.r.sum] 45))
        have HP9 : Hid (Blk9 45 (W0.alloc (.cells #[.int .i64 z.seg, .int .i64 z.pos, .int .i64 z.len, .int .i64 z.r.kind, .int .i64 z.r.batch, .string z.r.key, .string z.r.val, .int .i64 z.r.cnt, .int .i64 z.r.sum] 45)) wr.heap.size z) := hide (by rw [← hs0]; exact Blk9.new 45 W0 z)
        have hbs0 : bs ≤ W0.heap.size := by have := HWS0.out.blt; omega
        have HTA := hide (take_any (W0.alloc (.cells #[.int .i64 z.seg, .int .i64 z.pos, .int .i64 z.len, .int .i64 z.r.kind, .int .i64 z.r.batch, .string z.r.key, .string z.r.val, .int .i64 z.r.cnt, .int .i64 z.r.sum] 45)) (HT.out.later (HB0'.out.trans (HAP.out.mono HB0'.out.size))) bs (bs + 1) (by have := HGS.out; have := HRR.out; have := HBW.out; omega) pre z W0 HAP.out HWS0.out (Nat.le_trans hbs0 HAP.out.size) hfz.2.2 hlk)
        have HBXA := hide ((HAP.out.block _ (Array.getElem?_eq_some_iff.1 HBX0.out).1).trans HBX0.out)
        have HRBA := hide ((HAP.out.block _ (Array.getElem?_eq_some_iff.1 HRB0.out).1).trans HRB0.out)
        have HDOA := hide (HDO0.out.later HAP.out (Nat.le_refl _))
        have HBA := hide (HB0'.out.trans (HAP.out.mono HB0'.out.size))
        have HWE : Hid (W0.alloc (.cells #[.int .i64 z.seg, .int .i64 z.pos, .int .i64 z.len, .int .i64 z.r.kind, .int .i64 z.r.batch, .string z.r.key, .string z.r.val, .int .i64 z.r.cnt, .int .i64 z.r.sum] 45) = (wr.setCell ⟨w.heap.size, 1, none⟩ (.int .i64 mx)).alloc (.cells #[.int .i64 z.seg, .int .i64 z.pos, .int .i64 z.len, .int .i64 z.r.kind, .int .i64 z.r.batch, .string z.r.key, .string z.r.val, .int .i64 z.r.cnt, .int .i64 z.r.sum] 45)) := hide (by rw [hW0])
        clear hfz HBX HRB HDO HW HB HBX0 HRB0 HDO0 HWS0 HB0'
        go_wp2_with fail
        rw [← HWE.out]
        clear HWE
        refine HTA.out.mono ?_
        rintro e w2 ⟨⟨ta, tcp, rfl, hto⟩, hws, hkt⟩
        have HBX2 := hide (hkt.box HBXA.out)
        have HRB2 := hide (hkt.box HRBA.out)
        have HDO2 := hide (own_keepE HDOA.out hkt)
        have HB2 : Hid (Below w.heap.size w w2) := hide (HBA.out.trans (hkt.1.mono (Nat.le_trans HB0.out.size HBW.out)))
        have HW2 : Hid (WSx w2 bs (bs + 1) (xs.take (k + 1))) := hide (by rw [HTK.out]; exact hws)
        have HP2 : Hid (Blk9 45 w2 wr.heap.size z) := hide ((hkt.2.2 _ (by rw [hs0]; exact Nat.le_refl _) HP9.out.lt).trans HP9.out)
        obtain ⟨y0, y1, y2, y3, y4, y5, y6, y7, y8⟩ := cells9 HP2.out
        clear d0 d1 d2 f0 f1 f2 e0 e1 e2 e3 e4 e5 e6 e7 e8 HBXA HRBA HDOA HBA HAP HP9 HTA hW0 hs0 hbs0 hkt hws HP2
        obtain ⟨d0, d1, d2, f0, f1, f2⟩ := cells3 HBX2.out
        have hown := hide hto.row
        have hol := takeP_len pre z
        have hdn := HDO2.out.len
        have HFT := hide (fun (h : takeB pre z = true) => stepG_fits (pre := pre) (p := z) HC.out h)
        have HN5 := hide (fun (h : takeB pre z = false) (h5 : z.r.kind = 5) => stepG_no5 (pre := pre) (p := z) HC.out h h5)
        have HNO := hide (fun (h : takeB pre z = false) (h5 : ¬ z.r.kind = 5) => stepG_no (pre := pre) (p := z) HC.out h h5)
        rw [hmx] at HFT HN5 HNO
        obtain ⟨own, hown2⟩ : ∃ own, takeP pre z = own := ⟨_, rfl⟩
        obtain ⟨tb, htb⟩ : ∃ tb, takeB pre z = tb := ⟨_, rfl⟩
        rw [hown2] at hown hol HFT
        rw [htb] at HFT HN5 HNO
        rw [hown2, htb]
        have HBH := hide (implBehind_any w2 da ta dn dc own.length tcp x.dir own HDO2.out.row hown.out (by omega))
        clear hto hown2 htb hmx
        cases tb with
        | true =>
          have HST := hide (HFT.out rfl)
          clear HFT HN5 HNO y0 y1 y2 y3 y4 y5 y6 y7 y8
          go_wp2_with fail
          refine HBH.out.mono ?_
          rintro e w3 ⟨⟨a3, n3, c3, rfl, hr3, hcs⟩, hb3⟩
          have hle : w.heap.size ≤ w2.heap.size := HB2.out.size
          have HO3 : Hid (entSh.Own 71 w3 W.heap.size (.slice a3 n3 c3) (behindP x.dir own)) := hide (by
            rcases hcs with ⟨h0, h1, h2, h3⟩ | h0
            · rw [h0, h1, h2, h3]
              exact HDO2.out.later hb3 (Nat.le_refl _)
            · exact h0.mono (by have h1 := HBW.out; have h2 := HW2.out.blt; omega))
          have hn3 := hr3.len
          have HBX3 := hide ((hb3.block _ (Array.getElem?_eq_some_iff.1 HBX2.out).1).trans HBX2.out)
          have HRB3 := hide ((hb3.block _ (Array.getElem?_eq_some_iff.1 HRB2.out).1).trans HRB2.out)
          have HW3 := hide (HW2.out.later hb3)
          have HB3 := hide (HB2.out.trans (hb3.mono HB2.out.size))
          clear hr3 hcs hb3 HBH HBX2 HRB2 HDO2 HB2 HW2 d0 d1 d2 f0 f1 f2
          obtain ⟨d0, d1, d2, f0, f1, f2⟩ := cells3 HBX3.out
          have HBX4 := hide (box0_set (u := .slice a3 n3 c3) HBX3.out)
          have HRB4 := hide (other_set (C := w.heap.size) (j := 0) (u := .slice a3 n3 c3) HRB3.out hGne)
          have HO4 := hide (HO3.out.setNe ⟨w.heap.size, 0, none⟩ (.slice a3 n3 c3) (ent_off HO3.out HBX3.out (by decide)))
          have HW4 := hide (HW3.out.setG (j := 0) (u := .slice a3 n3 c3) HBX3.out)
          have HB4 : Hid (Below w.heap.size w (w3.setCell ⟨w.heap.size, 0, none⟩ (.slice a3 n3 c3))) := hide (Below.setCell HB3.out (by exact Nat.le_refl _) _)
          by_cases h20 : 20 < n3
          · have t20 : decide ((20 : Int) < (n3 : Int)) = true := by simp; omega
            have HY : Hid (fitG x own mx = ⟨behindP x.dir own, mx, 2⟩) := hide (by unfold fitG; rw [if_pos (by omega)])
            have HV := hide (regF_stuck g xs (k + 1) ⟨behindP x.dir own, mx, 2⟩ (by rw [HE.out, HST.out, HY.out]) (show ¬ (2 : Int) = 0 by decide))
            have HO5 := hide (HO4.out.setNe ⟨w.heap.size, 2, none⟩ (.int .i64 2) (ent_off HO4.out HBX4.out (by decide)))
            have HB5 : Hid (Below w.heap.size w ((w3.setCell ⟨w.heap.size, 0, none⟩ (.slice a3 n3 c3)).setCell ⟨w.heap.size, 2, none⟩ (.int .i64 2))) := hide (Below.setCell HB4.out (by exact Nat.le_refl _) _)
            clear h20 hn3 hol hdn hdl hlk hle HST HY HE HTK HC HBX4 HRB4 HO4 HW4 HB4 HO3 HW3 HB3 HBX3 tc
            obtain ⟨r0, r1, r2, r3, r4, r5⟩ := cells3 HRB3.out
            go_wp2
            try rw [Exit.noGoto_ret]
            refine bodyPost_ret (v := .agg #[.slice a3 n3 c3, .int .i64 mx, .int .i64 2]) (by simp [results, Tryz.results48, go_sem, *]) rfl ?_
            refine ⟨⟨a3, n3, c3, by rw [HV.out], ?_⟩, ?_⟩
            · rw [HV.out]
              exact ((((HO5.out).setCell ⟨w.heap.size + 1, 0, none⟩ _ HRR.out).setCell ⟨w.heap.size + 1, 1, none⟩ _ HRR.out).setCell ⟨w.heap.size + 1, 2, none⟩ _ HRR.out).mono (Nat.le_of_lt (Nat.lt_trans (Nat.lt_succ_self _) HRR.out))
            · exact Below.setCell (Below.setCell (Below.setCell (HB5.out) (by exact Nat.le_succ _) _) (by exact Nat.le_succ _) _) (by exact Nat.le_succ _) _
          · have t20 : decide ((20 : Int) < (n3 : Int)) = false := by simp; omega
            have HY : Hid (fitG x own mx = ⟨behindP x.dir own, mx, 0⟩) := hide (by unfold fitG; rw [if_neg (by omega)])
            have HX4 : Hid (regL g (xs.take (k + 1)) = ⟨behindP x.dir own, mx, 0⟩) := hide (by rw [HE.out, HST.out, HY.out])
            have HG4 : Hid (GBox (w3.setCell ⟨w.heap.size, 0, none⟩ (.slice a3 n3 c3)) W.heap.size w.heap.size ⟨behindP x.dir own, mx, 0⟩) := hide ⟨a3, n3, c3, HBX4.out, HO4.out⟩
            clear h20 hn3 hol hdn hdl hlk hle HST HY HE HTK HC HO3 HW3 HB3 HBX3 HRB3 HBX4 HO4 tc
            go_wp2
            go_roundw
            case rel => exact ⟨k + 1, _, by omega, by go_num, HX4, hide rfl, HG4, HW4, HRB4, HB4⟩
            case measure => first | (simp [nI]; done) | (simp [nI]; omega)
        | false =>
          by_cases h5 : z.r.kind = 5
          · have t5 := ieq _ _ h5
            have HST := hide (HN5.out rfl h5)
            have HV := hide (regF_stuck g xs (k + 1) ⟨x.dir, mx, 1⟩ (by rw [HE.out, HST.out]) (show ¬ (1 : Int) = 0 by decide))
            have HO5 := hide (HDO2.out.setNe ⟨w.heap.size, 2, none⟩ (.int .i64 1) (ent_off HDO2.out HBX2.out (by decide)))
            have HB5 : Hid (Below w.heap.size w (w2.setCell ⟨w.heap.size, 2, none⟩ (.int .i64 1))) := hide (Below.setCell HB2.out (by exact Nat.le_refl _) _)
            clear h5 hol hdn hdl hlk HFT HN5 HNO HST HE HTK HC HBH HBX2 HDO2 HW2 HB2 tc
            obtain ⟨r0, r1, r2, r3, r4, r5⟩ := cells3 HRB2.out
            go_wp2
            try rw [Exit.noGoto_ret]
            refine bodyPost_ret (v := .agg #[.slice da dn dc, .int .i64 mx, .int .i64 1]) (by simp [results, Tryz.results48, go_sem, *]) rfl ?_
            refine ⟨⟨da, dn, dc, by rw [HV.out], ?_⟩, ?_⟩
            · rw [HV.out]
              exact ((((HO5.out).setCell ⟨w.heap.size + 1, 0, none⟩ _ HRR.out).setCell ⟨w.heap.size + 1, 1, none⟩ _ HRR.out).setCell ⟨w.heap.size + 1, 2, none⟩ _ HRR.out).mono (Nat.le_of_lt (Nat.lt_trans (Nat.lt_succ_self _) HRR.out))
            · exact Below.setCell (Below.setCell (Below.setCell (HB5.out) (by exact Nat.le_succ _) _) (by exact Nat.le_succ _) _) (by exact Nat.le_succ _) _
          · have t5 := ine _ _ h5
            have HST := hide (HNO.out rfl h5)
            have HX4 : Hid (regL g (xs.take (k + 1)) = ⟨x.dir, mx, 0⟩) := hide (by rw [HE.out, HST.out])
            have HG4 : Hid (GBox w2 W.heap.size w.heap.size ⟨x.dir, mx, 0⟩) := hide ⟨da, dn, dc, HBX2.out, HDO2.out⟩
            clear h5 hol hdn hdl hlk HFT HN5 HNO HST HE HTK HC HBH HBX2 HDO2 tc
            go_wp2
            go_roundw
            case rel => exact ⟨k + 1, _, by omega, by go_num, HX4, hide rfl, HG4, HW2, HRB2, HB2⟩
            case measure => first | (simp [nI]; done) | (simp [nI]; omega)
      · obtain rfl : k = m := by omega
        have HV0 := hide (regF_end g xs k x (by omega) HX.out)
        have htk : xs.take k = xs := List.take_of_length_le (by omega)
        rw [htk] at HW
        obtain ⟨M, kv, f, nn, D, hS⟩ := HW.out
        obtain ⟨fa, fc, hfv⟩ : ∃ a cap, kv = .slice a (keptP xs).length cap := by
          rcases hS.kown.2 with ⟨e, h0⟩ | ⟨g, c, cur, e, _⟩
          · exact ⟨none, 0, by rw [e, h0]⟩
          · exact ⟨_, _, e⟩
        obtain ⟨b0, b1, -⟩ := cellsB hS.box
        rw [hfv] at b1
        rw [HC.out] at HBX d2
        clear hS hfv HW htk
        by_cases hk2 : keptP xs = []
        · rw [hk2] at b1
          have HV : Hid (regF g xs = ⟨x.dir, x.last, 0⟩) := hide (by
            have hc := HC.out
            rw [HV0.out]
            unfold endG
            rw [if_neg (fun q => q.2 hk2)]
            cases x
            simp only at hc
            rw [hc])
          clear HV0 hk2 HC HX hlt hk tc
          obtain ⟨r0, r1, r2, r3, r4, r5⟩ := cells3 HRB.out
          go_wp2
          try rw [Exit.noGoto_ret]
          refine bodyPost_ret (v := .agg #[.slice da dn dc, .int .i64 x.last, .int .i64 0]) (by simp [results, Tryz.results48, go_sem, *]) rfl ?_
          refine ⟨⟨da, dn, dc, by rw [HV.out], ?_⟩, ?_⟩
          · rw [HV.out]
            exact ((((HDO.out).setCell ⟨w.heap.size + 1, 0, none⟩ _ HRR.out).setCell ⟨w.heap.size + 1, 1, none⟩ _ HRR.out).setCell ⟨w.heap.size + 1, 2, none⟩ _ HRR.out).mono (Nat.le_of_lt (Nat.lt_trans (Nat.lt_succ_self _) HRR.out))
          · exact Below.setCell (Below.setCell (Below.setCell (HB.out) (by exact Nat.le_succ _) _) (by exact Nat.le_succ _) _) (by exact Nat.le_succ _) _
        · have hl0 : 0 < (keptP xs).length := by
            rcases Nat.eq_zero_or_pos (keptP xs).length with q | q
            · exact absurd (List.eq_nil_of_length_eq_zero q) hk2
            · exact q
          have HV : Hid (regF g xs = ⟨x.dir, x.last, 1⟩) := hide (by
            rw [HV0.out]
            unfold endG
            rw [if_pos ⟨HC.out, hk2⟩])
          obtain ⟨kl, hkl⟩ : ∃ kl, (keptP xs).length = kl := ⟨_, rfl⟩
          rw [hkl] at b1 hl0
          have HO5 := hide (HDO.out.setNe ⟨w.heap.size, 2, none⟩ (.int .i64 1) (ent_off HDO.out HBX.out (by decide)))
          have HB5 : Hid (Below w.heap.size w (wr.setCell ⟨w.heap.size, 2, none⟩ (.int .i64 1))) := hide (Below.setCell HB.out (by exact Nat.le_refl _) _)
          clear HV0 hk2 HC HX hlt hk hkl tc
          obtain ⟨r0, r1, r2, r3, r4, r5⟩ := cells3 HRB.out
          go_wp2
          try rw [Exit.noGoto_ret]
          refine bodyPost_ret (v := .agg #[.slice da dn dc, .int .i64 x.last, .int .i64 1]) (by simp [results, Tryz.results48, go_sem, *]) rfl ?_
          refine ⟨⟨da, dn, dc, by rw [HV.out], ?_⟩, ?_⟩
          · rw [HV.out]
            exact ((((HO5.out).setCell ⟨w.heap.size + 1, 0, none⟩ _ HRR.out).setCell ⟨w.heap.size + 1, 1, none⟩ _ HRR.out).setCell ⟨w.heap.size + 1, 2, none⟩ _ HRR.out).mono (Nat.le_of_lt (Nat.lt_trans (Nat.lt_succ_self _) HRR.out))
          · exact Below.setCell (Below.setCell (Below.setCell (HB5.out) (by exact Nat.le_succ _) _) (by exact Nat.le_succ _) _) (by exact Nat.le_succ _) _
  · have tc : (g.code != 0) = true := by simpa using hc
    have HV := hide (regF_stuck g xs 0 g rfl hc)
    clear hc
    obtain ⟨r0, r1, r2, r3, r4, r5⟩ := cells3 HR2.out
    go_wp2
    try rw [Exit.noGoto_ret]
    refine bodyPost_ret (v := .agg #[.slice a1 n c1, .int .i64 g.last, .int .i64 g.code]) (by simp [results, Tryz.results48, go_sem, *]) rfl ?_
    refine ⟨⟨a1, n, c1, by rw [HV.out], ?_⟩, ?_⟩
    · rw [HV.out]
      exact ((((HO2.out).setCell ⟨w.heap.size + 1, 0, none⟩ _ HRR.out).setCell ⟨w.heap.size + 1, 1, none⟩ _ HRR.out).setCell ⟨w.heap.size + 1, 2, none⟩ _ HRR.out).mono (Nat.le_of_lt (Nat.lt_trans (Nat.lt_succ_self _) HRR.out))
    · exact Below.setCell (Below.setCell (Below.setCell (HB2.out) (by exact Nat.le_succ _) _) (by exact Nat.le_succ _) _) (by exact Nat.le_succ _) _

end Go.Proofs.YtimpokbcfjgdaaaGreatDoor
