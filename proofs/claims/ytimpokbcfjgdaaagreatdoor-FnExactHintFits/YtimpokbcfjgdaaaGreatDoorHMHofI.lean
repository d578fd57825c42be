/-
  impl.HintOf, under what the package's table and its errors hold.
-/
import Derived.Test.YtimpokbcfjgdaaaGreatDoorHMSpotsI
import Derived.Test.YtimpokbcfjgdaaaGreatDoorHMSameLI
import Derived.Test.YtimpokbcfjgdaaaGreatDoorHMScanI
import Derived.Test.YtimpokbcfjgdaaaGreatDoorHMGroupI
import Derived.Test.YtimpokbcfjgdaaaGreatDoorHMIdOkI
import Derived.Test.YtimpokbcfjgdaaaGreatDoorHMHintLaw
namespace Go.Proofs.YtimpokbcfjgdaaaGreatDoor
open Go.RowKit
open Plain

theorem row_take {α : Type} {S : Shape α} {w : World} {a : Option Addr} {n : Nat} {xs : List α} (h : S.Row w a n xs) (k : Nat) (hk : k ≤ n) : S.Row w a k (xs.take k) where
  len := by rw [List.length_take, h.len]; omega
  cells := fun i hi => by
    have hl := h.len
    rw [List.length_take] at hi
    obtain ⟨b, off, h1, h2, h3⟩ := h.cells i (by omega)
    refine ⟨b, off, h1, h2, fun j hj => ?_⟩
    rw [List.getElem_take]
    exact h3 j hj
theorem hof_unmarked {id : Int} {n : Nat} {L : List SpotV} {e : Nat} (h : markedM L = false) : hofL id n L e = (zeroH, false) := by
  refine hof_no ?_
  cases q : hofB id n L e with
  | false => rfl
  | true =>
    exfalso
    unfold hofB at q
    rw [Bool.and_eq_true, Bool.and_eq_true] at q
    have h1 := of_decide_eq_true q.1
    have h2 := keep_kind q.2.1
    have : markedM L = true := decide_eq_true ⟨h2, h1.2.1, h1.2.2.1⟩
    rw [h] at this
    cases this
theorem dir_len (id : Int) (L : List SpotV) (hm : markedM L = true) : (regF zeroG (L.map (spotP id))).dir.length ≤ L.length := by
  obtain ⟨hk, hne, h5⟩ := of_decide_eq_true hm
  have hsp : L.map (spotP id) = (initSp L).map (spotP id) ++ [spotP id (lastSp L)] := by
    conv => lhs; rw [last_split hne]
    rw [List.map_append]
    rfl
  have hk4 : ∀ p ∈ (initSp L).map (spotP id), p.r.kind = 4 := fun p hp => by
    obtain ⟨q, hq, rfl⟩ := List.mem_map.1 hp
    exact hk q hq
  have hil := init_len L
  rw [hsp, reg_merged _ _ hk4 h5]
  split
  · unfold fitG
    have := behindP_len ((initSp L).map (spotP id)) []
    rw [List.length_map] at this
    simp only [List.length_nil] at this ⊢
    omega
  · exact Nat.zero_le _
/-- A row of the call's own, as a slice. -/
theorem own_slice {α : Type} {S : Shape α} {T : TypeId} {w : World} {base : Nat} {v : Value} {xs : List α} (h : S.Own T w base v xs) : ∃ a cap, v = .slice a xs.length cap := by
  rcases h.2 with ⟨e, h0⟩ | ⟨g, cap, cur, e, _⟩
  · exact ⟨none, 0, by rw [e, h0]⟩
  · exact ⟨_, _, e⟩
theorem spots_fit (id : Int) {L : List SpotV} (h : ∀ p ∈ L, recOkB p.r = true) : PFits (L.map (spotP id)) := fun p hp => by
  obtain ⟨q, hq, rfl⟩ := List.mem_map.1 hp
  have := rec_bd (h q hq)
  have e1 : (spotP id q).r = q.r := rfl
  rw [e1]
  refine ⟨by unfold maxLen; omega, by unfold maxLen; omega, ?_⟩
  have e1 : IntKind.i64.min = -9223372036854775808 := by decide
  have e2 : IntKind.i64.max = 9223372036854775807 := by decide
  simp only [Lit.wf, Bool.and_eq_true, decide_eq_true_eq, e1, e2]
  exact ⟨by omega, by omega⟩

set_option maxRecDepth 100000 in
set_option maxHeartbeats 4000000 in
theorem implHof_any (id : Int) (s : ByteArray) (hs : s.size ≤ 1048576) (A B : Addr) (w : World) (ht : STab w) (he : ErrIn w A B) :
    Calls Tryz.prog 13 #[.int .i64 id, .string s] w fun e w' => (∃ a n cap, e = .returned (.tuple #[.agg #[.int .i64 (hof id s).1.size, .int .i64 (hof id s).1.mark, .slice a n cap], .bool (hof id s).2]) ∧ entSh.Own 71 w' w.heap.size (.slice a n cap) (hof id s).1.list) ∧ Below w.heap.size w w' := by
  obtain ⟨W, hW⟩ : ∃ W, W = w.alloc (.cells #[.int .i64 0, .int .i64 0, .slice none 0 0] 26) := ⟨_, rfl⟩
  have HW0 : Hid (W.heap[w.heap.size]? = some (.cells #[.int .i64 0, .int .i64 0, .slice none 0 0] 26 (0, 0))) := hide (by rw [hW]; exact heap_alloc_new w _)
  have HB0 : Hid (Below w.heap.size w W) := hide (by rw [hW]; exact (Below.refl _ w).alloc (Nat.le_refl _) _)
  have HT : Hid (∀ W', Below w.heap.size w W' → STab W') := hide (fun W' h => ht.later h)
  have HER : Hid (∀ W', Below w.heap.size w W' → ErrIn W' A B) := hide (fun W' h => he.later h (Nat.le_refl _))
  have HE : Hid (∀ W', Below w.heap.size w W' → hof id s = (zeroH, false) → (∃ a n cap, Ending.returned (.tuple #[.agg #[.int .i64 0, .int .i64 0, .slice none 0 0], .bool false]) = .returned (.tuple #[.agg #[.int .i64 (hof id s).1.size, .int .i64 (hof id s).1.mark, .slice a n cap], .bool (hof id s).2]) ∧ entSh.Own 71 W' w.heap.size (.slice a n cap) (hof id s).1.list) ∧ Below w.heap.size w W') := hide (fun W' hb e => by
    rw [e]
    exact ⟨⟨none, 0, 0, rfl, Shape.Own.nil entSh 71 W' _⟩, hb⟩)
  have HSC := hide (fun W' h1 h2 => implScan_any s hs A B W' h1 h2)
  have hR := scanS_right s
  have hLn := scanS_len' s
  have HH : Hid (hof id s = hofL id s.size (scanS s).1 (scanS s).2) := hide rfl
  clear ht he
  obtain ⟨L, hL⟩ : ∃ L, (scanS s).1 = L := ⟨_, rfl⟩
  obtain ⟨en, hen⟩ : ∃ en, (scanS s).2 = en := ⟨_, rfl⟩
  rw [hL, hen] at HSC HH
  rw [hL] at hR hLn
  have HR := hide hR
  have HLN := hide hLn
  have HID := hide (fun W => idOk_any id W)
  clear hL hen hR hLn
  go_enter Tryz.func13, Tryz.ntmps13
  go_wp2_with fail
  rw [← hW]
  clear hW
  refine (HSC.out W (HT.out W HB0.out) (HER.out W HB0.out)).mono ?_
  rintro e w1 ⟨⟨v, rfl, ho1⟩, hb1⟩
  obtain ⟨sa, scap, rfl⟩ := own_slice ho1
  have HO1 := hide ho1
  have HX1 := hide ((hb1.block _ (lt_of_block HW0.out)).trans HW0.out)
  have HB1 := hide (HB0.out.trans (hb1.mono HB0.out.size))
  clear ho1 hb1 HSC HW0 HB0
  by_cases hid : 1 ≤ id ∧ id ≤ 100000
  · have hid2 : decide (1 ≤ id ∧ id ≤ 100000) = true := decide_eq_true hid
    rw [hid2] at HID
    have HIDP := hide hid
    clear hid hid2
    by_cases hee : en = s.size
    · have t1 : ((en : Int) != (s.size : Int)) = false := by simp [hee]
      have HEE := hide hee
      clear hee
      have HKM := hide (implKept_any w1 sa L.length scap L HO1.out.row (by have := HLN.out; omega))
      cases hm : markedM L with
      | false =>
        have HV : Hid (hof id s = (zeroH, false)) := hide (by rw [HH.out]; exact hof_unmarked hm)
        rw [hm] at HKM
        clear hm HH
        go_wp2_with (first
          | (go_at_call 44; refine (HID.out _).mono ?_; rintro e w2 ⟨rfl, rfl⟩)
          | (go_at_call 45; refine HKM.out.mono ?_; rintro e w2 ⟨rfl, hb2⟩; have HB2 := hide (HB1.out.trans (hb2.mono HB1.out.size)); obtain ⟨y0, y1, y2, f0, f1, f2⟩ := cells3h ((hb2.block _ (lt_of_block HX1.out)).trans HX1.out); clear hb2))
        refine bodyPost_ret (v := .tuple #[.agg #[.int .i64 0, .int .i64 0, .slice none 0 0], .bool false]) (by simp [results, Tryz.results13, go_sem, *]) rfl (HE.out _ ?_ HV.out)
        iterate 3 (refine Below.setCell ?_ (by exact Nat.le_refl _) _)
        exact HB2.out
      | true =>
        rw [hm] at HKM
        have HM := hide hm
        clear hm
        go_wp2_with (first
          | (go_at_call 44; refine (HID.out _).mono ?_; rintro e w2 ⟨rfl, rfl⟩)
          | (go_at_call 45; refine HKM.out.mono ?_; rintro e w2 ⟨rfl, hb2⟩; have HB2 := hide (HB1.out.trans (hb2.mono HB1.out.size)); have HX2 := hide ((hb2.block _ (lt_of_block HX1.out)).trans HX1.out); have HO2 := hide (HO1.out.later hb2 (Nat.le_refl _)); clear hb2)
          | fail)
        have hLN := HLN.out
        have HPL := hide (implPlaces_any w2 id sa L.length scap L HO2.out.row (by omega))
        have HGS := hide (group_says id L HR.out HM.out)
        have HFT := hide (spots_fit id HR.out)
        have HDL := hide (dir_len id L HM.out)
        have HN0 : Hid (0 < L.length) := hide (List.length_pos_iff.2 (of_decide_eq_true HM.out).2.1)
        have HHV : Hid ((keepsM L && fitsM L) = true → hof id s = (⟨(s.size : Int), (lastSp L).r.batch, (initSp L).map (spotE id)⟩, true)) := hide (fun h => by
          obtain ⟨-, h1, h2⟩ := of_decide_eq_true HM.out
          rw [HH.out]
          refine hof_yes ?_
          unfold hofB headM
          rw [h, Bool.and_true]
          exact decide_eq_true ⟨HEE.out, h1, h2, HIDP.out⟩)
        have HHZ : Hid (¬ (keepsM L && fitsM L) = true → hof id s = (zeroH, false)) := hide (fun h => by
          rw [HH.out]
          refine hof_no ?_
          unfold hofB
          rw [Bool.eq_false_iff.2 h, Bool.and_false])
        clear HH HM HID HKM HIDP HEE hLN
        refine HPL.out.mono ?_
        rintro e w3 ⟨⟨pa, pn, pc, rfl, ho3⟩, hb3⟩
        have hpl := ho3.len
        rw [List.length_map] at hpl
        have hcap : pn ≤ pc := by
          rcases ho3.2 with ⟨e, _⟩ | ⟨g0, c0, cur0, e, _, _, h1, _⟩
          · injection e; omega
          · injection e; omega
        obtain rfl : pn = L.length := hpl.symm
        have HO3 := hide ho3
        have HB3 := hide (HB2.out.trans (hb3.mono HB2.out.size))
        have HX3 := hide ((hb3.block _ (lt_of_block HX2.out)).trans HX2.out)
        clear ho3 hb3 HPL HO2 HB2 HX2
        obtain ⟨n, hn⟩ : ∃ n, L.length = n + 1 := ⟨L.length - 1, by have := HN0.out; omega⟩
        have hnm : n < (L.map (spotP id)).length := by rw [List.length_map]; omega
        obtain ⟨b, off, rfl, hbw, -, -, -, -, e4, -⟩ := pl_cells HO3.out.row n hnm
        have HMB : Hid ((lastSp L).r.batch = ((L.map (spotP id))[n]).r.batch) := hide (by
          rw [List.getElem_map]
          unfold lastSp
          rw [spD (by omega)]
          have : L.length - 1 = n := by omega
          simp only [this]
          rfl)
        rw [← HMB.out] at e4
        have HIN : Hid ((L.map (spotP id)).take n = (initSp L).map (spotP id)) := hide (by unfold initSp; rw [← List.map_take, show L.length - 1 = n by omega])
        have HRT := hide (row_take HO3.out.row n (by omega))
        have HEN := hide (implEntries_any w3 (some ⟨b, off, none⟩) n pc ((L.map (spotP id)).take n) HRT.out (by have := HLN.out; omega))
        have hpc : n ≤ pc := by omega
        have hnz : n ≤ 1048576 := by have := HLN.out; omega
        have HNL := hide hn
        rw [hn] at HO3 HO1 ⊢
        clear HMB hnm hcap hn HN0 hpl HO1 HX1 HB1 t1
        generalize (lastSp L).r.batch = mk at *
        go_wp2_with fail
        refine HEN.out.mono ?_
        rintro e w4 ⟨⟨la, ln, lc, rfl, ho4⟩, hb4⟩
        rw [HIN.out, map_entOf] at ho4
        have hll := ho4.len
        rw [List.length_map, init_len] at hll
        have HO4 := hide ho4
        have HR4 := hide (HO3.out.row.later hb4)
        have HB4 := hide (HB3.out.trans (hb4.mono HB3.out.size))
        have HX4 := hide ((hb4.block _ (lt_of_block HX3.out)).trans HX3.out)
        have HLL := hide hll
        have HBW3 : Hid (w.heap.size < w3.heap.size) := hide (lt_of_block HX3.out)
        clear HX3
        clear ho4 hb4 hll HEN HO3 HB3 e4 HRT HIN hbw
        have HRG := hide (implReg_any w4 (HT.out w4 HB4.out) none (some ⟨b, off, none⟩) 0 0 (n + 1) pc zeroG (L.map (spotP id)) ⟨rfl, fun i hi => absurd hi (Nat.not_lt_zero _)⟩ HR4.out HFT.out (.inl rfl) (by omega) (by have := HNL.out; have := HLN.out; omega))
        clear HR4 HFT
        obtain ⟨gl, hgl⟩ : ∃ gl, (regF zeroG (L.map (spotP id))).last = gl := ⟨_, rfl⟩
        obtain ⟨gc, hgc⟩ : ∃ gc, (regF zeroG (L.map (spotP id))).code = gc := ⟨_, rfl⟩
        obtain ⟨gd, hgd⟩ : ∃ gd, (regF zeroG (L.map (spotP id))).dir = gd := ⟨_, rfl⟩
        rw [hgl, hgc, hgd] at HRG HGS
        rw [hgd] at HDL
        clear hgl hgc hgd
        go_wp2_with fail
        refine HRG.out.mono ?_
        rintro e w5 ⟨⟨da, dn, dc, rfl, ho5⟩, hb5⟩
        have hdl := ho5.len
        have HO5 := hide ho5
        have HL5 := hide (HO4.out.later hb5 (Nat.le_refl _))
        have HB5 := hide (HB4.out.trans (hb5.mono HB4.out.size))
        have HX5 := hide ((hb5.block _ (lt_of_block HX4.out)).trans HX4.out)
        clear ho5 hb5 HRG HO4 HB4 HX4
        obtain ⟨W6, hW6⟩ : ∃ W6, W6 = w5.alloc (.cells #[.slice da dn dc, .int .i64 gl, .int .i64 gc] 47) := ⟨_, rfl⟩
        have HA6 : Hid (Below w5.heap.size w5 W6) := hide (by rw [hW6]; exact al1 w5 _)
        have HG6 : Hid (W6.heap[w5.heap.size]? = some (.cells #[.slice da dn dc, .int .i64 gl, .int .i64 gc] 47 (0, 0))) := hide (by rw [hW6]; exact heap_alloc_new w5 _)
        have HX6 := hide ((HA6.out.block _ (lt_of_block HX5.out)).trans HX5.out)
        have HB6 := hide (HB5.out.trans (HA6.out.mono HB5.out.size))
        have HL6 := hide (HL5.out.later HA6.out (Nat.le_refl _))
        have HLW : Hid (w.heap.size < w3.heap.size) := hide HBW3.out
        have HSM := hide (sameLE_any W6 da la dn ln dc lc gd ((initSp L).map (spotE id)) (HO5.out.later HA6.out (Nat.le_refl _)).row HL6.out.row (by have := HDL.out; have := HLN.out; omega) (by have := HLL.out; have := HLN.out; omega))
        obtain ⟨v0, v1, v2, -⟩ := cells3h HG6.out
        obtain ⟨x0, x1, x2, f0, f1, f2⟩ := cells3h HX6.out
        clear HO5 HL5 HX5 HB5 HA6 hdl
        generalize (initSp L).map (spotE id) = ls at *
        generalize (keepsM L && fitsM L) = kf at *
        by_cases q1 : gc = 0
        · have t1 : (gc != 0) = false := by simp [q1]
          by_cases q2 : gl = mk
          · have t2 : (gl != mk) = false := by simp [q2]
            by_cases q3 : gd = ls
            · have HV := hide (HHV.out (HGS.out.1 ⟨q1, q2, q3⟩))
              rw [(sameE_iff gd ls).2 q3] at HSM
              clear q1 q2 q3 HGS HHV HHZ
              rw [hW6] at v0 v1 v2
              go_wp2_with fail
              rw [← hW6]
              refine HSM.out.mono ?_
              rintro e w7 ⟨rfl, hb7⟩
              have HX7 := hide ((hb7.block _ (lt_of_block HX6.out)).trans HX6.out)
              have HB7 := hide (HB6.out.trans (hb7.mono HB6.out.size))
              have HL7 := hide (HL6.out.later hb7 (Nat.le_refl _))
              clear hb7 HSM HX6 HB6 HL6 hW6 v0 v1 v2 x0 x1 x2 f0 f1 f2
              obtain ⟨x0, x1, x2, f0, f1, f2⟩ := cells3h HX7.out
              go_wp2
              refine bodyPost_ret (v := .tuple #[.agg #[.int .i64 s.size, .int .i64 mk, .slice la ln lc], .bool true]) (by simp [results, Tryz.results13, go_sem, *]) rfl ?_
              rw [HV.out]
              have hlw := HLW.out
              refine ⟨⟨la, ln, lc, rfl, ?_⟩, ?_⟩
              · refine Shape.Own.mono ?_ (Nat.le_of_lt HLW.out)
                iterate 3 (refine Shape.Own.setCell ?_ _ _ (by dsimp only; omega))
                exact HL7.out
              · iterate 3 (refine Below.setCell ?_ (by exact Nat.le_refl _) _)
                exact HB7.out
            · have HV := hide (HHZ.out (fun h => q3 (HGS.out.2 h).2.2))
              rw [sameE_no q3] at HSM
              clear q1 q2 q3 HGS HHV HHZ
              rw [hW6] at v0 v1 v2
              go_wp2_with fail
              rw [← hW6]
              refine HSM.out.mono ?_
              rintro e w7 ⟨rfl, hb7⟩
              have HX7 := hide ((hb7.block _ (lt_of_block HX6.out)).trans HX6.out)
              have HB7 := hide (HB6.out.trans (hb7.mono HB6.out.size))
              clear hb7 HSM HX6 HB6 HL6 hW6 v0 v1 v2 x0 x1 x2 f0 f1 f2
              obtain ⟨x0, x1, x2, f0, f1, f2⟩ := cells3h HX7.out
              go_wp2
              refine bodyPost_ret (v := .tuple #[.agg #[.int .i64 0, .int .i64 0, .slice none 0 0], .bool false]) (by simp [results, Tryz.results13, go_sem, *]) rfl (HE.out _ ?_ HV.out)
              iterate 3 (refine Below.setCell ?_ (by exact Nat.le_refl _) _)
              exact HB7.out
          · have t2 : (gl != mk) = true := by simpa using q2
            have HV := hide (HHZ.out (fun h => q2 (HGS.out.2 h).2.1))
            clear q1 q2 HGS HHV HHZ HSM
            rw [hW6] at v0 v1 v2 x0 x1 x2 f0 f1 f2
            go_wp2
            rw [← hW6]
            refine bodyPost_ret (v := .tuple #[.agg #[.int .i64 0, .int .i64 0, .slice none 0 0], .bool false]) (by simp [results, Tryz.results13, go_sem, *]) rfl (HE.out _ ?_ HV.out)
            iterate 3 (refine Below.setCell ?_ (by exact Nat.le_refl _) _)
            exact HB6.out
        · have t1 : (gc != 0) = true := by simpa using q1
          have HV := hide (HHZ.out (fun h => q1 (HGS.out.2 h).1))
          clear q1 HGS HHV HHZ HSM
          rw [hW6] at v0 v1 v2 x0 x1 x2 f0 f1 f2
          go_wp2
          rw [← hW6]
          refine bodyPost_ret (v := .tuple #[.agg #[.int .i64 0, .int .i64 0, .slice none 0 0], .bool false]) (by simp [results, Tryz.results13, go_sem, *]) rfl (HE.out _ ?_ HV.out)
          iterate 3 (refine Below.setCell ?_ (by exact Nat.le_refl _) _)
          exact HB6.out
    · have t1 : ((en : Int) != (s.size : Int)) = true := by simp; omega
      have HV : Hid (hof id s = (zeroH, false)) := hide (by rw [HH.out]; exact hof_head (by unfold headM; apply decide_eq_false; rintro ⟨h1, -⟩; exact hee h1))
      obtain ⟨y0, y1, y2, f0, f1, f2⟩ := cells3h HX1.out
      clear hee HH
      go_wp2_with (go_at_call 44; refine (HID.out _).mono ?_; rintro e w2 ⟨rfl, rfl⟩)
      refine bodyPost_ret (v := .tuple #[.agg #[.int .i64 0, .int .i64 0, .slice none 0 0], .bool false]) (by simp [results, Tryz.results13, go_sem, *]) rfl (HE.out _ ?_ HV.out)
      iterate 3 (refine Below.setCell ?_ (by exact Nat.le_refl _) _)
      exact HB1.out
  · have HV : Hid (hof id s = (zeroH, false)) := hide (by rw [HH.out]; exact hof_head (by unfold headM; apply decide_eq_false; rintro ⟨-, -, -, h1⟩; exact hid h1))
    rw [decide_eq_false hid] at HID
    obtain ⟨y0, y1, y2, f0, f1, f2⟩ := cells3h HX1.out
    clear hid HH
    go_wp2_with (go_at_call 44; refine (HID.out _).mono ?_; rintro e w2 ⟨rfl, rfl⟩)
    refine bodyPost_ret (v := .tuple #[.agg #[.int .i64 0, .int .i64 0, .slice none 0 0], .bool false]) (by simp [results, Tryz.results13, go_sem, *]) rfl (HE.out _ ?_ HV.out)
    iterate 3 (refine Below.setCell ?_ (by exact Nat.le_refl _) _)
    exact HB1.out

end Go.Proofs.YtimpokbcfjgdaaaGreatDoor
