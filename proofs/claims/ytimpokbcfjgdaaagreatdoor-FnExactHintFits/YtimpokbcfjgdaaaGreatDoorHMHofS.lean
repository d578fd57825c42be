/-
  spec.HintOf.
-/
import Derived.Test.YtimpokbcfjgdaaaGreatDoorHMHofSBase
import Derived.Test.YtimpokbcfjgdaaaGreatDoorHG41
import Derived.Deep.RegionHeld3
namespace Go.Proofs.YtimpokbcfjgdaaaGreatDoor
open Go.RowKit
open Plain

theorem cells6r {w : World} {B : Nat} {x0 x1 x2 x3 x4 x5 : Value} {ty : TypeId} (h : w.heap[B]? = some (.cells #[x0, x1, x2, x3, x4, x5] ty (0, 0))) :
    w.cell? ⟨B, 0, none⟩ = some x0 ∧ w.cell? ⟨B, 1, none⟩ = some x1 ∧ w.cell? ⟨B, 2, none⟩ = some x2 ∧ w.cell? ⟨B, 3, none⟩ = some x3 ∧ w.cell? ⟨B, 4, none⟩ = some x4 ∧ w.cell? ⟨B, 5, none⟩ = some x5 := by
  refine ⟨?_, ?_, ?_, ?_, ?_, ?_⟩ <;> rw [cell_of_row w B _ _ _ _ h] <;> rfl
theorem SHAt.drewN {w : World} {V : Nat} {sa : Option Addr} {sc : Nat} {L : List SpotV} {x mk : Int} {a : Option Addr} {n cap : Nat} {es : List EntV} {rv : Value} {rs : List RecV} {W : World} (h : SHAt w V sa sc L x mk a n cap es rv rs W) (q : Nat) : SHAt w V sa sc L x mk a n cap es rv rs (W.drewN q) :=
  h.later ⟨rfl, rfl, rfl, Nat.le_refl _, fun _ _ => rfl⟩
theorem SHAt.bel1 {w : World} {V : Nat} {sa : Option Addr} {sc : Nat} {L : List SpotV} {x mk : Int} {a : Option Addr} {n cap : Nat} {es : List EntV} {rv : Value} {rs : List RecV} {W : World} (h : SHAt w V sa sc L x mk a n cap es rv rs W) : w.heap.size + 1 ≤ W.heap.size := lt_of_block h.res
/-- A row's block is of its own type. -/
theorem own_neB {α : Type} {S : Shape α} {T T2 : TypeId} {w : World} {base B : Nat} {v : Value} {xs : List α} {cs : Array Value} {fr : Nat × Nat} (h : S.Own T w base v xs) (hB : w.heap[B]? = some (.cells cs T2 fr)) (hT : T ≠ T2) : v.ownBlock ≠ some B := by
  intro e
  rcases h.2 with ⟨h1, _⟩ | ⟨g, c, cur, e1, _, hg1, _⟩
  · rw [h1] at e; cases e
  · rw [e1] at e
    obtain rfl : g = B := Option.some.inj e
    rw [hB] at hg1
    injection hg1 with q
    injection q with q1 q2
    exact hT q2.symm
theorem segS_no {n : Int} (h : ¬ (1 ≤ n ∧ n ≤ 100000)) : segS n = ⟨#[]⟩ := if_neg h
theorem segS_some {n : Int} (h : 1 ≤ n ∧ n ≤ 100000) : ¬ (segS n).size = 0 := by
  rw [segS_in n h, ByteArray.size_append]
  have : segP.size = 3 := by decide
  omega

set_option linter.unusedSimpArgs false in
set_option maxRecDepth 100000 in
set_option maxHeartbeats 4000000 in
theorem specHof_any (id : Int) (s : ByteArray) (hs : s.size ≤ 1048576) (w : World) :
    Calls Tryz.prog 17 #[.int .i64 id, .string s] w fun e w' => (∃ a n cap, e = .returned (.tuple #[.agg #[.int .i64 (hof id s).1.size, .int .i64 (hof id s).1.mark, .slice a n cap], .bool (hof id s).2]) ∧ entSh.Own 71 w' w.heap.size (.slice a n cap) (hof id s).1.list) ∧ Below w.heap.size w w' := by
  obtain ⟨W, hW⟩ : ∃ W, W = w.alloc (.cells #[.int .i64 0, .int .i64 0, .slice none 0 0] 26) := ⟨_, rfl⟩
  have HW0 : Hid (W.heap[w.heap.size]? = some (.cells #[.int .i64 0, .int .i64 0, .slice none 0 0] 26 (0, 0))) := hide (by rw [hW]; exact heap_alloc_new w _)
  have HB0 : Hid (Below w.heap.size w W) := hide (by rw [hW]; exact (Below.refl _ w).alloc (Nat.le_refl _) _)
  have hWs : W.heap.size = w.heap.size + 1 := by rw [hW]; exact World.size_alloc _ _
  have HE : Hid (∀ W', Below w.heap.size w W' → hof id s = (zeroH, false) → (∃ a n cap, Ending.returned (.tuple #[.agg #[.int .i64 0, .int .i64 0, .slice none 0 0], .bool false]) = .returned (.tuple #[.agg #[.int .i64 (hof id s).1.size, .int .i64 (hof id s).1.mark, .slice a n cap], .bool (hof id s).2]) ∧ entSh.Own 71 W' w.heap.size (.slice a n cap) (hof id s).1.list) ∧ Below w.heap.size w W') := hide (fun W' hb e => by
    rw [e]
    exact ⟨⟨none, 0, 0, rfl, Shape.Own.nil entSh 71 W' _⟩, hb⟩)
  have HSC := hide (fun W' => specScan_any s hs W')
  have hR := scanS_right s
  have hLn := scanS_len' s
  have HH : Hid (hof id s = hofL id s.size (scanS s).1 (scanS s).2) := hide rfl
  obtain ⟨L, hL⟩ : ∃ L, (scanS s).1 = L := ⟨_, rfl⟩
  obtain ⟨en, hen⟩ : ∃ en, (scanS s).2 = en := ⟨_, rfl⟩
  rw [hL, hen] at HSC HH
  rw [hL] at hR hLn
  have HR := hide hR
  have HLN := hide hLn
  have HSG := hide (fun W' => specSeg_any id W')
  clear hL hen hR hLn
  go_enter Tryz.func17, Tryz.ntmps17
  go_wp2_with fail
  rw [← hW]
  clear hW
  refine (HSC.out W).mono ?_
  rintro e w1 ⟨⟨sa, sn, scap, rfl, ho1⟩, hb1⟩
  obtain rfl : L.length = sn := ho1.len
  rw [hWs] at ho1
  have HO1 := hide ho1
  have HX1 := hide ((hb1.block _ (lt_of_block HW0.out)).trans HW0.out)
  have HB1 := hide (HB0.out.trans (hb1.mono HB0.out.size))
  clear ho1 hb1 HSC HW0 HB0 hWs
  by_cases hee : en = s.size
  · have t1 : ((en : Int) != (s.size : Int)) = false := by simp [hee]
    have HEE := hide hee
    clear hee
    by_cases hne : L = []
    · have t2 : ((L.length : Int) == 0) = true := by rw [hne]; rfl
      have HV : Hid (hof id s = (zeroH, false)) := hide (by rw [HH.out]; exact hof_head (by unfold headM; apply decide_eq_false; rintro ⟨-, h1, -⟩; exact h1 hne))
      obtain ⟨y0, y1, y2, f0, f1, f2⟩ := cells3h HX1.out
      clear hne HH
      go_wp2
      refine bodyPost_ret (v := .tuple #[.agg #[.int .i64 0, .int .i64 0, .slice none 0 0], .bool false]) (by simp [results, Tryz.results17, go_sem, *]) rfl (HE.out _ ?_ HV.out)
      iterate 3 (refine Below.setCell ?_ (by exact Nat.le_refl _) _)
      exact HB1.out
    · have hl0 : 0 < L.length := List.length_pos_iff.2 hne
      have HNE := hide hne
      clear hne
      obtain ⟨n, hn⟩ : ∃ n, L.length = n + 1 := ⟨L.length - 1, by omega⟩
      have hnl : n < L.length := by omega
      have HLS : Hid (∀ h : n < L.length, lastSp L = L[n]) := hide (fun _ => by
        unfold lastSp
        have : L.length - 1 = n := by omega
        rw [spD (by omega)]
        simp only [this])
      obtain ⟨b, off, rfl, hbw, -, -, e2, e3, -, -, e6, e7⟩ := sp_cells HO1.out.row n hnl
      rw [← HLS.out hnl] at e2 e3 e6 e7
      have t2 : ((n : Int) + 1 == 0) = false := by simp; omega
      have HNL := hide hn
      have hnz : n ≤ 1048576 := by have := HLN.out; omega
      have HCL : Hid (∀ W', Below w1.heap.size w1 W' → W'.cell? ⟨b, off + n * 8 + 3, none⟩ = some (.int .i64 (lastSp L).r.batch)) := hide (fun W' h => (h.cell (p := ⟨b, off + n * 8 + 3, none⟩) hbw).trans e3)
      rw [hn] at HO1 ⊢
      clear hl0 hnl e6 e7
      by_cases h5 : (lastSp L).r.kind = 5
      · have t3 : ((lastSp L).r.kind != 5) = false := by simp [h5]
        by_cases hid : 1 ≤ id ∧ id ≤ 100000
        · have q1 : (segS id).toList.isEmpty = false := by have := nil_ne (segS_some hid); cases h : (segS id).toList with | nil => exact absurd h this | cons _ _ => rfl
          have HHD : Hid (headM id s.size L en = true) := hide (decide_eq_true ⟨HEE.out, HNE.out, h5, hid⟩)
          clear h5 hid HNE
          generalize segS id = sg at *
          generalize (lastSp L).r.kind = kd at *
          go_wp2_with (go_at_call 56; refine (HSG.out _).mono ?_; rintro e w2 ⟨rfl, hb2⟩; have HB2 := hide (HB1.out.trans (hb2.mono HB1.out.size)); have HO2 := hide (HO1.out.later hb2 (Nat.le_refl _)); have HX2 := hide ((hb2.block _ (lt_of_block HX1.out)).trans HX1.out); have c3 := HCL.out w2 hb2; clear hb2)
          obtain ⟨W3, hW3⟩ : ∃ W3, W3 = w2.alloc (.cells #[.int .i64 s.size, .int .i64 (lastSp L).r.batch, .slice none 0 0] 26) := ⟨_, rfl⟩
          obtain ⟨W4, hW4⟩ : ∃ W4, W4 = W3.alloc (.cells #[] 41) := ⟨_, rfl⟩
          have h3s : W3.heap.size = w2.heap.size + 1 := by rw [hW3]; exact World.size_alloc _ _
          have HA : Hid (SHAt w w2.heap.size (some ⟨b, off, none⟩) scap L s.size (lastSp L).r.batch none 0 0 [] (.slice (some ⟨w2.heap.size + 1, 0, none⟩) 0 0) [] W4) := hide (by
            have g1 : Below w2.heap.size w2 W3 := by rw [hW3]; exact al1 _ _
            have g2 : Below W3.heap.size W3 W4 := by rw [hW4]; exact al1 _ _
            have g3 : Below w2.heap.size w2 W4 := g1.trans (g2.mono g1.size)
            have hl := lt_of_block HX2.out
            refine ⟨(g3.block _ hl).trans HX2.out, (g2.block _ (by omega)).trans (by rw [hW3]; exact heap_alloc_new w2 _), ?_, Shape.Own.nil entSh 71 W4 _, ?_, hl, HB2.out.trans (g3.mono HB2.out.size)⟩
            · rw [HNL.out]
              exact HO2.out.later g3 (Nat.le_refl _)
            · have h := Shape.Own.empty recSh 41 W3
              rw [← hW4, h3s] at h
              exact h.mono (by omega))
          have HV0 : Hid (w.heap.size < w2.heap.size) := hide (lt_of_block HX2.out)
          rw [← hW3, ← h3s, ← hW4]
          rw [h3s] at *
          generalize w2.heap.size = V at *
          clear hW3 hW4 h3s HX2 HB2 HO2 HSG c3 e2 e3 HCL q1 t1 t2 t3 hbw HX1 HB1 HO1
          go_loopw [9, 10] (fun v i wr => ∃ (k : Nat) (a : Option Addr) (cap : Nat) (ra : Option Addr) (rc : Nat), k ≤ n ∧ v = .slice ra k rc ∧ i = .int .i64 k ∧ Hid (SHAt w V (some ⟨b, off, none⟩) scap L s.size (lastSp L).r.batch a k cap ((L.take k).map (spotE id)) (.slice ra k rc) ((L.take k).map SpotV.r) wr) ∧ Hid (∀ i, i < k → keepAt L (lastSp L).r.batch i = true)) (fun _ i _ => n - (intOf i).toNat)
          case atStart => exact ⟨0, none, 0, _, 0, by omega, rfl, rfl, HA, hide (fun i h => absurd h (Nat.not_lt_zero _))⟩
          case round =>
            obtain ⟨k, a, cap, ra, rc, hk, rfl, rfl, HA, HKE⟩ := hrel
            by_cases hlt : k < n
            · have hkl : k < L.length := by omega
              have hk2 : (k : Int) < (n : Int) := by omega
              have hk3 : (k : Int) + 1 < (n : Int) + 1 := by omega
              obtain ⟨b2, o2, q0, hbw, d0, d1, d2, d3, d4, d5, d6, d7⟩ := sp_cells HA.out.spots.row k hkl
              simp only [Option.some.injEq, Addr.mk.injEq] at q0
              obtain ⟨rfl, rfl, -⟩ := q0
              have HME : Hid ((L.take (k + 1)).map (spotE id) = (L.take k).map (spotE id) ++ [spotE id (L[k])]) := hide (map_take_succ _ _ _ hkl)
              have HMR : Hid ((L.take (k + 1)).map SpotV.r = (L.take k).map SpotV.r ++ [(L[k]).r]) := hide (map_take_succ _ _ _ hkl)
              have HKA : Hid (keepAt L (lastSp L).r.batch k = (decide ((L[k]).r.kind = 4) && (decide ((L[k]).r.batch ≤ (lastSp L).r.batch) && (decide (k = 0) || klt (L.getD (k - 1) zeroSp).r.key (L[k]).r.key)))) := hide (by unfold keepAt; rw [spD hkl])
              have HNO : Hid (keepAt L (lastSp L).r.batch k = false → hof id s = (zeroH, false)) := hide (fun h => by
                rw [HH.out]
                refine hof_no ?_
                unfold hofB
                rw [keeps_no (i := k) (by have := HNL.out; omega) h, Bool.false_and, Bool.and_false])
              have HPV : Hid (∀ j, k = j + 1 → wr.cell? ⟨b, off + j * 8 + 4, none⟩ = some (.string (L.getD j zeroSp).r.key)) := hide (fun j hj => by
                obtain ⟨b3, o3, q0, -, -, -, -, -, p4, -⟩ := sp_cells HA.out.spots.row j (by omega)
                simp only [Option.some.injEq, Addr.mk.injEq] at q0
                obtain ⟨rfl, rfl, -⟩ := q0
                rw [spD (by omega)]
                exact p4)
              have HBW := hide hbw
              obtain ⟨z, hz⟩ : ∃ z, L[k] = z := ⟨_, rfl⟩
              rw [hz] at d0 d1 d2 d3 d4 d5 d6 d7 HME HMR HKA
              have HZ : Hid (∀ h : k < L.length, L[k] = z) := hide (fun _ => hz)
              have HKL := hide hkl
              clear hz hkl
              obtain ⟨W2, hW2⟩ : ∃ W2, W2 = wr.alloc (.cells #[.int .i64 z.r.kind, .int .i64 z.r.batch, .string z.r.key, .string z.r.val, .int .i64 z.r.cnt, .int .i64 z.r.sum] 41) := ⟨_, rfl⟩
              have HN2 : Hid (W2.heap[wr.heap.size]? = some (.cells #[.int .i64 z.r.kind, .int .i64 z.r.batch, .string z.r.key, .string z.r.val, .int .i64 z.r.cnt, .int .i64 z.r.sum] 41 (0, 0))) := hide (by rw [hW2]; exact heap_alloc_new wr _)
              have HAL : Hid (Below wr.heap.size wr W2) := hide (by rw [hW2]; exact al1 wr _)
              have HA2 : Hid (SHAt w V (some ⟨b, off, none⟩) scap L s.size (lastSp L).r.batch a k cap ((L.take k).map (spotE id)) (.slice ra k rc) ((L.take k).map SpotV.r) W2) := hide (HA.out.later HAL.out)
              have HD01 : Hid (W2.cell? ⟨b, off + k * 8, none⟩ = some (.int .i64 (z.pos : Nat)) ∧ W2.cell? ⟨b, off + k * 8 + 1, none⟩ = some (.int .i64 (z.len : Nat))) := hide ⟨(HAL.out.cell (p := ⟨b, _, none⟩) hbw).trans d0, (HAL.out.cell (p := ⟨b, _, none⟩) hbw).trans d1⟩
              go_wp2_with fail
              rw [← hW2]
              clear hW2 d0 d1 d2 d3 d4 d5 d6 d7 hbw
              obtain ⟨y0, y1, y2, y3, y4, y5⟩ := cells6r HN2.out
              obtain ⟨-, m1, m2, -, -, fm2⟩ := cells3h HA2.out.row
              obtain ⟨x0, x1, x2, f0, f1, f2⟩ := cells3h HA2.out.res
              have HLR : Hid (((L.take k).map SpotV.r).length ≤ 1099511627775) := hide (by rw [List.length_map, List.length_take]; omega)
              have HLQ : Hid (((L.take k).map SpotV.r).length = k) := hide (by rw [List.length_map, List.length_take]; have := HKL.out; omega)
              by_cases hk4 : z.r.kind = 4
              · have t4 : (z.r.kind != 4) = false := by simp [hk4]
                by_cases hbt : z.r.batch ≤ (lastSp L).r.batch
                · have tb : decide ((lastSp L).r.batch < z.r.batch) = false := by simp; omega
                  have HKA2 : Hid (keepAt L (lastSp L).r.batch k = (decide (k = 0) || klt (L.getD (k - 1) zeroSp).r.key z.r.key)) := hide (by rw [HKA.out, decide_eq_true hk4, decide_eq_true hbt, Bool.true_and, Bool.true_and])
                  clear hk4 hbt HKA
                  by_cases hk0 : k = 0
                  · subst hk0
                    have HKE2 : Hid (∀ i, i < 0 + 1 → keepAt L (lastSp L).r.batch i = true) := hide (fun i hi => by
                      obtain rfl : i = 0 := by omega
                      rw [HKA2.out]; rfl)
                    clear HKA2 HKE HNO HPV
                    go_quiet (fail)
                    go_wp2_with (at_builtin; refine wpList_app_recG rfl _ _ rfl z.r (HA2.out.drewN _).recs (HA2.out.drewN _).bel1 HLR.out rfl rfl rfl ?_; intro ra' n3 rc' w6 hn3 ho3 hg3)
                    obtain rfl : n3 = 0 + 1 := by rw [hn3, HLQ.out]
                    rw [← HMR.out] at ho3
                    have HA6 := hide ((HA2.out.drewN _).addR hg3 ho3)
                    have HN6 : Hid (w6.heap[wr.heap.size]? = some (.cells #[.int .i64 z.r.kind, .int .i64 z.r.batch, .string z.r.key, .string z.r.val, .int .i64 z.r.cnt, .int .i64 z.r.sum] 41 (0, 0))) := hide ((hg3.block _ (lt_of_block HN2.out) (fun e => by have := (HA.out.recs.blk _ e.symm).2; omega)).trans HN2.out)
                    clear ho3 hg3 hn3 y0 y1 y2 y3 y4 y5 m1 m2 fm2 x0 x1 x2 f0 f1 f2 HD01
                    have HA6d := hide (HA6.out.later (Below.refl _ _).drew)
                    have HVN : Hid (V < wr.heap.size) := hide (lt_of_block HA.out.row)
                    have hel := HA6.out.own.len
                    have hVs : w.heap.size + 1 ≤ w6.drew.heap.size := HA6d.out.bel1
                    obtain ⟨r0, r1, r2, -, -, -⟩ := cells6r HN6.out
                    obtain ⟨b2, o2, q0, hbw, d0, d1, -⟩ := sp_cells HA6.out.spots.row (0) HKL.out
                    simp only [Option.some.injEq, Addr.mk.injEq] at q0
                    obtain ⟨rfl, rfl, -⟩ := q0
                    rw [HZ.out HKL.out] at d0 d1
                    have d0 : w6.cell? ⟨b, off, none⟩ = some (.int .i64 (z.pos : Nat)) := d0
                    have d1 : w6.cell? ⟨b, off + 1, none⟩ = some (.int .i64 (z.len : Nat)) := d1
                    obtain ⟨-, -, y2, -, -, -⟩ := cells3h HA6.out.row
                    have HPS : Hid (∀ W1 a' n' cap', n' = ((L.take (0)).map (spotE id)).length + 1 → entSh.Own 71 W1 (w.heap.size + 1) (.slice a' n' cap') ((L.take (0)).map (spotE id) ++ [⟨z.r.key, id, (z.pos : Nat), (z.len : Nat), z.r.batch⟩]) → w6.drew.grownBy W1 (Value.slice a (0) cap).ownBlock → (∃ v, W1.cell? ⟨V, 2, none⟩ = some v) ∧ W1.frozen? ⟨V, 2, none⟩ = false ∧ n' = 0 + 1 ∧ Hid (SHAt w V (some ⟨b, off, none⟩) scap L s.size (lastSp L).r.batch a' (0 + 1) cap' ((L.take (0 + 1)).map (spotE id)) (.slice ra' (0 + 1) rc') ((L.take (0 + 1)).map SpotV.r) (W1.setCell ⟨V, 2, none⟩ (.slice a' (0 + 1) cap'))) ∧ (W1.cell? ⟨wr.heap.size, 1, none⟩ = some (.int .i64 z.r.batch) ∧ W1.cell? ⟨wr.heap.size, 2, none⟩ = some (.string z.r.key) ∧ W1.cell? ⟨b, off, none⟩ = some (.int .i64 (z.pos : Nat)) ∧ W1.cell? ⟨b, off + 1, none⟩ = some (.int .i64 (z.len : Nat))) ∧ ∀ v, ((W1.setCell ⟨V, 2, none⟩ v).cell? ⟨wr.heap.size, 1, none⟩ = some (.int .i64 z.r.batch) ∧ (W1.setCell ⟨V, 2, none⟩ v).cell? ⟨wr.heap.size, 2, none⟩ = some (.string z.r.key) ∧ (W1.setCell ⟨V, 2, none⟩ v).cell? ⟨b, off, none⟩ = some (.int .i64 (z.pos : Nat)) ∧ (W1.setCell ⟨V, 2, none⟩ v).cell? ⟨b, off + 1, none⟩ = some (.int .i64 (z.len : Nat)))) := hide (fun W1 a' n' cap' hn' ho hg => by
                      have hn : n' = 0 + 1 := by omega
                      subst hn
                      have hk := keep_of_grown HA6d.out.own hg
                      obtain ⟨q1, q2⟩ := HA6d.out.addE hg ho
                      obtain ⟨-, -, c2, -, -, fz⟩ := cells3h q1
                      have hvn := HVN.out
                      have k1 := own_keepTy HA6d.out.spots hk (by decide)
                      have hne := own_neB k1 q1 (by decide)
                      have hN1 : W1.heap[wr.heap.size]? = some (.cells #[.int .i64 z.r.kind, .int .i64 z.r.batch, .string z.r.key, .string z.r.val, .int .i64 z.r.cnt, .int .i64 z.r.sum] 41 (0, 0)) := hk _ _ _ _ (by decide) HN6.out
                      have hN2 : ∀ v, (W1.setCell ⟨V, 2, none⟩ v).heap[wr.heap.size]? = some (.cells #[.int .i64 z.r.kind, .int .i64 z.r.batch, .string z.r.key, .string z.r.val, .int .i64 z.r.cnt, .int .i64 z.r.sum] 41 (0, 0)) := fun v => (Below.heap_setCell W1 ⟨V, 2, none⟩ v _ (by dsimp only; omega)).trans hN1
                      have hsp : ∀ W', spotSh.Own 43 W' (w.heap.size + 1) (.slice (some ⟨b, off, none⟩) L.length scap) L → W'.cell? ⟨b, off, none⟩ = some (.int .i64 (z.pos : Nat)) ∧ W'.cell? ⟨b, off + 1, none⟩ = some (.int .i64 (z.len : Nat)) := fun W' h => by
                        obtain ⟨b2, o2, q0, -, u0, u1, -⟩ := sp_cells h.row (0) HKL.out
                        simp only [Option.some.injEq, Addr.mk.injEq] at q0
                        obtain ⟨rfl, rfl, -⟩ := q0
                        rw [HZ.out HKL.out] at u0 u1
                        exact ⟨u0, u1⟩
                      obtain ⟨-, u1, u2, -⟩ := cells6r hN1
                      exact ⟨⟨_, c2⟩, fz, rfl, hide (by rw [HME.out]; exact q2), ⟨u1, u2, hsp W1 k1⟩, fun v => ⟨(cells6r (hN2 v)).2.1, (cells6r (hN2 v)).2.2.1, hsp _ (k1.setNe _ _ hne)⟩⟩)
                    have hSd : w6.drew.cell? ⟨wr.heap.size, 1, none⟩ = some (.int .i64 z.r.batch) ∧ w6.drew.cell? ⟨wr.heap.size, 2, none⟩ = some (.string z.r.key) ∧ w6.drew.cell? ⟨b, off, none⟩ = some (.int .i64 (z.pos : Nat)) ∧ w6.drew.cell? ⟨b, off + 1, none⟩ = some (.int .i64 (z.len : Nat)) := ⟨r1, r2, d0, d1⟩
                    have hal := al1 w6.drew (.cells #[.string z.r.key, .int .i64 id, .int .i64 (z.pos : Nat), .int .i64 (z.len : Nat), .int .i64 z.r.batch] 71)
                    have hNw := lt_of_block HN6.out
                    have hVw := lt_of_block HA6.out.row
                    have HSA : Hid ((w6.drew.alloc (.cells #[.string z.r.key, .int .i64 id, .int .i64 (z.pos : Nat), .int .i64 (z.len : Nat), .int .i64 z.r.batch] 71)).cell? ⟨wr.heap.size, 1, none⟩ = some (.int .i64 z.r.batch) ∧ (w6.drew.alloc (.cells #[.string z.r.key, .int .i64 id, .int .i64 (z.pos : Nat), .int .i64 (z.len : Nat), .int .i64 z.r.batch] 71)).cell? ⟨wr.heap.size, 2, none⟩ = some (.string z.r.key) ∧ (w6.drew.alloc (.cells #[.string z.r.key, .int .i64 id, .int .i64 (z.pos : Nat), .int .i64 (z.len : Nat), .int .i64 z.r.batch] 71)).cell? ⟨b, off, none⟩ = some (.int .i64 (z.pos : Nat)) ∧ (w6.drew.alloc (.cells #[.string z.r.key, .int .i64 id, .int .i64 (z.pos : Nat), .int .i64 (z.len : Nat), .int .i64 z.r.batch] 71)).cell? ⟨b, off + 1, none⟩ = some (.int .i64 (z.len : Nat))) := hide ⟨(hal.cell (p := ⟨wr.heap.size, 1, none⟩) hNw).trans r1, (hal.cell (p := ⟨wr.heap.size, 2, none⟩) hNw).trans r2, (hal.cell (p := ⟨b, _, none⟩) hbw).trans d0, (hal.cell (p := ⟨b, _, none⟩) hbw).trans d1⟩
                    have y2a : (w6.drew.alloc (.cells #[.string z.r.key, .int .i64 id, .int .i64 (z.pos : Nat), .int .i64 (z.len : Nat), .int .i64 z.r.batch] 71)).cell? ⟨V, 2, none⟩ = some (.slice a (0) cap) := (hal.cell (p := ⟨V, 2, none⟩) hVw).trans y2
                    have y2b : (w6.alloc (.cells #[.string z.r.key, .int .i64 id, .int .i64 (z.pos : Nat), .int .i64 (z.len : Nat), .int .i64 z.r.batch] 71)).cell? ⟨V, 2, none⟩ = some (.slice a (0) cap) := y2a
                    clear hal HA HA2 HN2 HN6 HAL HME HMR
                    go_wp2
                    refine wp_region_held_drew (S := (fun W' => W'.cell? ⟨wr.heap.size, 1, none⟩ = some (.int .i64 z.r.batch) ∧ W'.cell? ⟨wr.heap.size, 2, none⟩ = some (.string z.r.key) ∧ W'.cell? ⟨b, off, none⟩ = some (.int .i64 (z.pos : Nat)) ∧ W'.cell? ⟨b, off + 1, none⟩ = some (.int .i64 (z.len : Nat)))) (by kernel_rfl) (by exact hSd) (fun hHeld => ?_)
                    refine wpAnyH_take (i := 0) (v := ?_) rfl (by kernel_rfl) (by kernel_rfl) (by kernel_rfl) (fun _ _ _ h => h) (Or.inl ⟨by rfl, ?_⟩) (by assumption) ?_
                    rotate_left
                    · intro W hSw
                      try dsimp only at hSw
                      go_simp
                      try with_reducible rfl
                    try simp only [Act.put, List.setIfInBounds_toArray, List.set_cons_zero, List.set_cons_succ]
                    refine wpAnyH_take (i := 2) (v := ?_) rfl (by kernel_rfl) (by kernel_rfl) (by kernel_rfl) (fun _ _ _ h => h) (Or.inl ⟨by rfl, ?_⟩) (by assumption) ?_
                    rotate_left
                    · intro W hSw
                      try dsimp only at hSw
                      go_simp
                      try with_reducible rfl
                    try simp only [Act.put, List.setIfInBounds_toArray, List.set_cons_zero, List.set_cons_succ]
                    refine wpAnyH_take (i := 3) (v := ?_) rfl (by kernel_rfl) (by kernel_rfl) (by kernel_rfl) (fun _ _ _ h => h) (Or.inl ⟨by rfl, ?_⟩) (by assumption) ?_
                    rotate_left
                    · intro W hSw
                      try dsimp only at hSw
                      go_simp
                      try with_reducible rfl
                    try simp only [Act.put, List.setIfInBounds_toArray, List.set_cons_zero, List.set_cons_succ]
                    refine wpAnyH_take (i := 4) (v := ?_) rfl (by kernel_rfl) (by kernel_rfl) (by kernel_rfl) (fun _ _ _ h => h) (Or.inl ⟨by rfl, ?_⟩) (by assumption) ?_
                    rotate_left
                    · intro W hSw
                      try dsimp only at hSw
                      go_simp
                      try with_reducible rfl
                    try simp only [Act.put, List.setIfInBounds_toArray, List.set_cons_zero, List.set_cons_succ]
                    refine wpAnyH_take (i := 5) (v := ?_) rfl (by kernel_rfl) (by kernel_rfl) (by kernel_rfl) (fun _ _ _ h => h) (Or.inl ⟨by rfl, ?_⟩) (by assumption) ?_
                    rotate_left
                    · intro W hSw
                      try dsimp only at hSw
                      go_simp
                      try with_reducible rfl
                    try simp only [Act.put, List.setIfInBounds_toArray, List.set_cons_zero, List.set_cons_succ]
                    refine wpAnyH_take (i := 6) (v := ?_) rfl (by kernel_rfl) (by kernel_rfl) (by kernel_rfl) (fun _ _ _ h => h) (Or.inl ⟨by rfl, ?_⟩) (by assumption) ?_
                    rotate_left
                    · intro W hSw
                      try dsimp only at hSw
                      go_simp
                      try with_reducible rfl
                    try simp only [Act.put, List.setIfInBounds_toArray, List.set_cons_zero, List.set_cons_succ]
                    refine wpAnyH_take (i := 7) (v := ?_) rfl (by kernel_rfl) (by kernel_rfl) (by kernel_rfl) (fun _ _ _ h => h) (Or.inl ⟨by rfl, ?_⟩) (by assumption) ?_
                    rotate_left
                    · intro W hSw
                      try dsimp only at hSw
                      go_simp
                      try with_reducible rfl
                    try simp only [Act.put, List.setIfInBounds_toArray, List.set_cons_zero, List.set_cons_succ]
                    refine wpAnyH_take (i := 8) (v := ?_) rfl (by kernel_rfl) (by kernel_rfl) (by kernel_rfl) (fun _ _ _ h => h) (Or.inl ⟨by rfl, ?_⟩) (by assumption) ?_
                    rotate_left
                    · intro W hSw
                      try dsimp only at hSw
                      go_simp
                      try with_reducible rfl
                    try simp only [Act.put, List.setIfInBounds_toArray, List.set_cons_zero, List.set_cons_succ]
                    refine wpAnyH_take (i := 9) (v := ?_) rfl (by kernel_rfl) (by kernel_rfl) (by kernel_rfl) (fun _ _ _ h => h) (Or.inl ⟨by rfl, ?_⟩) (by assumption) ?_
                    rotate_left
                    · intro W hSw
                      try dsimp only at hSw
                      go_simp
                      try with_reducible rfl
                    try simp only [Act.put, List.setIfInBounds_toArray, List.set_cons_zero, List.set_cons_succ]
                    refine wpAnyH_take (i := 10) (v := ?_) rfl (by kernel_rfl) (by kernel_rfl) (by kernel_rfl) (fun _ _ _ h => h) (Or.inl ⟨by rfl, ?_⟩) (by assumption) ?_
                    rotate_left
                    · intro W hSw
                      try dsimp only at hSw
                      go_simp
                      try with_reducible rfl
                    try simp only [Act.put, List.setIfInBounds_toArray, List.set_cons_zero, List.set_cons_succ]
                    refine wpAnyH_take (i := 11) (v := ?_) rfl (by kernel_rfl) (by kernel_rfl) (by kernel_rfl) (fun _ _ _ h => h) (Or.inl ⟨by rfl, ?_⟩) (by assumption) ?_
                    rotate_left
                    · intro W hSw
                      try dsimp only at hSw
                      go_simp
                      try with_reducible rfl
                    try simp only [Act.put, List.setIfInBounds_toArray, List.set_cons_zero, List.set_cons_succ]
                    refine wpAnyH_take (i := 12) (v := ?_) rfl (by kernel_rfl) (by kernel_rfl) (by kernel_rfl) (fun _ _ _ h => h) (Or.inl ⟨by rfl, ?_⟩) (by assumption) ?_
                    rotate_left
                    · intro W hSw
                      try dsimp only at hSw
                      go_simp
                      try with_reducible rfl
                    try simp only [Act.put, List.setIfInBounds_toArray, List.set_cons_zero, List.set_cons_succ]
                    refine wpAnyH_take (i := 13) (v := ?_) rfl (by kernel_rfl) (by kernel_rfl) (by kernel_rfl) (fun _ _ _ h => h) (Or.inl ⟨by rfl, ?_⟩) (by assumption) ?_
                    rotate_left
                    · intro W hSw
                      try dsimp only at hSw
                      go_simp
                      try with_reducible rfl
                    try simp only [Act.put, List.setIfInBounds_toArray, List.set_cons_zero, List.set_cons_succ]
                    refine wpAnyH_take (i := 14) (v := ?_) rfl (by kernel_rfl) (by kernel_rfl) (by kernel_rfl) (fun _ _ _ h => h) (Or.inl ⟨by rfl, ?_⟩) (by assumption) ?_
                    rotate_left
                    · intro W hSw
                      try dsimp only at hSw
                      go_simp
                      try with_reducible rfl
                    try simp only [Act.put, List.setIfInBounds_toArray, List.set_cons_zero, List.set_cons_succ]
                    refine wpAnyH_take (i := 15) (v := ?_) rfl (by kernel_rfl) (by kernel_rfl) (by kernel_rfl) (fun _ _ _ h => h) (Or.inl ⟨by rfl, ?_⟩) (by assumption) ?_
                    rotate_left
                    · intro W hSw
                      try dsimp only at hSw
                      go_simp
                      try with_reducible rfl
                    try simp only [Act.put, List.setIfInBounds_toArray, List.set_cons_zero, List.set_cons_succ]
                    refine wpAnyH_take (i := 16) (v := ?_) rfl (by kernel_rfl) (by kernel_rfl) (by kernel_rfl) (fun _ _ _ h => h) (Or.inl ⟨by rfl, ?_⟩) (by assumption) ?_
                    rotate_left
                    · intro W hSw
                      try dsimp only at hSw
                      go_simp
                      try with_reducible rfl
                    try simp only [Act.put, List.setIfInBounds_toArray, List.set_cons_zero, List.set_cons_succ]
                    refine wpAnyH_take (i := 17) (v := ?_) rfl (by kernel_rfl) (by kernel_rfl) (by kernel_rfl) (fun _ _ _ h => h) (Or.inl ⟨by rfl, ?_⟩) (by assumption) ?_
                    rotate_left
                    · intro W hSw
                      try dsimp only at hSw
                      go_simp
                      try with_reducible rfl
                    try simp only [Act.put, List.setIfInBounds_toArray, List.set_cons_zero, List.set_cons_succ]
                    refine wpAnyH_ready (rs := [1, 18]) (by kernel_rfl) (by simp) ?_
                    refine AllReadyH.cons rfl (fun K hK => ?_) ?_
                    · go_simp
                      refine hK.out _ _ (by exact hSd) (fun hHeld => ?_)
                      clear hK K
                      try simp only [Act.put, List.setIfInBounds_toArray, List.set_cons_zero, List.set_cons_succ]
                      refine wpAnyH_ready (rs := [18]) (by kernel_rfl) (by simp) ?_
                      refine AllReadyH.cons rfl (fun K hK => ?_) ?_
                      · go_simp
                        refine hK.out _ _ (HSA.out) (fun hHeld => ?_)
                        clear hK K
                        try simp only [Act.put, List.setIfInBounds_toArray, List.set_cons_zero, List.set_cons_succ]
                        refine wpAnyH_ready (rs := [19]) (by kernel_rfl) (by simp) ?_
                        refine AllReadyH.cons rfl (fun K hK => ?_) ?_
                        · refine step_app_ent (w := w6.drew) rfl (.tmp 100) (.tmp 117) rfl ⟨z.r.key, id, (z.pos : Nat), (z.len : Nat), z.r.batch⟩ HA6d.out.own hVs (by omega) rfl rfl rfl ?_
                          intro a' n' cap' W1 hn' ho hg hl; obtain ⟨⟨vo, v2⟩, fz2, rfl, HR7, hS8, hS9⟩ := HPS.out W1 a' n' cap' hn' ho hg; clear hn' ho hg hl
                          refine hK.out _ _ (hS8) (fun hHeld => ?_)
                          clear hK K
                          try simp only [Act.put, List.setIfInBounds_toArray, List.set_cons_zero, List.set_cons_succ]
                          refine wpAnyH_take (i := 20) (v := ?_) rfl (by kernel_rfl) (by kernel_rfl) (by kernel_rfl) (fun _ _ _ h => h) (Or.inl ⟨by rfl, ?_⟩) (by assumption) ?_
                          rotate_left
                          · intro W hSw
                            try dsimp only at hSw
                            go_simp
                            try with_reducible rfl
                          try simp only [Act.put, List.setIfInBounds_toArray, List.set_cons_zero, List.set_cons_succ]
                          refine wpAnyH_ready (rs := [21]) (by kernel_rfl) (by simp) ?_
                          refine AllReadyH.cons rfl (fun K hK => ?_) ?_
                          · go_simp
                            refine hK.out _ _ (hS9 _) (fun hHeld => ?_)
                            clear hK K
                            try simp only [Act.put, List.setIfInBounds_toArray, List.set_cons_zero, List.set_cons_succ]
                            refine wpAnyH_done (by kernel_rfl) ?_ _
                            clear hHeld
                            go_wp2
                            go_roundw
                            case rel => exact ⟨0 + 1, a', cap', ra', rc', by omega, by first | rfl | (congr 1; omega), by go_num, HR7, HKE2⟩
                            case measure => first | (simp [intOf]; done) | (simp [intOf]; omega)
                          exact AllReadyH.nil
                        exact AllReadyH.nil
                      exact AllReadyH.nil
                    refine AllReadyH.cons rfl (fun K hK => ?_) ?_
                    · go_simp
                      refine hK.out _ _ (HSA.out) (fun hHeld => ?_)
                      clear hK K
                      try simp only [Act.put, List.setIfInBounds_toArray, List.set_cons_zero, List.set_cons_succ]
                      refine wpAnyH_ready (rs := [1]) (by kernel_rfl) (by simp) ?_
                      refine AllReadyH.cons rfl (fun K hK => ?_) ?_
                      · go_simp
                        refine hK.out _ _ (hHeld) (fun hHeld => ?_)
                        clear hK K
                        try simp only [Act.put, List.setIfInBounds_toArray, List.set_cons_zero, List.set_cons_succ]
                        refine wpAnyH_ready (rs := [19]) (by kernel_rfl) (by simp) ?_
                        refine AllReadyH.cons rfl (fun K hK => ?_) ?_
                        · refine step_app_ent (w := w6.drew) rfl (.tmp 100) (.tmp 117) rfl ⟨z.r.key, id, (z.pos : Nat), (z.len : Nat), z.r.batch⟩ HA6d.out.own hVs (by omega) rfl rfl rfl ?_
                          intro a' n' cap' W1 hn' ho hg hl; obtain ⟨⟨vo, v2⟩, fz2, rfl, HR7, hS8, hS9⟩ := HPS.out W1 a' n' cap' hn' ho hg; clear hn' ho hg hl
                          refine hK.out _ _ (hS8) (fun hHeld => ?_)
                          clear hK K
                          try simp only [Act.put, List.setIfInBounds_toArray, List.set_cons_zero, List.set_cons_succ]
                          refine wpAnyH_take (i := 20) (v := ?_) rfl (by kernel_rfl) (by kernel_rfl) (by kernel_rfl) (fun _ _ _ h => h) (Or.inl ⟨by rfl, ?_⟩) (by assumption) ?_
                          rotate_left
                          · intro W hSw
                            try dsimp only at hSw
                            go_simp
                            try with_reducible rfl
                          try simp only [Act.put, List.setIfInBounds_toArray, List.set_cons_zero, List.set_cons_succ]
                          refine wpAnyH_ready (rs := [21]) (by kernel_rfl) (by simp) ?_
                          refine AllReadyH.cons rfl (fun K hK => ?_) ?_
                          · go_simp
                            refine hK.out _ _ (hS9 _) (fun hHeld => ?_)
                            clear hK K
                            try simp only [Act.put, List.setIfInBounds_toArray, List.set_cons_zero, List.set_cons_succ]
                            refine wpAnyH_done (by kernel_rfl) ?_ _
                            clear hHeld
                            go_wp2
                            go_roundw
                            case rel => exact ⟨0 + 1, a', cap', ra', rc', by omega, by first | rfl | (congr 1; omega), by go_num, HR7, HKE2⟩
                            case measure => first | (simp [intOf]; done) | (simp [intOf]; omega)
                          exact AllReadyH.nil
                        exact AllReadyH.nil
                      exact AllReadyH.nil
                    exact AllReadyH.nil
                  · obtain ⟨j, rfl⟩ : ∃ j, k = j + 1 := ⟨k - 1, by omega⟩
                    have p4 := (HAL.out.cell (p := ⟨b, off + j * 8 + 4, none⟩) HBW.out).trans (HPV.out j rfl)
                    have tk : decide ((0 : Int) < (j : Int) + 1) = true := decide_eq_true (by omega)
                    have HKB : Hid (keepAt L (lastSp L).r.batch (j + 1) = klt (L.getD j zeroSp).r.key z.r.key) := hide (by rw [HKA2.out, decide_eq_false hk0, Bool.false_or, Nat.add_sub_cancel])
                    clear HKA2 hk0 HPV
                    generalize (L.getD j zeroSp).r.key = pk at *
                    cases hq : klt pk z.r.key with
                    | true =>
                      have tl := kle_no hq
                      have HKE2 : Hid (∀ i, i < j + 1 + 1 → keepAt L (lastSp L).r.batch i = true) := hide (fun i hi => by
                        by_cases h : i < j + 1
                        · exact HKE.out i h
                        · obtain rfl : i = j + 1 := by omega
                          rw [HKB.out]; exact hq)
                      clear HKB HKE HNO hq
                      have hj0 : (0 : Int) ≤ (j : Int) + 1 := by omega
                      have hjn : j < n := by omega
                      go_quiet (fail)
                      go_wp2_with (at_builtin; refine wpList_app_recG rfl _ _ rfl z.r (HA2.out.drewN _).recs (HA2.out.drewN _).bel1 HLR.out rfl rfl rfl ?_; intro ra' n3 rc' w6 hn3 ho3 hg3)
                      obtain rfl : n3 = j + 1 + 1 := by rw [hn3, HLQ.out]
                      rw [← HMR.out] at ho3
                      have HA6 := hide ((HA2.out.drewN _).addR hg3 ho3)
                      have HN6 : Hid (w6.heap[wr.heap.size]? = some (.cells #[.int .i64 z.r.kind, .int .i64 z.r.batch, .string z.r.key, .string z.r.val, .int .i64 z.r.cnt, .int .i64 z.r.sum] 41 (0, 0))) := hide ((hg3.block _ (lt_of_block HN2.out) (fun e => by have := (HA.out.recs.blk _ e.symm).2; omega)).trans HN2.out)
                      clear ho3 hg3 hn3 y0 y1 y2 y3 y4 y5 m1 m2 fm2 x0 x1 x2 f0 f1 f2 HD01
                      have HA6d := hide (HA6.out.later (Below.refl _ _).drew)
                      have HVN : Hid (V < wr.heap.size) := hide (lt_of_block HA.out.row)
                      have hel := HA6.out.own.len
                      have hVs : w.heap.size + 1 ≤ w6.drew.heap.size := HA6d.out.bel1
                      obtain ⟨r0, r1, r2, -, -, -⟩ := cells6r HN6.out
                      obtain ⟨b2, o2, q0, hbw, d0, d1, -⟩ := sp_cells HA6.out.spots.row (j + 1) HKL.out
                      simp only [Option.some.injEq, Addr.mk.injEq] at q0
                      obtain ⟨rfl, rfl, -⟩ := q0
                      rw [HZ.out HKL.out] at d0 d1
                      have d0 : w6.cell? ⟨b, off + (j + 1) * 8, none⟩ = some (.int .i64 (z.pos : Nat)) := d0
                      have d1 : w6.cell? ⟨b, off + (j + 1) * 8 + 1, none⟩ = some (.int .i64 (z.len : Nat)) := d1
                      obtain ⟨-, -, y2, -, -, -⟩ := cells3h HA6.out.row
                      have HPS : Hid (∀ W1 a' n' cap', n' = ((L.take (j + 1)).map (spotE id)).length + 1 → entSh.Own 71 W1 (w.heap.size + 1) (.slice a' n' cap') ((L.take (j + 1)).map (spotE id) ++ [⟨z.r.key, id, (z.pos : Nat), (z.len : Nat), z.r.batch⟩]) → w6.drew.grownBy W1 (Value.slice a (j + 1) cap).ownBlock → (∃ v, W1.cell? ⟨V, 2, none⟩ = some v) ∧ W1.frozen? ⟨V, 2, none⟩ = false ∧ n' = j + 1 + 1 ∧ Hid (SHAt w V (some ⟨b, off, none⟩) scap L s.size (lastSp L).r.batch a' (j + 1 + 1) cap' ((L.take (j + 1 + 1)).map (spotE id)) (.slice ra' (j + 1 + 1) rc') ((L.take (j + 1 + 1)).map SpotV.r) (W1.setCell ⟨V, 2, none⟩ (.slice a' (j + 1 + 1) cap'))) ∧ (W1.cell? ⟨wr.heap.size, 1, none⟩ = some (.int .i64 z.r.batch) ∧ W1.cell? ⟨wr.heap.size, 2, none⟩ = some (.string z.r.key) ∧ W1.cell? ⟨b, off + (j + 1) * 8, none⟩ = some (.int .i64 (z.pos : Nat)) ∧ W1.cell? ⟨b, off + (j + 1) * 8 + 1, none⟩ = some (.int .i64 (z.len : Nat))) ∧ ∀ v, ((W1.setCell ⟨V, 2, none⟩ v).cell? ⟨wr.heap.size, 1, none⟩ = some (.int .i64 z.r.batch) ∧ (W1.setCell ⟨V, 2, none⟩ v).cell? ⟨wr.heap.size, 2, none⟩ = some (.string z.r.key) ∧ (W1.setCell ⟨V, 2, none⟩ v).cell? ⟨b, off + (j + 1) * 8, none⟩ = some (.int .i64 (z.pos : Nat)) ∧ (W1.setCell ⟨V, 2, none⟩ v).cell? ⟨b, off + (j + 1) * 8 + 1, none⟩ = some (.int .i64 (z.len : Nat)))) := hide (fun W1 a' n' cap' hn' ho hg => by
                        have hn : n' = j + 1 + 1 := by omega
                        subst hn
                        have hk := keep_of_grown HA6d.out.own hg
                        obtain ⟨q1, q2⟩ := HA6d.out.addE hg ho
                        obtain ⟨-, -, c2, -, -, fz⟩ := cells3h q1
                        have hvn := HVN.out
                        have k1 := own_keepTy HA6d.out.spots hk (by decide)
                        have hne := own_neB k1 q1 (by decide)
                        have hN1 : W1.heap[wr.heap.size]? = some (.cells #[.int .i64 z.r.kind, .int .i64 z.r.batch, .string z.r.key, .string z.r.val, .int .i64 z.r.cnt, .int .i64 z.r.sum] 41 (0, 0)) := hk _ _ _ _ (by decide) HN6.out
                        have hN2 : ∀ v, (W1.setCell ⟨V, 2, none⟩ v).heap[wr.heap.size]? = some (.cells #[.int .i64 z.r.kind, .int .i64 z.r.batch, .string z.r.key, .string z.r.val, .int .i64 z.r.cnt, .int .i64 z.r.sum] 41 (0, 0)) := fun v => (Below.heap_setCell W1 ⟨V, 2, none⟩ v _ (by dsimp only; omega)).trans hN1
                        have hsp : ∀ W', spotSh.Own 43 W' (w.heap.size + 1) (.slice (some ⟨b, off, none⟩) L.length scap) L → W'.cell? ⟨b, off + (j + 1) * 8, none⟩ = some (.int .i64 (z.pos : Nat)) ∧ W'.cell? ⟨b, off + (j + 1) * 8 + 1, none⟩ = some (.int .i64 (z.len : Nat)) := fun W' h => by
                          obtain ⟨b2, o2, q0, -, u0, u1, -⟩ := sp_cells h.row (j + 1) HKL.out
                          simp only [Option.some.injEq, Addr.mk.injEq] at q0
                          obtain ⟨rfl, rfl, -⟩ := q0
                          rw [HZ.out HKL.out] at u0 u1
                          exact ⟨u0, u1⟩
                        obtain ⟨-, u1, u2, -⟩ := cells6r hN1
                        exact ⟨⟨_, c2⟩, fz, rfl, hide (by rw [HME.out]; exact q2), ⟨u1, u2, hsp W1 k1⟩, fun v => ⟨(cells6r (hN2 v)).2.1, (cells6r (hN2 v)).2.2.1, hsp _ (k1.setNe _ _ hne)⟩⟩)
                      have hSd : w6.drew.cell? ⟨wr.heap.size, 1, none⟩ = some (.int .i64 z.r.batch) ∧ w6.drew.cell? ⟨wr.heap.size, 2, none⟩ = some (.string z.r.key) ∧ w6.drew.cell? ⟨b, off + (j + 1) * 8, none⟩ = some (.int .i64 (z.pos : Nat)) ∧ w6.drew.cell? ⟨b, off + (j + 1) * 8 + 1, none⟩ = some (.int .i64 (z.len : Nat)) := ⟨r1, r2, d0, d1⟩
                      have hal := al1 w6.drew (.cells #[.string z.r.key, .int .i64 id, .int .i64 (z.pos : Nat), .int .i64 (z.len : Nat), .int .i64 z.r.batch] 71)
                      have hNw := lt_of_block HN6.out
                      have hVw := lt_of_block HA6.out.row
                      have HSA : Hid ((w6.drew.alloc (.cells #[.string z.r.key, .int .i64 id, .int .i64 (z.pos : Nat), .int .i64 (z.len : Nat), .int .i64 z.r.batch] 71)).cell? ⟨wr.heap.size, 1, none⟩ = some (.int .i64 z.r.batch) ∧ (w6.drew.alloc (.cells #[.string z.r.key, .int .i64 id, .int .i64 (z.pos : Nat), .int .i64 (z.len : Nat), .int .i64 z.r.batch] 71)).cell? ⟨wr.heap.size, 2, none⟩ = some (.string z.r.key) ∧ (w6.drew.alloc (.cells #[.string z.r.key, .int .i64 id, .int .i64 (z.pos : Nat), .int .i64 (z.len : Nat), .int .i64 z.r.batch] 71)).cell? ⟨b, off + (j + 1) * 8, none⟩ = some (.int .i64 (z.pos : Nat)) ∧ (w6.drew.alloc (.cells #[.string z.r.key, .int .i64 id, .int .i64 (z.pos : Nat), .int .i64 (z.len : Nat), .int .i64 z.r.batch] 71)).cell? ⟨b, off + (j + 1) * 8 + 1, none⟩ = some (.int .i64 (z.len : Nat))) := hide ⟨(hal.cell (p := ⟨wr.heap.size, 1, none⟩) hNw).trans r1, (hal.cell (p := ⟨wr.heap.size, 2, none⟩) hNw).trans r2, (hal.cell (p := ⟨b, _, none⟩) hbw).trans d0, (hal.cell (p := ⟨b, _, none⟩) hbw).trans d1⟩
                      have y2a : (w6.drew.alloc (.cells #[.string z.r.key, .int .i64 id, .int .i64 (z.pos : Nat), .int .i64 (z.len : Nat), .int .i64 z.r.batch] 71)).cell? ⟨V, 2, none⟩ = some (.slice a (j + 1) cap) := (hal.cell (p := ⟨V, 2, none⟩) hVw).trans y2
                      have y2b : (w6.alloc (.cells #[.string z.r.key, .int .i64 id, .int .i64 (z.pos : Nat), .int .i64 (z.len : Nat), .int .i64 z.r.batch] 71)).cell? ⟨V, 2, none⟩ = some (.slice a (j + 1) cap) := y2a
                      clear hal HA HA2 HN2 HN6 HAL HME HMR
                      go_wp2
                      refine wp_region_held_drew (S := (fun W' => W'.cell? ⟨wr.heap.size, 1, none⟩ = some (.int .i64 z.r.batch) ∧ W'.cell? ⟨wr.heap.size, 2, none⟩ = some (.string z.r.key) ∧ W'.cell? ⟨b, off + (j + 1) * 8, none⟩ = some (.int .i64 (z.pos : Nat)) ∧ W'.cell? ⟨b, off + (j + 1) * 8 + 1, none⟩ = some (.int .i64 (z.len : Nat)))) (by kernel_rfl) (by exact hSd) (fun hHeld => ?_)
                      refine wpAnyH_take (i := 0) (v := ?_) rfl (by kernel_rfl) (by kernel_rfl) (by kernel_rfl) (fun _ _ _ h => h) (Or.inl ⟨by rfl, ?_⟩) (by assumption) ?_
                      rotate_left
                      · intro W hSw
                        try dsimp only at hSw
                        go_simp
                        try with_reducible rfl
                      try simp only [Act.put, List.setIfInBounds_toArray, List.set_cons_zero, List.set_cons_succ]
                      refine wpAnyH_take (i := 2) (v := ?_) rfl (by kernel_rfl) (by kernel_rfl) (by kernel_rfl) (fun _ _ _ h => h) (Or.inl ⟨by rfl, ?_⟩) (by assumption) ?_
                      rotate_left
                      · intro W hSw
                        try dsimp only at hSw
                        go_simp
                        try with_reducible rfl
                      try simp only [Act.put, List.setIfInBounds_toArray, List.set_cons_zero, List.set_cons_succ]
                      refine wpAnyH_take (i := 3) (v := ?_) rfl (by kernel_rfl) (by kernel_rfl) (by kernel_rfl) (fun _ _ _ h => h) (Or.inl ⟨by rfl, ?_⟩) (by assumption) ?_
                      rotate_left
                      · intro W hSw
                        try dsimp only at hSw
                        go_simp
                        try with_reducible rfl
                      try simp only [Act.put, List.setIfInBounds_toArray, List.set_cons_zero, List.set_cons_succ]
                      refine wpAnyH_take (i := 4) (v := ?_) rfl (by kernel_rfl) (by kernel_rfl) (by kernel_rfl) (fun _ _ _ h => h) (Or.inl ⟨by rfl, ?_⟩) (by assumption) ?_
                      rotate_left
                      · intro W hSw
                        try dsimp only at hSw
                        go_simp
                        try with_reducible rfl
                      try simp only [Act.put, List.setIfInBounds_toArray, List.set_cons_zero, List.set_cons_succ]
                      refine wpAnyH_take (i := 5) (v := ?_) rfl (by kernel_rfl) (by kernel_rfl) (by kernel_rfl) (fun _ _ _ h => h) (Or.inl ⟨by rfl, ?_⟩) (by assumption) ?_
                      rotate_left
                      · intro W hSw
                        try dsimp only at hSw
                        go_simp
                        try with_reducible rfl
                      try simp only [Act.put, List.setIfInBounds_toArray, List.set_cons_zero, List.set_cons_succ]
                      refine wpAnyH_take (i := 6) (v := ?_) rfl (by kernel_rfl) (by kernel_rfl) (by kernel_rfl) (fun _ _ _ h => h) (Or.inl ⟨by rfl, ?_⟩) (by assumption) ?_
                      rotate_left
                      · intro W hSw
                        try dsimp only at hSw
                        go_simp
                        try with_reducible rfl
                      try simp only [Act.put, List.setIfInBounds_toArray, List.set_cons_zero, List.set_cons_succ]
                      refine wpAnyH_take (i := 7) (v := ?_) rfl (by kernel_rfl) (by kernel_rfl) (by kernel_rfl) (fun _ _ _ h => h) (Or.inl ⟨by rfl, ?_⟩) (by assumption) ?_
                      rotate_left
                      · intro W hSw
                        try dsimp only at hSw
                        go_simp
                        try with_reducible rfl
                      try simp only [Act.put, List.setIfInBounds_toArray, List.set_cons_zero, List.set_cons_succ]
                      refine wpAnyH_take (i := 8) (v := ?_) rfl (by kernel_rfl) (by kernel_rfl) (by kernel_rfl) (fun _ _ _ h => h) (Or.inl ⟨by rfl, ?_⟩) (by assumption) ?_
                      rotate_left
                      · intro W hSw
                        try dsimp only at hSw
                        go_simp
                        try with_reducible rfl
                      try simp only [Act.put, List.setIfInBounds_toArray, List.set_cons_zero, List.set_cons_succ]
                      refine wpAnyH_take (i := 9) (v := ?_) rfl (by kernel_rfl) (by kernel_rfl) (by kernel_rfl) (fun _ _ _ h => h) (Or.inl ⟨by rfl, ?_⟩) (by assumption) ?_
                      rotate_left
                      · intro W hSw
                        try dsimp only at hSw
                        go_simp
                        try with_reducible rfl
                      try simp only [Act.put, List.setIfInBounds_toArray, List.set_cons_zero, List.set_cons_succ]
                      refine wpAnyH_take (i := 10) (v := ?_) rfl (by kernel_rfl) (by kernel_rfl) (by kernel_rfl) (fun _ _ _ h => h) (Or.inl ⟨by rfl, ?_⟩) (by assumption) ?_
                      rotate_left
                      · intro W hSw
                        try dsimp only at hSw
                        go_simp
                        try with_reducible rfl
                      try simp only [Act.put, List.setIfInBounds_toArray, List.set_cons_zero, List.set_cons_succ]
                      refine wpAnyH_take (i := 11) (v := ?_) rfl (by kernel_rfl) (by kernel_rfl) (by kernel_rfl) (fun _ _ _ h => h) (Or.inl ⟨by rfl, ?_⟩) (by assumption) ?_
                      rotate_left
                      · intro W hSw
                        try dsimp only at hSw
                        go_simp
                        try with_reducible rfl
                      try simp only [Act.put, List.setIfInBounds_toArray, List.set_cons_zero, List.set_cons_succ]
                      refine wpAnyH_take (i := 12) (v := ?_) rfl (by kernel_rfl) (by kernel_rfl) (by kernel_rfl) (fun _ _ _ h => h) (Or.inl ⟨by rfl, ?_⟩) (by assumption) ?_
                      rotate_left
                      · intro W hSw
                        try dsimp only at hSw
                        go_simp
                        try with_reducible rfl
                      try simp only [Act.put, List.setIfInBounds_toArray, List.set_cons_zero, List.set_cons_succ]
                      refine wpAnyH_take (i := 13) (v := ?_) rfl (by kernel_rfl) (by kernel_rfl) (by kernel_rfl) (fun _ _ _ h => h) (Or.inl ⟨by rfl, ?_⟩) (by assumption) ?_
                      rotate_left
                      · intro W hSw
                        try dsimp only at hSw
                        go_simp
                        try with_reducible rfl
                      try simp only [Act.put, List.setIfInBounds_toArray, List.set_cons_zero, List.set_cons_succ]
                      refine wpAnyH_take (i := 14) (v := ?_) rfl (by kernel_rfl) (by kernel_rfl) (by kernel_rfl) (fun _ _ _ h => h) (Or.inl ⟨by rfl, ?_⟩) (by assumption) ?_
                      rotate_left
                      · intro W hSw
                        try dsimp only at hSw
                        go_simp
                        try with_reducible rfl
                      try simp only [Act.put, List.setIfInBounds_toArray, List.set_cons_zero, List.set_cons_succ]
                      refine wpAnyH_take (i := 15) (v := ?_) rfl (by kernel_rfl) (by kernel_rfl) (by kernel_rfl) (fun _ _ _ h => h) (Or.inl ⟨by rfl, ?_⟩) (by assumption) ?_
                      rotate_left
                      · intro W hSw
                        try dsimp only at hSw
                        go_simp
                        try with_reducible rfl
                      try simp only [Act.put, List.setIfInBounds_toArray, List.set_cons_zero, List.set_cons_succ]
                      refine wpAnyH_take (i := 16) (v := ?_) rfl (by kernel_rfl) (by kernel_rfl) (by kernel_rfl) (fun _ _ _ h => h) (Or.inl ⟨by rfl, ?_⟩) (by assumption) ?_
                      rotate_left
                      · intro W hSw
                        try dsimp only at hSw
                        go_simp
                        try with_reducible rfl
                      try simp only [Act.put, List.setIfInBounds_toArray, List.set_cons_zero, List.set_cons_succ]
                      refine wpAnyH_take (i := 17) (v := ?_) rfl (by kernel_rfl) (by kernel_rfl) (by kernel_rfl) (fun _ _ _ h => h) (Or.inl ⟨by rfl, ?_⟩) (by assumption) ?_
                      rotate_left
                      · intro W hSw
                        try dsimp only at hSw
                        go_simp
                        try with_reducible rfl
                      try simp only [Act.put, List.setIfInBounds_toArray, List.set_cons_zero, List.set_cons_succ]
                      refine wpAnyH_ready (rs := [1, 18]) (by kernel_rfl) (by simp) ?_
                      refine AllReadyH.cons rfl (fun K hK => ?_) ?_
                      · go_simp
                        refine hK.out _ _ (by exact hSd) (fun hHeld => ?_)
                        clear hK K
                        try simp only [Act.put, List.setIfInBounds_toArray, List.set_cons_zero, List.set_cons_succ]
                        refine wpAnyH_ready (rs := [18]) (by kernel_rfl) (by simp) ?_
                        refine AllReadyH.cons rfl (fun K hK => ?_) ?_
                        · go_simp
                          refine hK.out _ _ (HSA.out) (fun hHeld => ?_)
                          clear hK K
                          try simp only [Act.put, List.setIfInBounds_toArray, List.set_cons_zero, List.set_cons_succ]
                          refine wpAnyH_ready (rs := [19]) (by kernel_rfl) (by simp) ?_
                          refine AllReadyH.cons rfl (fun K hK => ?_) ?_
                          · refine step_app_ent (w := w6.drew) rfl (.tmp 100) (.tmp 117) rfl ⟨z.r.key, id, (z.pos : Nat), (z.len : Nat), z.r.batch⟩ HA6d.out.own hVs (by omega) rfl rfl rfl ?_
                            intro a' n' cap' W1 hn' ho hg hl; obtain ⟨⟨vo, v2⟩, fz2, rfl, HR7, hS8, hS9⟩ := HPS.out W1 a' n' cap' hn' ho hg; clear hn' ho hg hl
                            refine hK.out _ _ (hS8) (fun hHeld => ?_)
                            clear hK K
                            try simp only [Act.put, List.setIfInBounds_toArray, List.set_cons_zero, List.set_cons_succ]
                            refine wpAnyH_take (i := 20) (v := ?_) rfl (by kernel_rfl) (by kernel_rfl) (by kernel_rfl) (fun _ _ _ h => h) (Or.inl ⟨by rfl, ?_⟩) (by assumption) ?_
                            rotate_left
                            · intro W hSw
                              try dsimp only at hSw
                              go_simp
                              try with_reducible rfl
                            try simp only [Act.put, List.setIfInBounds_toArray, List.set_cons_zero, List.set_cons_succ]
                            refine wpAnyH_ready (rs := [21]) (by kernel_rfl) (by simp) ?_
                            refine AllReadyH.cons rfl (fun K hK => ?_) ?_
                            · go_simp
                              refine hK.out _ _ (hS9 _) (fun hHeld => ?_)
                              clear hK K
                              try simp only [Act.put, List.setIfInBounds_toArray, List.set_cons_zero, List.set_cons_succ]
                              refine wpAnyH_done (by kernel_rfl) ?_ _
                              clear hHeld
                              go_wp2
                              go_roundw
                              case rel => exact ⟨j + 1 + 1, a', cap', ra', rc', by omega, by first | rfl | (congr 1; omega), by go_num, HR7, HKE2⟩
                              case measure => first | (simp [intOf]; done) | (simp [intOf]; omega)
                            exact AllReadyH.nil
                          exact AllReadyH.nil
                        exact AllReadyH.nil
                      refine AllReadyH.cons rfl (fun K hK => ?_) ?_
                      · go_simp
                        refine hK.out _ _ (HSA.out) (fun hHeld => ?_)
                        clear hK K
                        try simp only [Act.put, List.setIfInBounds_toArray, List.set_cons_zero, List.set_cons_succ]
                        refine wpAnyH_ready (rs := [1]) (by kernel_rfl) (by simp) ?_
                        refine AllReadyH.cons rfl (fun K hK => ?_) ?_
                        · go_simp
                          refine hK.out _ _ (hHeld) (fun hHeld => ?_)
                          clear hK K
                          try simp only [Act.put, List.setIfInBounds_toArray, List.set_cons_zero, List.set_cons_succ]
                          refine wpAnyH_ready (rs := [19]) (by kernel_rfl) (by simp) ?_
                          refine AllReadyH.cons rfl (fun K hK => ?_) ?_
                          · refine step_app_ent (w := w6.drew) rfl (.tmp 100) (.tmp 117) rfl ⟨z.r.key, id, (z.pos : Nat), (z.len : Nat), z.r.batch⟩ HA6d.out.own hVs (by omega) rfl rfl rfl ?_
                            intro a' n' cap' W1 hn' ho hg hl; obtain ⟨⟨vo, v2⟩, fz2, rfl, HR7, hS8, hS9⟩ := HPS.out W1 a' n' cap' hn' ho hg; clear hn' ho hg hl
                            refine hK.out _ _ (hS8) (fun hHeld => ?_)
                            clear hK K
                            try simp only [Act.put, List.setIfInBounds_toArray, List.set_cons_zero, List.set_cons_succ]
                            refine wpAnyH_take (i := 20) (v := ?_) rfl (by kernel_rfl) (by kernel_rfl) (by kernel_rfl) (fun _ _ _ h => h) (Or.inl ⟨by rfl, ?_⟩) (by assumption) ?_
                            rotate_left
                            · intro W hSw
                              try dsimp only at hSw
                              go_simp
                              try with_reducible rfl
                            try simp only [Act.put, List.setIfInBounds_toArray, List.set_cons_zero, List.set_cons_succ]
                            refine wpAnyH_ready (rs := [21]) (by kernel_rfl) (by simp) ?_
                            refine AllReadyH.cons rfl (fun K hK => ?_) ?_
                            · go_simp
                              refine hK.out _ _ (hS9 _) (fun hHeld => ?_)
                              clear hK K
                              try simp only [Act.put, List.setIfInBounds_toArray, List.set_cons_zero, List.set_cons_succ]
                              refine wpAnyH_done (by kernel_rfl) ?_ _
                              clear hHeld
                              go_wp2
                              go_roundw
                              case rel => exact ⟨j + 1 + 1, a', cap', ra', rc', by omega, by first | rfl | (congr 1; omega), by go_num, HR7, HKE2⟩
                              case measure => first | (simp [intOf]; done) | (simp [intOf]; omega)
                            exact AllReadyH.nil
                          exact AllReadyH.nil
                        exact AllReadyH.nil
                      exact AllReadyH.nil
                    | false =>
                      have tl := kle_yes hq
                      have HV := hide (HNO.out (by rw [HKB.out]; exact hq))
                      clear HKB HKE HNO hq
                      go_quiet (fail)
                      go_wp2
                      refine bodyPost_ret (v := .tuple #[.agg #[.int .i64 0, .int .i64 0, .slice none 0 0], .bool false]) (by simp [results, Tryz.results17, go_sem, *]) rfl (HE.out _ ?_ HV.out)
                      iterate 3 (refine Below.setCell ?_ (by exact Nat.le_refl _) _)
                      exact (HA2.out.drewN _).bel
                · have tb : decide ((lastSp L).r.batch < z.r.batch) = true := by simp; omega
                  have HV := hide (HNO.out (by rw [HKA.out, decide_eq_false hbt, Bool.false_and, Bool.and_false]))
                  clear hk4 hbt HKA HKE HNO
                  go_quiet (fail)
                  go_wp2
                  refine bodyPost_ret (v := .tuple #[.agg #[.int .i64 0, .int .i64 0, .slice none 0 0], .bool false]) (by simp [results, Tryz.results17, go_sem, *]) rfl (HE.out _ ?_ HV.out)
                  iterate 3 (refine Below.setCell ?_ (by exact Nat.le_refl _) _)
                  exact (HA2.out.drewN _).bel
              · have t4 : (z.r.kind != 4) = true := by simpa using hk4
                have HV := hide (HNO.out (by rw [HKA.out, decide_eq_false hk4, Bool.false_and]))
                clear hk4 HKA HKE HNO
                go_quiet (fail)
                go_wp2
                refine bodyPost_ret (v := .tuple #[.agg #[.int .i64 0, .int .i64 0, .slice none 0 0], .bool false]) (by simp [results, Tryz.results17, go_sem, *]) rfl (HE.out _ ?_ HV.out)
                iterate 3 (refine Below.setCell ?_ (by exact Nat.le_refl _) _)
                exact (HA2.out.drewN _).bel
            · obtain rfl : k = n := by omega
              have hkl : k < L.length := by have := HNL.out; omega
              obtain ⟨b2, o2, q0, hbw, -, -, d2, d3, d4, d5, d6, d7⟩ := sp_cells HA.out.spots.row k hkl
              simp only [Option.some.injEq, Addr.mk.injEq] at q0
              obtain ⟨rfl, rfl, -⟩ := q0
              rw [← HLS.out hkl] at d2 d3 d4 d5 d6 d7
              have HIN : Hid (initSp L = L.take k) := hide (by unfold initSp; rw [show L.length - 1 = k by omega])
              have HFM : Hid (fitsM L = decide ((lastSp L).r.cnt = (k : Int) ∧ (lastSp L).r.sum = ((crcN (cat ((L.take k).map SpotV.r)) : Nat) : Int))) := hide (by
                unfold fitsM
                rw [HIN.out, List.length_take, show min k L.length = k by omega])
              have HKM : Hid (keepsM L = true) := hide (keeps_yes (fun i hi => HKE.out i (by omega)))
              have HVN : Hid (fitsM L = false → hof id s = (zeroH, false)) := hide (fun h => by
                rw [HH.out]
                refine hof_no ?_
                unfold hofB
                rw [h, Bool.and_false, Bool.and_false])
              have HVY : Hid (fitsM L = true → hof id s = (⟨(s.size : Int), (lastSp L).r.batch, (L.take k).map (spotE id)⟩, true)) := hide (fun h => by
                rw [HH.out, hof_yes (by unfold hofB; rw [h, HKM.out, HHD.out]; rfl)]
                unfold hofV
                rw [HIN.out])
              have HVZ : Hid (∀ i, (h : i < ((L.take k).map SpotV.r).length) → (((L.take k).map SpotV.r)[i]).val.size ≤ maxLen) := hide (fun i h => by
                have hm := List.getElem_mem h
                obtain ⟨p, hp, e⟩ := List.mem_map.1 hm
                rw [← e]
                have := (rec_bd (HR.out p (List.mem_of_mem_take hp))).2.1
                unfold maxLen
                omega)
              clear HLS HIN HKM HKE HHD hkl hlt hk hbw HH
              generalize (lastSp L).r = m at *
              obtain ⟨W2, hW2⟩ : ∃ W2, W2 = wr.alloc (.cells #[.int .i64 m.kind, .int .i64 m.batch, .string m.key, .string m.val, .int .i64 m.cnt, .int .i64 m.sum] 41) := ⟨_, rfl⟩
              have HN2 : Hid (W2.heap[wr.heap.size]? = some (.cells #[.int .i64 m.kind, .int .i64 m.batch, .string m.key, .string m.val, .int .i64 m.cnt, .int .i64 m.sum] 41 (0, 0))) := hide (by rw [hW2]; exact heap_alloc_new wr _)
              have HA2 : Hid (SHAt w V (some ⟨b, off, none⟩) scap L s.size m.batch a k cap ((L.take k).map (spotE id)) (.slice ra k rc) ((L.take k).map SpotV.r) W2) := hide (HA.out.later (by rw [hW2]; exact al1 wr _))
              go_wp2_with fail
              rw [← hW2]
              clear hW2 d2 d3 d4 d5 d6 d7 HA
              obtain ⟨y0, y1, y2, y3, y4, y5⟩ := cells6r HN2.out
              by_cases hc : m.cnt = (k : Int)
              · have t1 : (m.cnt != (k : Int)) = false := by simp [hc]
                have HSM := hide (fun W' (hb : Below W2.heap.size W2 W') => specSumOf_any W' ra k rc ((L.take k).map SpotV.r) (HA2.out.later hb).recs.row (by omega) HVZ.out)
                have HK : Hid (∀ W', Below W2.heap.size W2 W' → W'.cell? ⟨wr.heap.size, 4, none⟩ = some (.int .i64 m.cnt) ∧ W'.cell? ⟨wr.heap.size, 5, none⟩ = some (.int .i64 m.sum) ∧ Hid (Below W2.heap.size W2 W')) := hide (fun W' hb => by
                  obtain ⟨-, -, -, -, g4, g5⟩ := cells6r ((hb.block _ (lt_of_block HN2.out)).trans HN2.out)
                  exact ⟨g4, g5, hide hb⟩)
                have S1 := HK.out W2.drew (Below.refl _ _).drew
                have HFM2 : Hid (fitsM L = decide (m.sum = ((crcN (cat ((L.take k).map SpotV.r)) : Nat) : Int))) := hide (by
                  rw [HFM.out]
                  exact decide_eq_decide.2 ⟨fun h => h.2, fun h => ⟨hc, h⟩⟩)
                clear HFM
                clear hc HVZ y0 y1 y2 y3 y4 y5
                generalize crcN (cat ((L.take k).map SpotV.r)) = c at *
                by_cases hq : m.sum = (c : Int)
                · have t2 : (m.sum != (c : Int)) = false := by simp [hq]
                  have HV := hide (HVY.out (by rw [HFM2.out]; exact decide_eq_true hq))
                  clear hq HVY HVN HFM2
                  first
                    | (go_region_held3 (fun W' => W'.cell? ⟨wr.heap.size, 4, none⟩ = some (.int .i64 m.cnt) ∧ W'.cell? ⟨wr.heap.size, 5, none⟩ = some (.int .i64 m.sum) ∧ Hid (Below W2.heap.size W2 W')) (assumption) (first
                        | (go_at_call 57; refine (HSM.out W2.drew S1.2.2.out).mono ?_; rintro e w5 ⟨rfl, hb5⟩; have hk5 := hide (S1.2.2.out.trans (hb5.mono S1.2.2.out.size)); have hS5 := HK.out w5 hk5.out; clear hb5)))
                    | fail
                  have HA5 := hide (HA2.out.later hk5.out)
                  clear hS5 hk5 S1 HSM HK HA2 HN2
                  obtain ⟨v0, v1, v2, -, -, -⟩ := cells3h HA5.out.row
                  obtain ⟨x0, x1, x2, f0, f1, f2⟩ := cells3h HA5.out.res
                  go_wp2
                  refine bodyPost_ret (v := .tuple #[.agg #[.int .i64 s.size, .int .i64 m.batch, .slice a k cap], .bool true]) (by simp [results, Tryz.results17, go_sem, *]) rfl ?_
                  rw [HV.out]
                  refine ⟨⟨a, k, cap, rfl, ?_⟩, ?_⟩
                  · refine Shape.Own.mono ?_ (Nat.le_succ _)
                    iterate 3 (refine Shape.Own.setCell ?_ _ _ (Nat.lt_succ_self _))
                    exact HA5.out.own
                  · iterate 3 (refine Below.setCell ?_ (by exact Nat.le_refl _) _)
                    exact HA5.out.bel
                · have t2 : (m.sum != (c : Int)) = true := by simpa using hq
                  have HV := hide (HVN.out (by rw [HFM2.out]; exact decide_eq_false hq))
                  clear hq HVY HVN HFM2
                  first
                    | (go_region_held3 (fun W' => W'.cell? ⟨wr.heap.size, 4, none⟩ = some (.int .i64 m.cnt) ∧ W'.cell? ⟨wr.heap.size, 5, none⟩ = some (.int .i64 m.sum) ∧ Hid (Below W2.heap.size W2 W')) (assumption) (first
                        | (go_at_call 57; refine (HSM.out W2.drew S1.2.2.out).mono ?_; rintro e w5 ⟨rfl, hb5⟩; have hk5 := hide (S1.2.2.out.trans (hb5.mono S1.2.2.out.size)); have hS5 := HK.out w5 hk5.out; clear hb5)))
                    | fail
                  have HA5 := hide (HA2.out.later hk5.out)
                  clear hS5 hk5 S1 HSM HK HA2 HN2
                  obtain ⟨x0, x1, x2, f0, f1, f2⟩ := cells3h HA5.out.res
                  go_wp2
                  refine bodyPost_ret (v := .tuple #[.agg #[.int .i64 0, .int .i64 0, .slice none 0 0], .bool false]) (by simp [results, Tryz.results17, go_sem, *]) rfl (HE.out _ ?_ HV.out)
                  iterate 3 (refine Below.setCell ?_ (by exact Nat.le_refl _) _)
                  exact HA5.out.bel
              · have t1 : (m.cnt != (k : Int)) = true := by simpa using hc
                have HV := hide (HVN.out (by rw [HFM.out]; exact decide_eq_false (fun h => hc h.1)))
                obtain ⟨x0, x1, x2, f0, f1, f2⟩ := cells3h HA2.out.res
                clear hc HVY HVN HFM HVZ
                go_quiet (fail)
                go_wp2
                refine bodyPost_ret (v := .tuple #[.agg #[.int .i64 0, .int .i64 0, .slice none 0 0], .bool false]) (by simp [results, Tryz.results17, go_sem, *]) rfl (HE.out _ ?_ HV.out)
                iterate 3 (refine Below.setCell ?_ (by exact Nat.le_refl _) _)
                exact (HA2.out.drewN _).bel
        · have HV : Hid (hof id s = (zeroH, false)) := hide (by rw [HH.out]; exact hof_head (by unfold headM; apply decide_eq_false; rintro ⟨-, -, -, h1⟩; exact hid h1))
          rw [segS_no hid] at HSG
          have q1 : (⟨#[]⟩ : ByteArray).toList.isEmpty = true := by rw [nil_eq rfl]; rfl
          clear h5 hid HH
          go_wp2_with (go_at_call 56; refine (HSG.out _).mono ?_; rintro e w2 ⟨rfl, hb2⟩; have HB2 := hide (HB1.out.trans (hb2.mono HB1.out.size)); obtain ⟨y0, y1, y2, f0, f1, f2⟩ := cells3h ((hb2.block _ (lt_of_block HX1.out)).trans HX1.out); clear hb2)
          refine bodyPost_ret (v := .tuple #[.agg #[.int .i64 0, .int .i64 0, .slice none 0 0], .bool false]) (by simp [results, Tryz.results17, go_sem, *]) rfl (HE.out _ ?_ HV.out)
          iterate 3 (refine Below.setCell ?_ (by exact Nat.le_refl _) _)
          exact HB2.out
      · have t3 : ((lastSp L).r.kind != 5) = true := by simpa using h5
        have HV : Hid (hof id s = (zeroH, false)) := hide (by rw [HH.out]; exact hof_head (by unfold headM; apply decide_eq_false; rintro ⟨-, -, h1, -⟩; exact h5 h1))
        obtain ⟨y0, y1, y2, f0, f1, f2⟩ := cells3h HX1.out
        clear h5 HH
        go_wp2
        refine bodyPost_ret (v := .tuple #[.agg #[.int .i64 0, .int .i64 0, .slice none 0 0], .bool false]) (by simp [results, Tryz.results17, go_sem, *]) rfl (HE.out _ ?_ HV.out)
        iterate 3 (refine Below.setCell ?_ (by exact Nat.le_refl _) _)
        exact HB1.out
  · have t1 : ((en : Int) != (s.size : Int)) = true := by simp; omega
    have HV : Hid (hof id s = (zeroH, false)) := hide (by rw [HH.out]; exact hof_head (by unfold headM; apply decide_eq_false; rintro ⟨h1, -⟩; exact hee h1))
    obtain ⟨y0, y1, y2, f0, f1, f2⟩ := cells3h HX1.out
    clear hee HH
    go_wp2
    refine bodyPost_ret (v := .tuple #[.agg #[.int .i64 0, .int .i64 0, .slice none 0 0], .bool false]) (by simp [results, Tryz.results17, go_sem, *]) rfl (HE.out _ ?_ HV.out)
    iterate 3 (refine Below.setCell ?_ (by exact Nat.le_refl _) _)
    exact HB1.out

end Go.Proofs.YtimpokbcfjgdaaaGreatDoor
