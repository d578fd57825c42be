/-
  spec.ReadHint.
-/
import Derived.Test.YtimpokbcfjgdaaaDoorG15
import Derived.Test.YtimpokbcfjgdaaaDoorMHintShowS
import Derived.Test.YtimpokbcfjgdaaaDoorG08
import Derived.Deep.DeepCutAuto
import Derived.Deep.RegionHeld3
namespace Go.Proofs.YtimpokbcfjgdaaaDoor
open Go.RowKit
open Plain

/-- The answer's block, a row of three numbers, a hint under way in block V behind them, its entries in a row behind that. -/
structure RHAt (w : World) (V : Nat) (ai : Option Addr) (ci : Nat) (zs : List Int) (x m : Int) (a : Option Addr) (n cap : Nat) (l : List EntV) (W : World) : Prop where
  res : W.heap[w.heap.size]? = some (.cells #[.int .i64 0, .int .i64 0, .slice none 0 0] 29 (0, 0))
  row : W.heap[V]? = some (.cells #[.int .i64 x, .int .i64 m, .slice a n cap] 29 (0, 0))
  ints : IOwn W w.heap.size (.slice ai 3 ci) zs
  top : ∀ g, (Value.slice ai 3 ci).ownBlock = some g → g < V
  own : entSh.Own 41 W (V + 1) (.slice a n cap) l
  lt : w.heap.size < V
  bel : Below w.heap.size w W
theorem RHAt.later {w : World} {V : Nat} {ai : Option Addr} {ci : Nat} {zs : List Int} {x m : Int} {a : Option Addr} {n cap : Nat} {l : List EntV} {W W' : World} (h : RHAt w V ai ci zs x m a n cap l W) (hb : Below W.heap.size W W') : RHAt w V ai ci zs x m a n cap l W' :=
  ⟨(hb.block _ (lt_of_block h.res)).trans h.res, (hb.block _ (lt_of_block h.row)).trans h.row, h.ints.later hb (Nat.le_refl _), h.top, h.own.later hb (Nat.le_refl _), h.lt, h.bel.trans (hb.mono h.bel.size)⟩
/-- The three numbers' cells. -/
theorem ints3 {w : World} {base : Nat} {ai : Option Addr} {ci : Nat} {z0 z1 z2 : Int} (h : IOwn w base (.slice ai 3 ci) [z0, z1, z2]) : ∃ g, ai = some ⟨g, 0, none⟩ ∧ g < w.heap.size ∧ w.cell? ⟨g, 0, none⟩ = some (.int .i64 z0) ∧ w.cell? ⟨g, 1, none⟩ = some (.int .i64 z1) ∧ w.cell? ⟨g, 2, none⟩ = some (.int .i64 z2) := by
  rcases h.2 with ⟨_, h0⟩ | ⟨g, c, cur, e, hbg, hg, -, -, hcs, ht⟩
  · cases h0
  · injection e with e1 e2 e3
    refine ⟨g, e1, (Array.getElem?_eq_some_iff.1 hg).1, ?_, ?_, ?_⟩
    all_goals
      rw [cell_of_row w g _ _ _ _ hg]
      rw [← Array.getElem?_toList]
    · have := congrArg (fun l : List Value => l[0]?) ht; simpa using this
    · have := congrArg (fun l : List Value => l[1]?) ht; simpa using this
    · have := congrArg (fun l : List Value => l[2]?) ht; simpa using this
theorem ints4 {w : World} {base : Nat} {ai : Option Addr} {ci : Nat} {z0 z1 z2 z3 : Int} (h : IOwn w base (.slice ai 4 ci) [z0, z1, z2, z3]) : ∃ g, ai = some ⟨g, 0, none⟩ ∧ g < w.heap.size ∧ w.cell? ⟨g, 0, none⟩ = some (.int .i64 z0) ∧ w.cell? ⟨g, 1, none⟩ = some (.int .i64 z1) ∧ w.cell? ⟨g, 2, none⟩ = some (.int .i64 z2) ∧ w.cell? ⟨g, 3, none⟩ = some (.int .i64 z3) := by
  rcases h.2 with ⟨_, h0⟩ | ⟨g, c, cur, e, hbg, hg, -, -, hcs, ht⟩
  · cases h0
  · injection e with e1 e2 e3
    refine ⟨g, e1, (Array.getElem?_eq_some_iff.1 hg).1, ?_, ?_, ?_, ?_⟩
    all_goals
      rw [cell_of_row w g _ _ _ _ hg]
      rw [← Array.getElem?_toList]
    · have := congrArg (fun l : List Value => l[0]?) ht; simpa using this
    · have := congrArg (fun l : List Value => l[1]?) ht; simpa using this
    · have := congrArg (fun l : List Value => l[2]?) ht; simpa using this
    · have := congrArg (fun l : List Value => l[3]?) ht; simpa using this
/-- The row behind an append: only what lies behind the hint's block was written. -/
theorem RHAt.app {w : World} {V : Nat} {ai : Option Addr} {ci : Nat} {zs : List Int} {x m : Int} {a : Option Addr} {n cap : Nat} {l : List EntV} {W W2 : World} {a' : Option Addr} {cap' : Nat} {z : EntV} (h : RHAt w V ai ci zs x m a n cap l W) (hb : Below (V + 1) W W2) (ho : entSh.Own 41 W2 (V + 1) (.slice a' (n + 1) cap') (l ++ [z])) :
    W2.heap[V]? = some (.cells #[.int .i64 x, .int .i64 m, .slice a n cap] 29 (0, 0)) ∧ RHAt w V ai ci zs x m a' (n + 1) cap' (l ++ [z]) (W2.setCell ⟨V, 2, none⟩ (.slice a' (n + 1) cap')) := by
  have hl := h.lt
  have r2 := (hb.block V (by omega)).trans h.row
  refine ⟨r2, ?_, ?_, ?_, h.top, ?_, hl, ?_⟩
  · rw [Below.heap_setCell W2 _ _ _ (by dsimp only; omega)]
    exact (hb.block _ (by omega)).trans h.res
  · rw [setCell_eq_setRow W2 V 2 _ _ _ _ r2]
    exact setRow_heap W2 V _ _ _ _ r2
  · refine ⟨h.ints.1, ?_⟩
    rcases h.ints.2 with h1 | ⟨g, c, cur, e, hbg, hg, h2⟩
    · exact .inl h1
    · have hgV := h.top g (by rw [e]; rfl)
      refine .inr ⟨g, c, cur, e, hbg, ?_, h2⟩
      rw [Below.heap_setCell W2 _ _ _ (by dsimp only; omega)]
      exact (hb.block g (by omega)).trans hg
  · exact ho.setCell _ _ (by dsimp only; omega)
  · exact (h.bel.trans (hb.mono (by omega))).setCell (by dsimp only; omega) _
theorem failE_on {j n : Nat} {f : Bool} {t : ByteArray} (h : entF (failE j f t) (restE j t) = true) (hn : j < n) : failE n f t = true := by
  have h1 : failE (j + 1) f t = true := by rw [failE_snoc]; exact h
  have h2 : ∀ d, failE (j + 1 + d) f t = true := by
    intro d
    induction d with
    | zero => exact h1
    | succ d ih => rw [← Nat.add_assoc, failE_snoc, ih]; exact entF_true _
  have := h2 (n - (j + 1))
  rwa [show j + 1 + (n - (j + 1)) = n by omega] at this
/-- What is left behind a text that is there, as a place in the whole. -/
theorem rest_at {s T : ByteArray} {q : Nat} (hq : q ≤ s.size) (hT : s.extract q s.size = T) (h : txtF T = false) : ∃ r, r ≤ s.size ∧ s.extract r s.size = t5R T ∧ (t5R T).size = s.size - r := by
  have h' := of_decide_eq_false h
  have h2 : ¬ (numT T).size < (rv T).1 := fun e => h' (Or.inr e)
  have hz := numT_size T
  have hb := rv_bd T
  have hTz : T.size = s.size - q := by rw [← hT]; exact ba_len _ _ _ hq (Nat.le_refl _)
  have e2 : t5R T = T.extract ((rv T).2 + (rv T).1) T.size := by unfold t5R; rw [if_neg (by rw [h]; simp)]
  have e3 : s.extract (q + ((rv T).2 + (rv T).1)) s.size = t5R T := by rw [e2, ← cut_cut s q _ hq, hT]
  refine ⟨q + ((rv T).2 + (rv T).1), by omega, e3, ?_⟩
  rw [← e3]
  exact ba_len _ _ _ (by omega) (Nat.le_refl _)
theorem extract_all (s : ByteArray) : s.extract 0 s.size = s := by
  apply bl_inj
  rw [bl_extract, List.drop_zero, List.take_of_length_le (by rw [bl_length]; exact Nat.le_refl _)]

theorem ids3 (t : ByteArray) : idsF 3 t = [((rv t).1 : Int), ((rv (numT t)).1 : Int), (cntH t : Int)] := rfl
theorem ids4 (T : ByteArray) : ∃ z1 z2 z3 z4, idsF 4 (txtR T) = [z1, z2, z3, z4] ∧ entV T = ⟨txtV T, z1, z2, z3, z4⟩ := ⟨_, _, _, _, rfl, rfl⟩
theorem rest3 (t : ByteArray) : restF 3 t = tailH t := rfl
theorem rest4 (T : ByteArray) : restF 4 (txtR T) = entR T := rfl

set_option linter.unusedSimpArgs false in
set_option maxRecDepth 100000 in
set_option maxHeartbeats 4000000 in
theorem specReadH_any (s : ByteArray) (hs : s.size ≤ 1048576) (w : World) :
    Calls Tryd.prog 10 #[.string s] w fun e w' => (∃ a n cap, e = .returned (.tuple #[.agg #[.int .i64 (rh s).1.size, .int .i64 (rh s).1.mark, .slice a n cap], .bool (rh s).2]) ∧ entSh.Own 41 w' w.heap.size (.slice a n cap) (rh s).1.list) ∧ Below w.heap.size w w' := by
  obtain ⟨W, hW⟩ : ∃ W, W = w.alloc (.cells #[.int .i64 0, .int .i64 0, .slice none 0 0] 29) := ⟨_, rfl⟩
  have hW0 : W.heap[w.heap.size]? = some (.cells #[.int .i64 0, .int .i64 0, .slice none 0 0] 29 (0, 0)) := by rw [hW]; exact heap_alloc_new w _
  have HB0 : Hid (Below w.heap.size w W) := hide (by rw [hW]; exact (Below.refl _ w).alloc (Nat.le_refl _) _)
  have HE : Hid (∀ W', Below w.heap.size w W' → rh s = (zeroH, false) → (∃ a n cap, Ending.returned (.tuple #[.agg #[.int .i64 0, .int .i64 0, .slice none 0 0], .bool false]) = .returned (.tuple #[.agg #[.int .i64 (rh s).1.size, .int .i64 (rh s).1.mark, .slice a n cap], .bool (rh s).2]) ∧ entSh.Own 41 W' w.heap.size (.slice a n cap) (rh s).1.list) ∧ Below w.heap.size w W') := hide (fun W' hb e => by
    rw [e]
    exact ⟨⟨none, 0, 0, rfl, Shape.Own.nil entSh 41 W' _⟩, hb⟩)
  have HUN := hide (rh_unclean (s := s))
  by_cases h4 : s.size < 4
  · have t4 : decide ((s.size : Int) < 4) = true := by simp; omega
    have HV := hide (HUN.out (fun h => by have := of_decide_eq_false h.1; omega))
    obtain ⟨y0, y1, y2, f0, f1, f2⟩ := cells3h hW0
    clear hW0 h4 HUN
    go_enter Tryd.func10, Tryd.ntmps10
    rw [hW] at y0 y1 y2 f0 f1 f2
    go_wp2
    rw [← hW]
    refine bodyPost_ret (v := .tuple #[.agg #[.int .i64 0, .int .i64 0, .slice none 0 0], .bool false]) (by simp [results, Tryd.results10, go_sem, *]) rfl (HE.out _ ?_ HV.out)
    exact HB0.out
  · have t4 : decide ((s.size : Int) < 4) = false := by simp; omega
    have hs4 : 4 ≤ s.size := by omega
    have HR4 : Hid (sumF s = false ∧ sumR s = s.extract 4 s.size) := hide ⟨decide_eq_false h4, by unfold sumR; rw [if_pos hs4]⟩
    obtain ⟨t, ht⟩ : ∃ t, s.extract 4 s.size = t := ⟨_, rfl⟩
    have HVR := hide (fun W' => specVars_any s hs 4 3 hs4 (by omega) t ht W')
    have HTS := hide (HR4.out.2.trans ht)
    have HW0 := hide hW0
    clear hW0 h4 ht
    go_enter Tryd.func10, Tryd.ntmps10
    go_wp2_with fail
    rw [← hW]
    clear hW
    refine (HVR.out W).mono ?_
    rintro e w1 ⟨⟨ai, m3, ci, zs, q, rfl, hi1, rfl, hcase⟩, hb1⟩
    have HI1 := hide (hi1.mono HB0.out.size)
    have HX1 := hide ((hb1.block _ (lt_of_block HW0.out)).trans HW0.out)
    have HB1 := hide (HB0.out.trans (hb1.mono HB0.out.size))
    clear hi1 hb1 HW0 HB0 HVR
    rcases hcase with ⟨hf, rfl, hq0, hq1, hqr⟩ | ⟨hf, rfl⟩
    · have HQR := hide hqr
      obtain ⟨p, rfl⟩ := Int.eq_ofNat_of_zero_le hq0
      rw [Int.toNat_natCast, rest3] at HQR
      have HF3 : Hid (failH false t = false) := hide (by rw [failH_eq]; exact hf)
      rw [ids3] at HI1
      have hp : p ≤ s.size := by omega
      have HCL : Hid (cntH t ≤ 20 → failE (cntH t) false (tailH t) = false → (restE (cntH t) (tailH t)).size = 0 → CleanH s) := hide (fun h1 h2 h3 => by
        unfold CleanH
        rw [HTS.out]
        exact ⟨HR4.out.1, HF3.out, h1, h2, h3⟩)
      have HUC : Hid ((20 < cntH t ∨ failE (cntH t) false (tailH t) = true) → rh s = (zeroH, false)) := hide (fun h => HUN.out (fun hc => by
        obtain ⟨-, -, c1, c2, -⟩ := hc
        rw [HTS.out] at c1 c2
        rcases h with h | h
        · omega
        · rw [h] at c2; cases c2))
      have HEQ : Hid (rh s = if showH ⟨((rv t).1 : Nat), ((rv (numT t)).1 : Nat), entsF (cntH t) (tailH t)⟩ = s then (⟨((rv t).1 : Nat), ((rv (numT t)).1 : Nat), entsF (cntH t) (tailH t)⟩, true) else (zeroH, false)) := hide (by
        have h := rh_eq (s := s) (by omega)
        rw [HTS.out] at h
        exact h)
      clear hf hqr hq0 hq1 HUN HTS HR4 HF3 HCL
      have ht1 : (((rv t).1 : Nat) : Int) ≤ 562949953421311 := by have := (rv_bd t).1; omega
      generalize (((rv t).1 : Nat) : Int) = x at *
      generalize (((rv (numT t)).1 : Nat) : Int) = m at *
      generalize cntH t = c at *
      generalize tailH t = T at *
      obtain ⟨g, rfl, hg, i0, i1, i2⟩ := ints3 HI1.out
      by_cases h20 : 20 < c
      · have t20 : (20 : Int) < (c : Int) := by omega
        have HV := hide (HUC.out (.inl h20))
        obtain ⟨y0, y1, y2, f0, f1, f2⟩ := cells3h HX1.out
        clear h20 HI1
        go_wp2
        refine bodyPost_ret (v := .tuple #[.agg #[.int .i64 0, .int .i64 0, .slice none 0 0], .bool false]) (by simp [results, Tryd.results10, go_sem, *]) rfl (HE.out _ ?_ HV.out)
        iterate 3 (refine Below.setCell ?_ (by exact Nat.le_refl _) _)
        exact HB1.out
      · have t20 : ¬ (20 : Int) < (c : Int) := by omega
        go_upto_region 6 with fail
        go_cut [6] (fun v wx => v = .pointer (some ⟨w1.heap.size, 0, none⟩) ∧ wx = (w1.alloc (.cells #[.int .i64 x, .int .i64 m, .slice none 0 0] 29)).drew)
        case first =>
          go_region_with (fail)
          all_goals (go_wp2_with fail; go_meet; exact ⟨rfl, rfl⟩)
        case rest =>
          obtain ⟨rfl, rfl⟩ := hcut
          obtain ⟨W3, hW3⟩ : ∃ W3, W3 = (w1.alloc (.cells #[.int .i64 x, .int .i64 m, .slice none 0 0] 29)).drew := ⟨_, rfl⟩
          have HA : Hid (RHAt w w1.heap.size (some ⟨g, 0, none⟩) ci [x, m, (c : Int)] x m none 0 0 [] W3) := hide (by
            have hb := al1 w1 (.cells #[.int .i64 x, .int .i64 m, .slice none 0 0] 29)
            rw [hW3]
            exact ⟨(hb.block _ (lt_of_block HX1.out)).trans HX1.out, heap_alloc_new w1 _, HI1.out.later (al1 w1 (.cells #[.int .i64 x, .int .i64 m, .slice none 0 0] 29)).drew (Nat.le_refl _), fun k hk => by have h : some g = some k := hk; have := Option.some.inj h; omega, Shape.Own.nil entSh 41 _ _, lt_of_block HX1.out, (HB1.out.trans (hb.mono HB1.out.size)).drew⟩)
          rw [← hW3]
          clear hW3 HI1 HX1 HB1 i0 i1 i2 hg
          obtain ⟨V, hV⟩ : ∃ V, w1.heap.size = V := ⟨_, rfl⟩
          rw [hV] at HA ⊢
          clear hV
          have HF0 : Hid (failE 0 false T = false) := hide rfl
          go_wp2
          go_loopw [5, 7] (fun at' i wr => ∃ (j q : Nat) (a : Option Addr) (cap : Nat), at' = .int .i64 q ∧ i = .int .i64 j ∧ j ≤ c ∧ q ≤ s.size ∧ Hid (s.extract q s.size = restE j T) ∧ Hid (failE j false T = false) ∧ Hid (RHAt w V (some ⟨g, 0, none⟩) ci [x, m, (c : Int)] x m a j cap (entsF j T) wr)) (fun _ i _ => c - (intOf i).toNat)
          case atStart => exact ⟨0, p, none, 0, rfl, rfl, by omega, hp, HQR, HF0, HA⟩
          case round =>
            clear HA HF0 HQR
            obtain ⟨j, q, a, cap, rfl, rfl, hj, hq, HT, HF, HA⟩ := hrel
            obtain ⟨g', hg', hgl, i0, i1, i2⟩ := ints3 HA.out.ints
            obtain rfl : g = g' := by injection hg' with h; injection h
            by_cases hlt : j < c
            · have hXz : (s.extract q s.size).size = s.size - q := ba_len _ _ _ hq (Nat.le_refl _)
              have HL := hide (l5Text_any (s.extract q s.size) (by omega))
              have HON : Hid (entF false (s.extract q s.size) = true → rh s = (zeroH, false)) := hide (fun h => HUC.out (.inr (failE_on (j := j) (by rw [HF.out, ← HT.out]; exact h) hlt)))
              have HNX : Hid (entF false (s.extract q s.size) = false → failE (j + 1) false T = false) := hide (fun h => by rw [failE_snoc, HF.out, ← HT.out]; exact h)
              have HLS : Hid (entsF (j + 1) T = entsF j T ++ [entV (s.extract q s.size)] ∧ restE (j + 1) T = entR (s.extract q s.size)) := hide ⟨by rw [entsF_snoc, HT.out], by rw [restE_snoc, HT.out]⟩
              have HRA := hide (rest_at (T := s.extract q s.size) hq rfl)
              have HTV := hide (t5_txt (s.extract q s.size))
              have hRz := t5R_size (s.extract q s.size)
              have b1 : (0 : Int) ≤ (q : Int) := by omega
              have b2 : (q : Int) ≤ (s.size : Int) := by omega
              have hlt2 : (j : Int) < (c : Int) := by omega
              have HQ : Hid (s.extract q s.size = s.extract q s.size) := hide rfl
              generalize hX : s.extract q s.size = X at *
              have HX := hide hX
              clear hX HF HT HQ
              cases hb : txtF X with
              | true =>
                have HV := hide (HON.out (by rw [entF_eq, hb]; rfl))
                have HVR := hide (fun W' => specVars_any (t5R X) (by omega) 0 4 (Nat.zero_le _) (by omega) _ rfl W')
                rw [hb] at HL
                clear HON HNX HLS HRA HTV hb
                generalize t5R X = R at *
                generalize t5V X = key at *
                go_wp2_with fail
                rw [HX.out]
                refine (HL.out _).mono ?_
                rintro e w5 ⟨rfl, hb5⟩
                have HA5 := hide (HA.out.later hb5)
                clear hb5 HA HL i0 i1 i2
                go_wp2_with fail
                refine (HVR.out _).mono ?_
                rintro e w6 ⟨⟨ab, mb, cb, zb, qb, rfl, hob, -, hcb⟩, hb6⟩
                have HA6 := hide (HA5.out.later hb6)
                obtain ⟨y0, y1, y2, f0, f1, f2⟩ := cells3h HA6.out.res
                clear hb6 HA5 HVR hob hcb
                go_wp2
                refine bodyPost_ret (v := .tuple #[.agg #[.int .i64 0, .int .i64 0, .slice none 0 0], .bool false]) (by simp [results, Tryd.results10, go_sem, *]) rfl (HE.out _ ?_ HV.out)
                iterate 3 (refine Below.setCell ?_ (by exact Nat.le_refl _) _)
                exact HA6.out.bel
              | false =>
                obtain ⟨r, hr, hrR, hRr⟩ := HRA.out hb
                have HRX := hide hrR
                obtain ⟨e5v, e5r⟩ := HTV.out hb
                have HVR := hide (fun W' => specVars_any (t5R X) (by omega) 0 4 (Nat.zero_le _) (by omega) (t5R X) (extract_all _) W')
                rw [hb] at HL
                cases hf4 : failF 4 (t5R X) with
                | true =>
                  have HV := hide (HON.out (by rw [entF_eq, hb, ← e5r, hf4]; rfl))
                  rw [hf4] at HVR
                  clear HON HNX HLS HRA HTV hb e5v e5r hrR HRX hRr
                  generalize t5R X = R at *
                  generalize t5V X = key at *
                  go_wp2_with fail
                  rw [HX.out]
                  refine (HL.out _).mono ?_
                  rintro e w5 ⟨rfl, hb5⟩
                  have HA5 := hide (HA.out.later hb5)
                  clear hb5 HA HL i0 i1 i2
                  go_wp2_with fail
                  refine (HVR.out _).mono ?_
                  rintro e w6 ⟨⟨ab, mb, cb, zb, qb, rfl, hob, -, hcb⟩, hb6⟩
                  have HA6 := hide (HA5.out.later hb6)
                  obtain rfl : qb = -1 := by
                    rcases hcb with h | h
                    · cases h.1
                    · exact h.2
                  obtain ⟨y0, y1, y2, f0, f1, f2⟩ := cells3h HA6.out.res
                  clear hb6 HA5 HVR hob hcb
                  go_wp2
                  refine bodyPost_ret (v := .tuple #[.agg #[.int .i64 0, .int .i64 0, .slice none 0 0], .bool false]) (by simp [results, Tryd.results10, go_sem, *]) rfl (HE.out _ ?_ HV.out)
                  iterate 3 (refine Below.setCell ?_ (by exact Nat.le_refl _) _)
                  exact HA6.out.bel
                | false =>
                  rw [hf4] at HVR
                  obtain ⟨z1, z2, z3, z4, hz4, hev⟩ := ids4 X
                  have HNX2 := hide (HNX.out (by rw [entF_eq, hb, ← e5r, hf4]; rfl))
                  have HLS2 : Hid (entsF (j + 1) T = entsF j T ++ [⟨t5V X, z1, z2, z3, z4⟩]) := hide (by rw [HLS.out.1, hev, e5v])
                  have HRE : Hid (∀ k : Nat, (t5R X).extract k (t5R X).size = restF 4 (t5R X) → s.extract (r + k) s.size = restE (j + 1) T) := hide (fun k hk => by
                    rw [HLS.out.2, ← rest4, ← e5r, ← hk, ← hrR, cut_cut s r k hr])
                  have hids : idsF 4 (t5R X) = [z1, z2, z3, z4] := by rw [e5r]; exact hz4
                  rw [hids] at HVR
                  clear HON HNX HLS HRA HTV hb e5v e5r hrR HRX hf4 hev hz4 hids
                  generalize t5R X = R at *
                  generalize t5V X = key at *
                  go_wp2_with fail
                  rw [HX.out]
                  refine (HL.out _).mono ?_
                  rintro e w5 ⟨rfl, hb5⟩
                  have HA5 := hide (HA.out.later hb5)
                  clear hb5 HA HL i0 i1 i2
                  go_wp2_with fail
                  refine (HVR.out _).mono ?_
                  rintro e w6 ⟨⟨ab, mb, cb, zb, qb, rfl, hob, rfl, hcb⟩, hb6⟩
                  have HA6 := hide (HA5.out.later hb6)
                  obtain ⟨rfl, hq0, hq1, hqr⟩ : zb = [z1, z2, z3, z4] ∧ 0 ≤ qb ∧ qb ≤ (R.size : Int) ∧ R.extract qb.toNat R.size = restF 4 R := by
                    rcases hcb with h | h
                    · exact h.2
                    · cases h.1
                  obtain ⟨k, rfl⟩ := Int.eq_ofNat_of_zero_le hq0
                  rw [Int.toNat_natCast] at hqr
                  have HRE2 := hide (HRE.out k hqr)
                  clear hb6 HA5 HVR hcb HRE hqr
                  have HRr := hide hRr
                  have hRs : R.size ≤ s.size := by omega
                  clear hRr
                  obtain ⟨gb, rfl, hgb, j0, j1, j2, j3⟩ := ints4 hob
                  obtain ⟨y0, y1, y2, f0, f1, f2⟩ := cells3h HA6.out.row
                  have HGB : Hid (∃ cur, w6.heap[gb]? = some (.cells cur 3 (0, 0))) := hide (by
                    rcases hob.2 with ⟨e, _⟩ | ⟨g2, c2, cur, e, _, hg2, _⟩
                    · cases e
                    · injection e with e1
                      injection e1 with e1
                      injection e1 with e1
                      rw [e1]
                      exact ⟨cur, hg2⟩)
                  clear hob
                  have HA6d := hide (HA6.out.later (Below.refl _ _).drew)
                  have hel := HA6.out.own.len
                  have hVs : V + 1 ≤ w6.drew.heap.size := lt_of_block HA6.out.row
                  have hVb : V ≠ gb := fun e => by
                    obtain ⟨cur, hc⟩ := HGB.out
                    have h := HA6.out.row
                    rw [e, hc] at h
                    injection h with h
                    injection h with h1 h2
                    cases h2
                  have hEb : (Value.slice a j cap).ownBlock ≠ some gb := fun e => by
                    obtain ⟨cur, hc⟩ := HGB.out
                    rcases HA6.out.own.2 with ⟨e0, _⟩ | ⟨g2, c2, cur2, e0, _, hg2, _⟩
                    · rw [e0] at e; cases e
                    · rw [e0] at e
                      obtain rfl : g2 = gb := Option.some.inj e
                      rw [hc] at hg2
                      injection hg2 with h
                      injection h with h1 h2
                      cases h2
                  have HPS : Hid (∀ W1 a' n' cap', n' = (entsF j T).length + 1 → entSh.Own 41 W1 (V + 1) (.slice a' n' cap') (entsF j T ++ [⟨key, z1, z2, z3, z4⟩]) → w6.drew.grownBy W1 (Value.slice a j cap).ownBlock → (∃ v, W1.cell? ⟨V, 2, none⟩ = some v) ∧ W1.frozen? ⟨V, 2, none⟩ = false ∧ n' = j + 1 ∧ Hid (RHAt w V (some ⟨g, 0, none⟩) ci [x, m, (c : Int)] x m a' (j + 1) cap' (entsF (j + 1) T) (W1.setCell ⟨V, 2, none⟩ (.slice a' (j + 1) cap'))) ∧ (W1.cell? ⟨gb, 0, none⟩ = some (.int .i64 z1) ∧ W1.cell? ⟨gb, 1, none⟩ = some (.int .i64 z2) ∧ W1.cell? ⟨gb, 2, none⟩ = some (.int .i64 z3) ∧ W1.cell? ⟨gb, 3, none⟩ = some (.int .i64 z4)) ∧ ∀ v, ((W1.setCell ⟨V, 2, none⟩ v).cell? ⟨gb, 0, none⟩ = some (.int .i64 z1) ∧ (W1.setCell ⟨V, 2, none⟩ v).cell? ⟨gb, 1, none⟩ = some (.int .i64 z2) ∧ (W1.setCell ⟨V, 2, none⟩ v).cell? ⟨gb, 2, none⟩ = some (.int .i64 z3) ∧ (W1.setCell ⟨V, 2, none⟩ v).cell? ⟨gb, 3, none⟩ = some (.int .i64 z4))) := hide (fun W1 a' n' cap' hn' ho hg => by
                    have hn : n' = j + 1 := by omega
                    subst hn
                    have hb : Below (V + 1) w6.drew W1 := (Below.refl _ _).grown hg hVs (fun k hk => (HA6d.out.own.blk k hk).1)
                    obtain ⟨q1, q2⟩ := HA6d.out.app hb ho
                    obtain ⟨-, -, c2, -, -, fz⟩ := cells3h q1
                    obtain ⟨cur, hc⟩ := HGB.out
                    have hk : W1.heap[gb]? = some (.cells cur 3 (0, 0)) := (hg.block gb hgb (fun e => hEb e.symm)).trans hc
                    have hk2 : ∀ v, (W1.setCell ⟨V, 2, none⟩ v).heap[gb]? = some (.cells cur 3 (0, 0)) := fun v => (Below.heap_setCell W1 ⟨V, 2, none⟩ v gb (fun e => hVb e.symm)).trans hk
                    have hcc : ∀ i, w6.cell? ⟨gb, i, none⟩ = cur[i]? := fun i => cell_of_row w6 gb i _ _ _ hc
                    have hc1 : ∀ i, W1.cell? ⟨gb, i, none⟩ = w6.cell? ⟨gb, i, none⟩ := fun i => (cell_of_row W1 gb i _ _ _ hk).trans (hcc i).symm
                    have hc2 : ∀ v i, (W1.setCell ⟨V, 2, none⟩ v).cell? ⟨gb, i, none⟩ = w6.cell? ⟨gb, i, none⟩ := fun v i => (cell_of_row _ gb i _ _ _ (hk2 v)).trans (hcc i).symm
                    exact ⟨⟨_, c2⟩, fz, rfl, hide (by rw [HLS2.out]; exact q2), ⟨(hc1 0).trans j0, (hc1 1).trans j1, (hc1 2).trans j2, (hc1 3).trans j3⟩, fun v => ⟨(hc2 v 0).trans j0, (hc2 v 1).trans j1, (hc2 v 2).trans j2, (hc2 v 3).trans j3⟩⟩)
                  have hSd : w6.drew.cell? ⟨gb, 0, none⟩ = some (.int .i64 z1) ∧ w6.drew.cell? ⟨gb, 1, none⟩ = some (.int .i64 z2) ∧ w6.drew.cell? ⟨gb, 2, none⟩ = some (.int .i64 z3) ∧ w6.drew.cell? ⟨gb, 3, none⟩ = some (.int .i64 z4) := ⟨j0, j1, j2, j3⟩
                  have hal := al1 w6.drew (.cells #[.string key, .int .i64 z1, .int .i64 z2, .int .i64 z3, .int .i64 z4] 41)
                  have HSA : Hid ((w6.drew.alloc (.cells #[.string key, .int .i64 z1, .int .i64 z2, .int .i64 z3, .int .i64 z4] 41)).cell? ⟨gb, 0, none⟩ = some (.int .i64 z1) ∧ (w6.drew.alloc (.cells #[.string key, .int .i64 z1, .int .i64 z2, .int .i64 z3, .int .i64 z4] 41)).cell? ⟨gb, 1, none⟩ = some (.int .i64 z2) ∧ (w6.drew.alloc (.cells #[.string key, .int .i64 z1, .int .i64 z2, .int .i64 z3, .int .i64 z4] 41)).cell? ⟨gb, 2, none⟩ = some (.int .i64 z3) ∧ (w6.drew.alloc (.cells #[.string key, .int .i64 z1, .int .i64 z2, .int .i64 z3, .int .i64 z4] 41)).cell? ⟨gb, 3, none⟩ = some (.int .i64 z4)) := hide ⟨(hal.cell (p := ⟨gb, 0, none⟩) hgb).trans j0, (hal.cell (p := ⟨gb, 1, none⟩) hgb).trans j1, (hal.cell (p := ⟨gb, 2, none⟩) hgb).trans j2, (hal.cell (p := ⟨gb, 3, none⟩) hgb).trans j3⟩
                  have y2a : (w6.drew.alloc (.cells #[.string key, .int .i64 z1, .int .i64 z2, .int .i64 z3, .int .i64 z4] 41)).cell? ⟨V, 2, none⟩ = some (.slice a j cap) := (hal.cell (p := ⟨V, 2, none⟩) (by exact hVs)).trans y2
                  have y2b : (w6.alloc (.cells #[.string key, .int .i64 z1, .int .i64 z2, .int .i64 z3, .int .i64 z4] 41)).cell? ⟨V, 2, none⟩ = some (.slice a j cap) := y2a
                  clear hal
                  go_wp2
                  refine wp_region_held_drew (S := (fun W' => W'.cell? ⟨gb, 0, none⟩ = some (.int .i64 z1) ∧ W'.cell? ⟨gb, 1, none⟩ = some (.int .i64 z2) ∧ W'.cell? ⟨gb, 2, none⟩ = some (.int .i64 z3) ∧ W'.cell? ⟨gb, 3, none⟩ = some (.int .i64 z4))) (by kernel_rfl) (by exact hSd) (fun hHeld => ?_)
                  refine wpAnyH_take (i := 0) (v := ?_) rfl (by kernel_rfl) (by kernel_rfl) (by kernel_rfl) (fun _ _ _ h => h) (Or.inl ⟨by rfl, ?_⟩) (by assumption) ?_
                  rotate_left
                  · intro W hSw
                    try dsimp only at hSw
                    go_simp
                    try with_reducible rfl
                  try simp only [Act.put, List.setIfInBounds_toArray, List.set_cons_zero, List.set_cons_succ]
                  refine wpAnyH_take (i := 2) (v := ?_) rfl (by kernel_rfl) (by kernel_rfl) (by kernel_rfl) (fun _ _ _ h => h) (Or.inl ⟨by rfl, ?_⟩) (by assumption) ?_
                  rotate_left
                  · intro W hSw
                    try dsimp only at hSw
                    go_simp
                    try with_reducible rfl
                  try simp only [Act.put, List.setIfInBounds_toArray, List.set_cons_zero, List.set_cons_succ]
                  refine wpAnyH_take (i := 3) (v := ?_) rfl (by kernel_rfl) (by kernel_rfl) (by kernel_rfl) (fun _ _ _ h => h) (Or.inl ⟨by rfl, ?_⟩) (by assumption) ?_
                  rotate_left
                  · intro W hSw
                    try dsimp only at hSw
                    go_simp
                    try with_reducible rfl
                  try simp only [Act.put, List.setIfInBounds_toArray, List.set_cons_zero, List.set_cons_succ]
                  refine wpAnyH_take (i := 4) (v := ?_) rfl (by kernel_rfl) (by kernel_rfl) (by kernel_rfl) (fun _ _ _ h => h) (Or.inl ⟨by rfl, ?_⟩) (by assumption) ?_
                  rotate_left
                  · intro W hSw
                    try dsimp only at hSw
                    go_simp
                    try with_reducible rfl
                  try simp only [Act.put, List.setIfInBounds_toArray, List.set_cons_zero, List.set_cons_succ]
                  refine wpAnyH_take (i := 5) (v := ?_) rfl (by kernel_rfl) (by kernel_rfl) (by kernel_rfl) (fun _ _ _ h => h) (Or.inl ⟨by rfl, ?_⟩) (by assumption) ?_
                  rotate_left
                  · intro W hSw
                    try dsimp only at hSw
                    go_simp
                    try with_reducible rfl
                  try simp only [Act.put, List.setIfInBounds_toArray, List.set_cons_zero, List.set_cons_succ]
                  refine wpAnyH_take (i := 6) (v := ?_) rfl (by kernel_rfl) (by kernel_rfl) (by kernel_rfl) (fun _ _ _ h => h) (Or.inl ⟨by rfl, ?_⟩) (by assumption) ?_
                  rotate_left
                  · intro W hSw
                    try dsimp only at hSw
                    go_simp
                    try with_reducible rfl
                  try simp only [Act.put, List.setIfInBounds_toArray, List.set_cons_zero, List.set_cons_succ]
                  refine wpAnyH_take (i := 7) (v := ?_) rfl (by kernel_rfl) (by kernel_rfl) (by kernel_rfl) (fun _ _ _ h => h) (Or.inl ⟨by rfl, ?_⟩) (by assumption) ?_
                  rotate_left
                  · intro W hSw
                    try dsimp only at hSw
                    go_simp
                    try with_reducible rfl
                  try simp only [Act.put, List.setIfInBounds_toArray, List.set_cons_zero, List.set_cons_succ]
                  refine wpAnyH_take (i := 8) (v := ?_) rfl (by kernel_rfl) (by kernel_rfl) (by kernel_rfl) (fun _ _ _ h => h) (Or.inl ⟨by rfl, ?_⟩) (by assumption) ?_
                  rotate_left
                  · intro W hSw
                    try dsimp only at hSw
                    go_simp
                    try with_reducible rfl
                  try simp only [Act.put, List.setIfInBounds_toArray, List.set_cons_zero, List.set_cons_succ]
                  refine wpAnyH_take (i := 9) (v := ?_) rfl (by kernel_rfl) (by kernel_rfl) (by kernel_rfl) (fun _ _ _ h => h) (Or.inl ⟨by rfl, ?_⟩) (by assumption) ?_
                  rotate_left
                  · intro W hSw
                    try dsimp only at hSw
                    go_simp
                    try with_reducible rfl
                  try simp only [Act.put, List.setIfInBounds_toArray, List.set_cons_zero, List.set_cons_succ]
                  refine wpAnyH_take (i := 10) (v := ?_) rfl (by kernel_rfl) (by kernel_rfl) (by kernel_rfl) (fun _ _ _ h => h) (Or.inl ⟨by rfl, ?_⟩) (by assumption) ?_
                  rotate_left
                  · intro W hSw
                    try dsimp only at hSw
                    go_simp
                    try with_reducible rfl
                  try simp only [Act.put, List.setIfInBounds_toArray, List.set_cons_zero, List.set_cons_succ]
                  refine wpAnyH_take (i := 11) (v := ?_) rfl (by kernel_rfl) (by kernel_rfl) (by kernel_rfl) (fun _ _ _ h => h) (Or.inl ⟨by rfl, ?_⟩) (by assumption) ?_
                  rotate_left
                  · intro W hSw
                    try dsimp only at hSw
                    go_simp
                    try with_reducible rfl
                  try simp only [Act.put, List.setIfInBounds_toArray, List.set_cons_zero, List.set_cons_succ]
                  refine wpAnyH_take (i := 12) (v := ?_) rfl (by kernel_rfl) (by kernel_rfl) (by kernel_rfl) (fun _ _ _ h => h) (Or.inl ⟨by rfl, ?_⟩) (by assumption) ?_
                  rotate_left
                  · intro W hSw
                    try dsimp only at hSw
                    go_simp
                    try with_reducible rfl
                  try simp only [Act.put, List.setIfInBounds_toArray, List.set_cons_zero, List.set_cons_succ]
                  refine wpAnyH_take (i := 13) (v := ?_) rfl (by kernel_rfl) (by kernel_rfl) (by kernel_rfl) (fun _ _ _ h => h) (Or.inl ⟨by rfl, ?_⟩) (by assumption) ?_
                  rotate_left
                  · intro W hSw
                    try dsimp only at hSw
                    go_simp
                    try with_reducible rfl
                  try simp only [Act.put, List.setIfInBounds_toArray, List.set_cons_zero, List.set_cons_succ]
                  refine wpAnyH_take (i := 14) (v := ?_) rfl (by kernel_rfl) (by kernel_rfl) (by kernel_rfl) (fun _ _ _ h => h) (Or.inl ⟨by rfl, ?_⟩) (by assumption) ?_
                  rotate_left
                  · intro W hSw
                    try dsimp only at hSw
                    go_simp
                    try with_reducible rfl
                  try simp only [Act.put, List.setIfInBounds_toArray, List.set_cons_zero, List.set_cons_succ]
                  refine wpAnyH_take (i := 15) (v := ?_) rfl (by kernel_rfl) (by kernel_rfl) (by kernel_rfl) (fun _ _ _ h => h) (Or.inl ⟨by rfl, ?_⟩) (by assumption) ?_
                  rotate_left
                  · intro W hSw
                    try dsimp only at hSw
                    go_simp
                    try with_reducible rfl
                  try simp only [Act.put, List.setIfInBounds_toArray, List.set_cons_zero, List.set_cons_succ]
                  refine wpAnyH_ready (rs := [1, 16]) (by kernel_rfl) (by simp) ?_
                  refine AllReadyH.cons rfl (fun K hK => ?_) ?_
                  · go_simp
                    refine hK.out _ _ (by exact hSd) (fun hHeld => ?_)
                    clear hK K
                    try simp only [Act.put, List.setIfInBounds_toArray, List.set_cons_zero, List.set_cons_succ]
                    refine wpAnyH_ready (rs := [16]) (by kernel_rfl) (by simp) ?_
                    refine AllReadyH.cons rfl (fun K hK => ?_) ?_
                    · go_simp
                      refine hK.out _ _ (HSA.out) (fun hHeld => ?_)
                      clear hK K
                      try simp only [Act.put, List.setIfInBounds_toArray, List.set_cons_zero, List.set_cons_succ]
                      refine wpAnyH_ready (rs := [17]) (by kernel_rfl) (by simp) ?_
                      refine AllReadyH.cons rfl (fun K hK => ?_) ?_
                      · refine step_app_ent (w := w6.drew) rfl (.tmp 66) (.tmp 81) rfl ⟨key, z1, z2, z3, z4⟩ HA6d.out.own hVs (by omega) rfl rfl rfl ?_
                        intro a' n' cap' W1 hn' ho hg hl; obtain ⟨⟨vo, v2⟩, fz2, rfl, HR7, hS8, hS9⟩ := HPS.out W1 a' n' cap' hn' ho hg; clear hn' ho hg hl
                        refine hK.out _ _ (hS8) (fun hHeld => ?_)
                        clear hK K
                        try simp only [Act.put, List.setIfInBounds_toArray, List.set_cons_zero, List.set_cons_succ]
                        refine wpAnyH_take (i := 18) (v := ?_) rfl (by kernel_rfl) (by kernel_rfl) (by kernel_rfl) (fun _ _ _ h => h) (Or.inl ⟨by rfl, ?_⟩) (by assumption) ?_
                        rotate_left
                        · intro W hSw
                          try dsimp only at hSw
                          go_simp
                          try with_reducible rfl
                        try simp only [Act.put, List.setIfInBounds_toArray, List.set_cons_zero, List.set_cons_succ]
                        refine wpAnyH_ready (rs := [19]) (by kernel_rfl) (by simp) ?_
                        refine AllReadyH.cons rfl (fun K hK => ?_) ?_
                        · go_simp
                          refine hK.out _ _ (hS9 _) (fun hHeld => ?_)
                          clear hK K
                          try simp only [Act.put, List.setIfInBounds_toArray, List.set_cons_zero, List.set_cons_succ]
                          refine wpAnyH_done (by kernel_rfl) ?_ _
                          clear hHeld
                          have hrk : (s.size : Int) - (R.size : Int) + (k : Int) = ((r + k : Nat) : Int) := by have := HRr.out; omega
                          go_wp2
                          go_roundw
                          case rel => exact ⟨j + 1, r + k, a', cap', by first | rfl | (congr 1; have := HRr.out; omega), by go_num, by omega, by have := HRr.out; omega, HRE2, HNX2, HR7⟩
                          case measure => first | (simp [intOf]; done) | (simp [intOf]; omega)
                        exact AllReadyH.nil
                      exact AllReadyH.nil
                    exact AllReadyH.nil
                  refine AllReadyH.cons rfl (fun K hK => ?_) ?_
                  · go_simp
                    refine hK.out _ _ (HSA.out) (fun hHeld => ?_)
                    clear hK K
                    try simp only [Act.put, List.setIfInBounds_toArray, List.set_cons_zero, List.set_cons_succ]
                    refine wpAnyH_ready (rs := [1]) (by kernel_rfl) (by simp) ?_
                    refine AllReadyH.cons rfl (fun K hK => ?_) ?_
                    · go_simp
                      refine hK.out _ _ (hHeld) (fun hHeld => ?_)
                      clear hK K
                      try simp only [Act.put, List.setIfInBounds_toArray, List.set_cons_zero, List.set_cons_succ]
                      refine wpAnyH_ready (rs := [17]) (by kernel_rfl) (by simp) ?_
                      refine AllReadyH.cons rfl (fun K hK => ?_) ?_
                      · refine step_app_ent (w := w6.drew) rfl (.tmp 66) (.tmp 81) rfl ⟨key, z1, z2, z3, z4⟩ HA6d.out.own hVs (by omega) rfl rfl rfl ?_
                        intro a' n' cap' W1 hn' ho hg hl; obtain ⟨⟨vo, v2⟩, fz2, rfl, HR7, hS8, hS9⟩ := HPS.out W1 a' n' cap' hn' ho hg; clear hn' ho hg hl
                        refine hK.out _ _ (hS8) (fun hHeld => ?_)
                        clear hK K
                        try simp only [Act.put, List.setIfInBounds_toArray, List.set_cons_zero, List.set_cons_succ]
                        refine wpAnyH_take (i := 18) (v := ?_) rfl (by kernel_rfl) (by kernel_rfl) (by kernel_rfl) (fun _ _ _ h => h) (Or.inl ⟨by rfl, ?_⟩) (by assumption) ?_
                        rotate_left
                        · intro W hSw
                          try dsimp only at hSw
                          go_simp
                          try with_reducible rfl
                        try simp only [Act.put, List.setIfInBounds_toArray, List.set_cons_zero, List.set_cons_succ]
                        refine wpAnyH_ready (rs := [19]) (by kernel_rfl) (by simp) ?_
                        refine AllReadyH.cons rfl (fun K hK => ?_) ?_
                        · go_simp
                          refine hK.out _ _ (hS9 _) (fun hHeld => ?_)
                          clear hK K
                          try simp only [Act.put, List.setIfInBounds_toArray, List.set_cons_zero, List.set_cons_succ]
                          refine wpAnyH_done (by kernel_rfl) ?_ _
                          clear hHeld
                          have hrk : (s.size : Int) - (R.size : Int) + (k : Int) = ((r + k : Nat) : Int) := by have := HRr.out; omega
                          go_wp2
                          go_roundw
                          case rel => exact ⟨j + 1, r + k, a', cap', by first | rfl | (congr 1; have := HRr.out; omega), by go_num, by omega, by have := HRr.out; omega, HRE2, HNX2, HR7⟩
                          case measure => first | (simp [intOf]; done) | (simp [intOf]; omega)
                        exact AllReadyH.nil
                      exact AllReadyH.nil
                    exact AllReadyH.nil
                  exact AllReadyH.nil
            · obtain rfl : j = c := by omega
              obtain ⟨y0, y1, y2, f0, f1, f2⟩ := cells3h HA.out.row
              have hjl := HA.out.own.len
              have HSH := hide (specShowH_any wr x m a j cap (entsF j T) HA.out.own.row (by omega))
              have hsz := showH_size ⟨x, m, entsF j T⟩
              clear HT HF HUC
              by_cases he : showH ⟨x, m, entsF j T⟩ = s
              · have HV : Hid (rh s = (⟨x, m, entsF j T⟩, true)) := hide (by rw [HEQ.out, if_pos he])
                have q1 := str_eq _ _ he
                clear he HEQ
                generalize showH ⟨x, m, entsF j T⟩ = S at *
                go_wp2_with fail
                refine HSH.out.mono ?_
                rintro e w5 ⟨rfl, hb5⟩
                have HA5 := hide (HA.out.later hb5)
                clear hb5 HA HSH y0 y1 y2 f0 f1 f2 i0 i1 i2
                obtain ⟨y0, y1, y2, f0, f1, f2⟩ := cells3h HA5.out.row
                obtain ⟨x0, x1, x2, k0, k1, k2⟩ := cells3h HA5.out.res
                have HLT := hide HA5.out.lt
                go_wp2
                refine bodyPost_ret (v := .tuple #[.agg #[.int .i64 x, .int .i64 m, .slice a j cap], .bool true]) (by simp [results, Tryd.results10, go_sem, *]) rfl ?_
                rw [HV.out]
                refine ⟨⟨a, j, cap, rfl, ?_⟩, ?_⟩
                · refine Shape.Own.mono ?_ (Nat.le_of_lt (Nat.lt_succ_of_lt HLT.out))
                  iterate 3 (refine Shape.Own.setCell ?_ _ _ (by have := HLT.out; dsimp only; omega))
                  exact HA5.out.own
                · iterate 3 (refine Below.setCell ?_ (by exact Nat.le_refl _) _)
                  exact HA5.out.bel
              · have HV : Hid (rh s = (zeroH, false)) := hide (by rw [HEQ.out, if_neg he])
                have q1 := str_ne _ _ he
                clear he HEQ
                generalize showH ⟨x, m, entsF j T⟩ = S at *
                go_wp2_with fail
                refine HSH.out.mono ?_
                rintro e w5 ⟨rfl, hb5⟩
                have HA5 := hide (HA.out.later hb5)
                clear hb5 HA HSH y0 y1 y2 f0 f1 f2 i0 i1 i2
                obtain ⟨y0, y1, y2, f0, f1, f2⟩ := cells3h HA5.out.res
                go_wp2
                refine bodyPost_ret (v := .tuple #[.agg #[.int .i64 0, .int .i64 0, .slice none 0 0], .bool false]) (by simp [results, Tryd.results10, go_sem, *]) rfl (HE.out _ ?_ HV.out)
                iterate 3 (refine Below.setCell ?_ (by exact Nat.le_refl _) _)
                exact HA5.out.bel
    · have HV := hide (HUN.out (fun h => by have h2 := h.2.1; rw [HTS.out, failH_eq, hf] at h2; cases h2))
      obtain ⟨y0, y1, y2, f0, f1, f2⟩ := cells3h HX1.out
      clear hf HUN HI1
      go_wp2
      refine bodyPost_ret (v := .tuple #[.agg #[.int .i64 0, .int .i64 0, .slice none 0 0], .bool false]) (by simp [results, Tryd.results10, go_sem, *]) rfl (HE.out _ ?_ HV.out)
      iterate 3 (refine Below.setCell ?_ (by exact Nat.le_refl _) _)
      exact HB1.out

end Go.Proofs.YtimpokbcfjgdaaaDoor
