/-
  spec.ReadLive.
-/
import Derived.Test.YthnealhaleccpaaDoorReadLPlain
import Derived.Test.YthnealhaleccpaaDoorLiveSpec
import Derived.Test.YthnealhaleccpaaDoorFrameSpec
namespace Go.Proofs.YthnealhaleccpaaDoor
open Go.RowKit
open Plain

/-- The answer's block (the first of the call's own) holds nothing yet; block B holds a list under way, whose numbers lie in a row of the call's own behind it. -/
structure RLAt (w : World) (B : Nat) (x : Int) (a : Option Addr) (n cap : Nat) (l : List Int) (W : World) : Prop where
  res : W.heap[w.heap.size]? = some (.cells #[.int .i64 0, .slice none 0 0] 27 (0, 0))
  row : W.heap[B]? = some (.cells #[.int .i64 x, .slice a n cap] 27 (0, 0))
  own : IOwn W (B + 1) (.slice a n cap) l
  lt : w.heap.size < B
  bel : Below w.heap.size w W
theorem RLAt.later {w : World} {B : Nat} {x : Int} {a : Option Addr} {n cap : Nat} {l : List Int} {W W' : World} (h : RLAt w B x a n cap l W) (hb : Below W.heap.size W W') : RLAt w B x a n cap l W' :=
  ⟨(hb.block _ (lt_of_block h.res)).trans h.res, (hb.block _ (lt_of_block h.row)).trans h.row, h.own.later hb (Nat.le_refl _), h.lt, h.bel.trans (hb.mono h.bel.size)⟩
/-- A number put behind: the new row is in its place. -/
theorem RLAt.app {w : World} {B : Nat} {x : Int} {a : Option Addr} {n cap : Nat} {l : List Int} {W W1 W2 : World} {z : Int} {v' : Value} (h : RLAt w B x a n cap l W) (hb : Below W.heap.size W W1) (ho : W2.ownsRow (B + 1) 3 1 v' (n + 1) (l.map (Value.int .i64) ++ [.int .i64 z])) (hg : W1.grownBy W2 (Value.slice a n cap).ownBlock) :
    (∃ a' cap', v' = .slice a' (n + 1) cap') ∧ W2.heap[B]? = some (.cells #[.int .i64 x, .slice a n cap] 27 (0, 0)) ∧ ∀ a' cap', v' = .slice a' (n + 1) cap' → RLAt w B x a' (n + 1) cap' (l ++ [z]) (W2.setCell ⟨B, 1, none⟩ v') := by
  have h1 := h.later hb
  have hne : ∀ k, k ≤ B → (Value.slice a n cap).ownBlock ≠ some k := fun k hk e => by
    have := (World.ownsRow.lt h.own k e).1
    omega
  have r2 : W2.heap[B]? = _ := (hg.block B (lt_of_block h1.row) (hne B (Nat.le_refl _)).symm).trans h1.row
  have s2 : W2.heap[w.heap.size]? = _ := (hg.block _ (lt_of_block h1.res) (hne _ (Nat.le_of_lt h.lt)).symm).trans h1.res
  refine ⟨?_, r2, ?_⟩
  · rcases ho.2 with ⟨_, h0⟩ | ⟨g, c, cur, e, _⟩
    · omega
    · exact ⟨_, _, e⟩
  · rintro a' cap' rfl
    have hlt := h.lt
    have hsz : (l ++ [z]).length = n + 1 := by rw [List.length_append, h.own.len]; rfl
    refine ⟨?_, ?_, ?_, h.lt, ?_⟩
    · rw [Below.heap_setCell W2 _ _ _ (by simp; omega)]
      exact s2
    · rw [setCell_eq_setRow W2 B 1 _ _ _ _ r2]
      exact setRow_heap W2 B _ _ _ _ r2
    · have h2 : IOwn W2 (B + 1) (.slice a' (n + 1) cap') (l ++ [z]) := by
        unfold IOwn
        rw [hsz, List.map_append]
        exact ho
      exact h2.setCell _ _ (by simp)
    · refine Below.setCell ?_ (by dsimp only; omega) _
      exact h1.bel.grown hg h1.bel.size (fun k hk => by have := (World.ownsRow.lt h.own k hk).1; omega)

set_option maxRecDepth 100000 in
set_option maxHeartbeats 4000000 in
theorem specReadL_any (s : ByteArray) (hs : s.size ≤ 1048576) (w : World) :
    Calls Tryd.prog 12 #[.string s] w fun e w' => (∃ a n cap, e = .returned (.tuple #[.agg #[.int .i64 (rl s).1.next, .slice a n cap], .bool (rl s).2]) ∧ IOwn w' w.heap.size (.slice a n cap) (rl s).1.ids) ∧ Below w.heap.size w w' := by
  have HU := hide (specUnframe_any s hs)
  have hub := uf_bd s
  have HNO : Hid ((s.size = 0 ∨ (uf s).2 ≠ s.size ∨ (rv (uf s).1).2 = 0) → rl s = (zeroL, false)) := hide (fun h => RL_no (fun u hu e => by
    obtain ⟨a1, a2, a3, -⟩ := RL_shown hu e
    unfold failT at a3
    rw [Bool.or_eq_false_iff, Bool.or_eq_false_iff] at a3
    have f1 := of_decide_eq_false a3.1.2
    rcases h with h | h | h
    · exact a1 h
    · exact h a2
    · exact f1 h))
  have HRL : Hid (s.size ≠ 0 → rl s = if showL (liveOf (uf s).1) = s then (liveOf (uf s).1, true) else (zeroL, false)) := hide (fun h => by unfold rl; by_cases q : showL (liveOf (uf s).1) = s <;> simp [h, q])
  obtain ⟨t, ht⟩ : ∃ t, (uf s).1 = t := ⟨_, rfl⟩
  obtain ⟨m, hm⟩ : ∃ m, (uf s).2 = m := ⟨_, rfl⟩
  rw [ht, hm] at HU hub HNO
  rw [ht] at HRL
  clear ht hm
  obtain ⟨W, hW⟩ : ∃ W, W = w.alloc (.cells #[.int .i64 0, .slice none 0 0] 27) := ⟨_, rfl⟩
  have hW0 : W.heap[w.heap.size]? = some (.cells #[.int .i64 0, .slice none 0 0] 27 (0, 0)) := by rw [hW]; exact heap_alloc_new w _
  have HB0 : Hid (Below w.heap.size w W) := hide (by rw [hW]; exact (Below.refl _ w).alloc (Nat.le_refl _) _)
  have HW0 := hide hW0
  have HE : Hid (∀ W' a' , Below w.heap.size w W' → rl s = (zeroL, false) → a' = W' → (∃ a n cap, Ending.returned (.tuple #[.agg #[.int .i64 0, .slice none 0 0], .bool false]) = .returned (.tuple #[.agg #[.int .i64 (rl s).1.next, .slice a n cap], .bool (rl s).2]) ∧ IOwn W' w.heap.size (.slice a n cap) (rl s).1.ids) ∧ Below w.heap.size w W') := hide (fun W' _ hb e _ => by
    rw [e]
    exact ⟨⟨none, 0, 0, rfl, (World.ownsRow_nil _ _ _ _ : IOwn W' w.heap.size (.slice none 0 0) [])⟩, hb⟩)
  clear hW0
  have HR1 := hide (specRV_any t (by omega))
  have hrb := rv_bd t
  by_cases h1 : m = s.size
  · have t1 : ((m : Int) != (s.size : Int)) = false := by simp [h1]
    by_cases h2 : m = 0
    · have t2 : ((m : Int) == 0) = true := by simpa using h2
      have HV := hide (HNO.out (Or.inl (by omega)))
      clear h1 h2 HNO HRL hrb hub
      go_enter Tryd.func12, Tryd.ntmps12
      go_wp2_with fail
      rw [← hW]
      clear hW
      refine (HU.out _).mono ?_
      rintro e w1 ⟨rfl, hb1⟩
      have HX1 := hide ((hb1.block _ (lt_of_block HW0.out)).trans HW0.out)
      have HB1 := hide (HB0.out.trans (hb1.mono HB0.out.size))
      clear hb1 HB0 HW0
      go_wp2_with fail
      refine (HR1.out _).mono ?_
      rintro e w2 ⟨rfl, hb2⟩
      obtain ⟨y0, y1, f0, f1⟩ := cells2 ((hb2.block _ (lt_of_block HX1.out)).trans HX1.out)
      have HB2 := hide (HB1.out.trans (hb2.mono HB1.out.size))
      clear hb2 HB1 HX1
      go_wp2
      refine bodyPost_ret (v := .tuple #[.agg #[.int .i64 0, .slice none 0 0], .bool false]) (by simp [results, Tryd.results12, go_sem, *]) rfl (HE.out _ _ ?_ HV.out rfl)
      iterate 2 (refine Below.setCell ?_ (by exact Nat.le_refl _) _)
      exact HB2.out
    · have t2 : ((m : Int) == 0) = false := by simpa using h2
      have hrl := HRL.out (by omega)
      by_cases h3 : (rv t).2 = 0
      · have t3 : (((rv t).2 : Int) == 0) = true := by simpa using h3
        have HV := hide (HNO.out (Or.inr (Or.inr h3)))
        clear hrl HRL HNO h1 h2 h3 hrb hub
        generalize (rv t).1 = nx at *
        generalize (rv t).2 = k1 at *
        go_enter Tryd.func12, Tryd.ntmps12
        go_wp2_with fail
        rw [← hW]
        clear hW
        refine (HU.out _).mono ?_
        rintro e w1 ⟨rfl, hb1⟩
        have HX1 := hide ((hb1.block _ (lt_of_block HW0.out)).trans HW0.out)
        have HB1 := hide (HB0.out.trans (hb1.mono HB0.out.size))
        clear hb1 HB0 HW0
        go_wp2_with fail
        refine (HR1.out _).mono ?_
        rintro e w2 ⟨rfl, hb2⟩
        obtain ⟨y0, y1, f0, f1⟩ := cells2 ((hb2.block _ (lt_of_block HX1.out)).trans HX1.out)
        have HB2 := hide (HB1.out.trans (hb2.mono HB1.out.size))
        clear hb2 HB1 HX1
        go_wp2
        refine bodyPost_ret (v := .tuple #[.agg #[.int .i64 0, .slice none 0 0], .bool false]) (by simp [results, Tryd.results12, go_sem, *]) rfl (HE.out _ _ ?_ HV.out rfl)
        iterate 2 (refine Below.setCell ?_ (by exact Nat.le_refl _) _)
        exact HB2.out
      · have t3 : (((rv t).2 : Int) == 0) = false := by simpa using h3
        have hsz : (t.extract (rv t).2 t.size).size = t.size - (rv t).2 := ba_len _ _ _ hrb.2.2 (Nat.le_refl _)
        have HR2 := hide (specRV_any (t.extract (rv t).2 t.size) (by omega))
        have hrb2 := rv_bd (t.extract (rv t).2 t.size)
        have HLO : Hid (liveOf t = ⟨((rv t).1 : Int), idsF (min (rv (t.extract (rv t).2 t.size)).1 60) (tailF t)⟩) := hide rfl
        have HT0 : Hid (restF 0 (tailF t) = t.extract ((rv t).2 + (rv (t.extract (rv t).2 t.size)).2) t.size) := hide (cut_cut t _ _ hrb.2.2)
        have HV := hide hrl
        have HBD : Hid (t.size ≤ 200 ∧ (rv t).2 ≤ 7 ∧ (rv (t.extract (rv t).2 t.size)).2 ≤ 7 ∧ (rv t).2 + (rv (t.extract (rv t).2 t.size)).2 ≤ t.size) := hide ⟨hub.1, hrb.2.1, hrb2.2.1, by omega⟩
        clear hrl HNO HRL h1 h2 h3 hsz hrb hrb2 hub
        generalize (rv (t.extract (rv t).2 t.size)).1 = k at *
        generalize (rv (t.extract (rv t).2 t.size)).2 = k2 at *
        generalize (rv t).1 = nx at *
        generalize (rv t).2 = k1 at *
        obtain ⟨bd0, bd1, bd2, bd3⟩ := HBD.out
        have bd4 : k1 ≤ t.size := by omega
        go_enter Tryd.func12, Tryd.ntmps12
        go_wp2_with fail
        rw [← hW]
        clear hW
        refine (HU.out _).mono ?_
        rintro e w1 ⟨rfl, hb1⟩
        have HX1 := hide ((hb1.block _ (lt_of_block HW0.out)).trans HW0.out)
        have HB1 := hide (HB0.out.trans (hb1.mono HB0.out.size))
        clear hb1 HB0 HW0
        go_wp2_with fail
        refine (HR1.out _).mono ?_
        rintro e w2 ⟨rfl, hb2⟩
        have HX2 := hide ((hb2.block _ (lt_of_block HX1.out)).trans HX1.out)
        have HB2 := hide (HB1.out.trans (hb2.mono HB1.out.size))
        clear hb2 HB1 HX1
        go_wp2_with fail
        refine (HR2.out _).mono ?_
        rintro e w3 ⟨rfl, hb3⟩
        have HX3 := hide ((hb3.block _ (lt_of_block HX2.out)).trans HX2.out)
        have HB3 := hide (HB2.out.trans (hb3.mono HB2.out.size))
        clear hb3 HB2 HX2 HR2 HR1 HU
        have HA : Hid (RLAt w w3.heap.size (nx : Int) none 0 0 [] (w3.alloc (.cells #[.int .i64 (nx : Int), .slice none 0 0] 27))) := hide
          ⟨by rw [Below.heap_alloc _ _ _ (lt_of_block HX3.out)]; exact HX3.out, heap_alloc_new w3 _, World.ownsRow_nil _ _ _ _, lt_of_block HX3.out, HB3.out.alloc HB3.out.size _⟩
        go_wp2
        obtain ⟨B, hB⟩ : ∃ B, w3.heap.size = B := ⟨_, rfl⟩
        rw [hB] at HA ⊢
        clear hB HX3
        generalize hT : tailF t = T at *
        clear hT
        go_loopw [11, 12] (fun p i wr => ∃ (j q : Nat) (a : Option Addr) (cap : Nat), p = .int .i64 q ∧ i = .int .i64 j ∧ j ≤ k ∧ j ≤ 60 ∧ q ≤ t.size ∧ Hid (restF j T = t.extract q t.size) ∧ Hid (RLAt w B (nx : Int) a j cap (idsF j T) wr)) (fun _ i _ => 60 - (intOf i).toNat)
        case atStart => exact ⟨0, k1 + k2, none, 0, by go_num, rfl, by omega, by omega, by omega, HT0, HA⟩
        case round =>
          clear HA HT0
          obtain ⟨j, q, a, cap, rfl, rfl, hj, hj6, hq, HT, HA⟩ := hrel
          by_cases hlt : j < k ∧ j < 60
          · obtain ⟨lt1, lt2⟩ := hlt
            have hRz : (t.extract q t.size).size = t.size - q := ba_len _ _ _ hq (Nat.le_refl _)
            have HRV := hide (specRV_any (t.extract q t.size) (by omega))
            have hrb3 := rv_bd (t.extract q t.size)
            have HI2 : Hid (idsF (j + 1) T = idsF j T ++ [((rv (t.extract q t.size)).1 : Int)]) := hide (by rw [idsF_snoc, HT.out])
            have HT2 : Hid (restF (j + 1) T = t.extract (q + (rv (t.extract q t.size)).2) t.size) := hide (by rw [restF_snoc, HT.out]; exact cut_cut t _ _ hq)
            have hq2 : q + (rv (t.extract q t.size)).2 ≤ t.size := by omega
            have he7 := hrb3.2.1
            clear hrb3 hRz HT
            generalize (rv (t.extract q t.size)).1 = z at *
            generalize (rv (t.extract q t.size)).2 = e at *
            go_wp2_with fail
            refine (HRV.out _).mono ?_
            rintro e w5 ⟨rfl, hb5⟩
            have HA5 := hide (HA.out.later hb5)
            have hA5 := HA5.out
            have HLN := hide hA5.own.len
            have HS5 : Hid (B + 1 ≤ w5.heap.size) := hide (lt_of_block hA5.row)
            have HO5 : Hid ((w5.alloc (.cells #[.int .i64 (z : Int)] 3)).ownsRow (B + 1) 3 1 (.slice a j cap) j ((idsF j T).map (Value.int .i64))) := hide (by
              have h := hA5.own.later ((Below.refl w5.heap.size w5).alloc (Nat.le_refl _) (.cells #[.int .i64 (z : Int)] 3)) (Nat.le_refl _)
              unfold IOwn at h
              rw [HLN.out] at h
              exact h)
            obtain ⟨y0, y1, -, -⟩ := cells2 hA5.row
            clear hb5 HA HRV hA5
            go_wp2_with (at_builtin; refine wpList_app_i64 rfl _ _ rfl (z : Int) HO5.out HS5.out (by omega) rfl rfl ?_; intro v' w6 ho6 hg6; have HP := hide (HA5.out.app ((Below.refl w5.heap.size w5).alloc (Nat.le_refl _) _) ho6 hg6); clear ho6 hg6; obtain ⟨a', cap', rfl⟩ := HP.out.1; have HA6 := hide (HP.out.2.2 a' cap' rfl); obtain ⟨x0, x1, f0, f1⟩ := cells2 HP.out.2.1; clear HP)
            clear HA5 y0 y1 x0 x1 f0 f1 HO5 HS5 HLN
            go_roundw
            case rel => exact ⟨j + 1, q + e, a', cap', by go_num, by go_num, by omega, by omega, hq2, HT2, by rw [HI2.out]; exact HA6⟩
            case measure => first | (simp [intOf]; done) | (simp [intOf]; omega)
          · have HMN : Hid (liveOf t = ⟨(nx : Int), idsF j T⟩) := hide (by rw [HLO.out, show min k 60 = j by omega])
            have HIR := hide HA.out.own.row
            have hln := HA.out.own.len
            obtain ⟨y0, y1, -, -⟩ := cells2 HA.out.row
            have HSH := hide (specShowL_any wr (nx : Int) a j cap (idsF j T) HIR.out (by omega))
            have hsz2 := showL_size ⟨(nx : Int), idsF j T⟩
            clear HT HIR
            by_cases hjk : j < k
            · have hj60 : ¬ j < 60 := fun h => hlt ⟨hjk, h⟩
              clear hlt
              go_wp2_with fail
              refine HSH.out.mono ?_
              rintro e w5 ⟨rfl, hb5⟩
              have HA5 := hide (HA.out.later hb5)
              obtain ⟨y0, y1, -, -⟩ := cells2 HA5.out.row
              obtain ⟨x0, x1, f0, f1⟩ := cells2 HA5.out.res
              by_cases he : showL ⟨(nx : Int), idsF j T⟩ = s
              · have HF : Hid (rl s = (⟨(nx : Int), idsF j T⟩, true)) := hide (by rw [HV.out, HMN.out, if_pos he])
                have q1 := str_eq _ _ he
                have HOW := hide HA5.out.own
                have HLT := hide HA5.out.lt
                have HBB := hide HA5.out.bel
                clear he HSH hb5 HA HA5 HV HMN hsz2 hln
                generalize showL ⟨(nx : Int), idsF j T⟩ = S at *
                go_wp2
                refine bodyPost_ret (v := .tuple #[.agg #[.int .i64 (nx : Int), .slice a j cap], .bool true]) (by simp [results, Tryd.results12, go_sem, *]) rfl ?_
                rw [HF.out]
                refine ⟨⟨a, j, cap, rfl, ?_⟩, ?_⟩
                · refine IOwn.mono ?_ (Nat.le_of_lt (Nat.lt_succ_of_lt HLT.out))
                  iterate 2 (refine IOwn.setCell ?_ _ _ (by have := HLT.out; dsimp only; omega))
                  exact HOW.out
                · iterate 2 (refine Below.setCell ?_ (by exact Nat.le_refl _) _)
                  exact HBB.out
              · have HF : Hid (rl s = (zeroL, false)) := hide (by rw [HV.out, HMN.out, if_neg he])
                have q1 := str_ne _ _ he
                have HBB := hide HA5.out.bel
                clear he HSH hb5 HA HA5 HV HMN hsz2 hln
                generalize showL ⟨(nx : Int), idsF j T⟩ = S at *
                go_wp2
                refine bodyPost_ret (v := .tuple #[.agg #[.int .i64 0, .slice none 0 0], .bool false]) (by simp [results, Tryd.results12, go_sem, *]) rfl (HE.out _ _ ?_ HF.out rfl)
                iterate 2 (refine Below.setCell ?_ (by exact Nat.le_refl _) _)
                exact HBB.out
            · clear hlt
              go_wp2_with fail
              refine HSH.out.mono ?_
              rintro e w5 ⟨rfl, hb5⟩
              have HA5 := hide (HA.out.later hb5)
              obtain ⟨y0, y1, -, -⟩ := cells2 HA5.out.row
              obtain ⟨x0, x1, f0, f1⟩ := cells2 HA5.out.res
              by_cases he : showL ⟨(nx : Int), idsF j T⟩ = s
              · have HF : Hid (rl s = (⟨(nx : Int), idsF j T⟩, true)) := hide (by rw [HV.out, HMN.out, if_pos he])
                have q1 := str_eq _ _ he
                have HOW := hide HA5.out.own
                have HLT := hide HA5.out.lt
                have HBB := hide HA5.out.bel
                clear he HSH hb5 HA HA5 HV HMN hsz2 hln
                generalize showL ⟨(nx : Int), idsF j T⟩ = S at *
                go_wp2
                refine bodyPost_ret (v := .tuple #[.agg #[.int .i64 (nx : Int), .slice a j cap], .bool true]) (by simp [results, Tryd.results12, go_sem, *]) rfl ?_
                rw [HF.out]
                refine ⟨⟨a, j, cap, rfl, ?_⟩, ?_⟩
                · refine IOwn.mono ?_ (Nat.le_of_lt (Nat.lt_succ_of_lt HLT.out))
                  iterate 2 (refine IOwn.setCell ?_ _ _ (by have := HLT.out; dsimp only; omega))
                  exact HOW.out
                · iterate 2 (refine Below.setCell ?_ (by exact Nat.le_refl _) _)
                  exact HBB.out
              · have HF : Hid (rl s = (zeroL, false)) := hide (by rw [HV.out, HMN.out, if_neg he])
                have q1 := str_ne _ _ he
                have HBB := hide HA5.out.bel
                clear he HSH hb5 HA HA5 HV HMN hsz2 hln
                generalize showL ⟨(nx : Int), idsF j T⟩ = S at *
                go_wp2
                refine bodyPost_ret (v := .tuple #[.agg #[.int .i64 0, .slice none 0 0], .bool false]) (by simp [results, Tryd.results12, go_sem, *]) rfl (HE.out _ _ ?_ HF.out rfl)
                iterate 2 (refine Below.setCell ?_ (by exact Nat.le_refl _) _)
                exact HBB.out
  · have t1 : ((m : Int) != (s.size : Int)) = true := by simp; omega
    have HV := hide (HNO.out (Or.inr (Or.inl h1)))
    clear h1 HNO HRL hrb hub
    go_enter Tryd.func12, Tryd.ntmps12
    go_wp2_with fail
    rw [← hW]
    clear hW
    refine (HU.out _).mono ?_
    rintro e w1 ⟨rfl, hb1⟩
    have HX1 := hide ((hb1.block _ (lt_of_block HW0.out)).trans HW0.out)
    have HB1 := hide (HB0.out.trans (hb1.mono HB0.out.size))
    clear hb1 HB0 HW0
    go_wp2_with fail
    refine (HR1.out _).mono ?_
    rintro e w2 ⟨rfl, hb2⟩
    obtain ⟨y0, y1, f0, f1⟩ := cells2 ((hb2.block _ (lt_of_block HX1.out)).trans HX1.out)
    have HB2 := hide (HB1.out.trans (hb2.mono HB1.out.size))
    clear hb2 HB1 HX1
    go_wp2
    refine bodyPost_ret (v := .tuple #[.agg #[.int .i64 0, .slice none 0 0], .bool false]) (by simp [results, Tryd.results12, go_sem, *]) rfl (HE.out _ _ ?_ HV.out rfl)
    iterate 2 (refine Below.setCell ?_ (by exact Nat.le_refl _) _)
    exact HB2.out

end Go.Proofs.YthnealhaleccpaaDoor
