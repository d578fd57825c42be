/-
  impl.takeHint: a hint off a taker.
-/
import Derived.Test.YtimpokbcfjgdaaaDoorG08
import Derived.Test.YtimpokbcfjgdaaaDoorG06
import Derived.Deep.DeepCutAuto
namespace Go.Proofs.YtimpokbcfjgdaaaDoor
open Go.RowKit
open Plain

/-- The taker's block, the answer's block behind it, a hint under way in block V, its entries in a row behind that. -/
structure THAt (w W0 : World) (B R V : Nat) (s : ByteArray) (f : Bool) (x m : Int) (a : Option Addr) (n cap : Nat) (l : List EntV) (W : World) : Prop where
  tk : TkAt w B s f W
  res : W.heap[R]? = some (.cells #[.int .i64 0, .int .i64 0, .slice none 0 0] 29 (0, 0))
  row : W.heap[V]? = some (.cells #[.int .i64 x, .int .i64 m, .slice a n cap] 29 (0, 0))
  own : entSh.Own 41 W (V + 1) (.slice a n cap) l
  lt : B < R ∧ R < V
  old : ∀ k, k < R → k ≠ B → W.heap[k]? = W0.heap[k]?
theorem THAt.num {w W0 : World} {B R V : Nat} {s s' : ByteArray} {f f' : Bool} {x m : Int} {a : Option Addr} {n cap : Nat} {l : List EntV} {W W' : World} (h : THAt w W0 B R V s f x m a n cap l W) (ht : TkAt w B s' f' W') (hg : W.grownBy W' (some B)) : THAt w W0 B R V s' f' x m a n cap l W' := by
  have hl := h.lt
  refine ⟨ht, (hg.block R (lt_of_block h.res) (fun e => by injection e with e; omega)).trans h.res, (hg.block V (lt_of_block h.row) (fun e => by injection e with e; omega)).trans h.row, h.own.grownB hg (by omega), h.lt, fun k hk hB => (hg.block k (Nat.lt_trans hk (lt_of_block h.res)) (fun e => hB (Option.some.inj e))).trans (h.old k hk hB)⟩
theorem THAt.app {w W0 : World} {B R V : Nat} {s : ByteArray} {f : Bool} {x m : Int} {a : Option Addr} {n cap : Nat} {l : List EntV} {W W2 : World} {z : EntV} {a' : Option Addr} {cap' : Nat} (h : THAt w W0 B R V s f x m a n cap l W) (ho : entSh.Own 41 W2 (V + 1) (.slice a' (n + 1) cap') (l ++ [z])) (hg : W.grownBy W2 (Value.slice a n cap).ownBlock) :
    W2.heap[V]? = some (.cells #[.int .i64 x, .int .i64 m, .slice a n cap] 29 (0, 0)) ∧ THAt w W0 B R V s f x m a' (n + 1) cap' (l ++ [z]) (W2.setCell ⟨V, 2, none⟩ (.slice a' (n + 1) cap')) := by
  have hl := h.lt
  have hne : ∀ k, k ≤ V → (Value.slice a n cap).ownBlock ≠ some k := fun k hk e => by
    have := (h.own.blk k e).1
    omega
  have hVl := lt_of_block h.row
  have hbe : ∀ k, k ≤ V → W2.heap[k]? = W.heap[k]? := fun k hk => hg.block k (by omega) (hne k hk).symm
  have hbl : ∀ k o, k ≤ V → W.heap[k]? = some o → W2.heap[k]? = some o := fun k o hk hw => (hbe k hk).trans hw
  have r2 := hbl V _ (Nat.le_refl _) h.row
  refine ⟨r2, ⟨⟨?_, h.tk.new, ?_⟩, ?_, ?_, ?_, h.lt, fun k hk hB => ?_⟩⟩
  · rw [Below.heap_setCell W2 _ _ _ (by dsimp only; omega)]
    exact hbl B _ (by omega) h.tk.row
  · have hnew := h.tk.new
    refine Below.setCell ?_ (by dsimp only; omega) _
    exact h.tk.bel.grown hg h.tk.bel.size (fun k hk => by have := (h.own.blk k hk).1; omega)
  · rw [Below.heap_setCell W2 _ _ _ (by dsimp only; omega)]
    exact hbl R _ (by omega) h.res
  · rw [setCell_eq_setRow W2 V 2 _ _ _ _ r2]
    exact setRow_heap W2 V _ _ _ _ r2
  · exact ho.setCell _ _ (by dsimp only; omega)
  · rw [Below.heap_setCell W2 _ _ _ (by dsimp only; omega)]
    exact (hbe k (by omega)).trans (h.old k hk hB)

set_option maxRecDepth 100000 in
set_option maxHeartbeats 4000000 in
theorem takeHint_few (w W : World) (B : Nat) (t : ByteArray) (f : Bool) (h : TkAt w B t f W) (hs : t.size ≤ 1048576) (hc : cntH t ≤ 20) :
    Calls Tryd.prog 31 #[.pointer (some ⟨B, 0, none⟩)] W fun e w' => (∃ a n cap, e = .returned (.agg #[.int .i64 ((rv t).1 : Nat), .int .i64 ((rv (numT t)).1 : Nat), .slice a n cap]) ∧ entSh.Own 41 w' W.heap.size (.slice a n cap) (entsF (cntH t) (tailH t))) ∧ TkAt w B (restE (cntH t) (tailH t)) (failE (cntH t) (failH f t) (tailH t)) w' ∧ ∀ k, k < W.heap.size → k ≠ B → w'.heap[k]? = W.heap[k]? := by
  have hBl := lt_of_block h.row
  obtain ⟨W0, hW⟩ : ∃ W0, W0 = W.alloc (.cells #[.int .i64 0, .int .i64 0, .slice none 0 0] 29) := ⟨_, rfl⟩
  have HA0 : Hid (TkAt w B t f W0) := hide (by rw [hW]; exact h.later (al1 W _))
  have HR0 : Hid (W0.heap[W.heap.size]? = some (.cells #[.int .i64 0, .int .i64 0, .slice none 0 0] 29 (0, 0))) := hide (by rw [hW]; exact heap_alloc_new W _)
  have HOL : Hid (∀ k, k < W.heap.size → k ≠ B → W0.heap[k]? = W.heap[k]?) := hide (fun k hk _ => by rw [hW]; exact Below.heap_alloc W _ k hk)
  have hz : (numT t).size ≤ t.size := by have := numT_size t; omega
  have hz2 : (numT (numT t)).size ≤ (numT t).size := by have := numT_size (numT t); omega
  have hz3 : (tailH t).size ≤ t.size := tailH_size t
  have HC0 : Hid ((rv (numT (numT t))).1 = cntH t) := hide rfl
  have HT0 : Hid (numT (numT (numT t)) = tailH t) := hide rfl
  have HF0 : Hid ((((f || decide ((rv t).2 = 0)) || decide ((rv (numT t)).2 = 0)) || decide ((rv (numT (numT t))).2 = 0)) = failH f t) := hide rfl
  generalize cntH t = c at *
  generalize tailH t = T at *
  generalize failH f t = F at *
  clear h
  go_enter Tryd.func31, Tryd.ntmps31
  go_wp2_with fail
  rw [← hW]
  clear hW
  refine (tkNum_g w W0 B t f HA0.out hs).mono ?_
  rintro e w1 ⟨rfl, h1, g1⟩
  have HA1 := hide h1
  have HR1 := hide ((g1.block _ (lt_of_block HR0.out) (fun e => by injection e with e; omega)).trans HR0.out)
  have HOL1 : Hid (∀ k, k < W.heap.size → k ≠ B → w1.heap[k]? = W.heap[k]?) := hide (fun k hk hB => (g1.block k (Nat.lt_trans hk (lt_of_block HR0.out)) (fun e => hB (Option.some.inj e))).trans (HOL.out k hk hB))
  clear h1 g1 HA0 HR0 HOL
  go_wp2_with fail
  refine (tkNum_g w w1 B (numT t) _ HA1.out (by omega)).mono ?_
  rintro e w2 ⟨rfl, h2, g2⟩
  have HA2 := hide h2
  have HR2 := hide ((g2.block _ (lt_of_block HR1.out) (fun e => by injection e with e; omega)).trans HR1.out)
  have HOL2 : Hid (∀ k, k < W.heap.size → k ≠ B → w2.heap[k]? = W.heap[k]?) := hide (fun k hk hB => (g2.block k (Nat.lt_trans hk (lt_of_block HR1.out)) (fun e => hB (Option.some.inj e))).trans (HOL1.out k hk hB))
  clear h2 g2 HA1 HR1 HOL1
  go_wp2_with fail
  refine (tkNum_g w w2 B (numT (numT t)) _ HA2.out (by omega)).mono ?_
  rintro e w3 ⟨rfl, h3, g3⟩
  rw [HT0.out, HF0.out] at h3
  have HA3 := hide h3
  have HR3 := hide ((g3.block _ (lt_of_block HR2.out) (fun e => by injection e with e; omega)).trans HR2.out)
  have HOL3 : Hid (∀ k, k < W.heap.size → k ≠ B → w3.heap[k]? = W.heap[k]?) := hide (fun k hk hB => (g3.block k (Nat.lt_trans hk (lt_of_block HR2.out)) (fun e => hB (Option.some.inj e))).trans (HOL2.out k hk hB))
  clear h3 g3 HA2 HR2 HOL2 HT0 HF0
  rw [HC0.out]
  clear HC0
  obtain ⟨x, hx⟩ : ∃ x : Int, (((rv t).1 : Nat) : Int) = x := ⟨_, rfl⟩
  obtain ⟨m, hm⟩ : ∃ m : Int, (((rv (numT t)).1 : Nat) : Int) = m := ⟨_, rfl⟩
  rw [hx, hm]
  have HX := hide hx
  have HM := hide hm
  clear hx hm
  obtain ⟨W4, hW4⟩ : ∃ W4, W4 = w3.alloc (.cells #[.int .i64 x, .int .i64 m, .slice none 0 0] 29) := ⟨_, rfl⟩
  have HA : Hid (THAt w W B W.heap.size w3.heap.size T F x m none 0 0 [] W4) := hide (by
    have hb := al1 w3 (.cells #[.int .i64 x, .int .i64 m, .slice none 0 0] 29)
    rw [hW4]
    exact ⟨HA3.out.later hb, (hb.block _ (lt_of_block HR3.out)).trans HR3.out, heap_alloc_new w3 _, Shape.Own.nil entSh 41 _ _, ⟨hBl, lt_of_block HR3.out⟩, fun k hk hB => (hb.block k (Nat.lt_trans hk (lt_of_block HR3.out))).trans (HOL3.out k hk hB)⟩)
  have t20 : decide ((20 : Int) < (c : Int)) = false := by simp; omega
  have HC20 := hide hc
  clear hc
  go_upto_if 17 with fail
  rw [← hW4]
  clear hW4 HA3 HR3 HOL3 t20
  have hRW : Hid (W.heap.size ≤ W.heap.size) := hide (Nat.le_refl _)
  obtain ⟨V, hV⟩ : ∃ V, w3.heap.size = V := ⟨_, rfl⟩
  rw [hV] at HA ⊢
  clear hV
  obtain ⟨R, hR⟩ : ∃ R, W.heap.size = R := ⟨_, rfl⟩
  rw [hR] at HA hBl ⊢
  clear hRW
  have HRW := hide hR
  clear hR
  go_loopw [23] (fun i wr => ∃ (j : Nat) (a : Option Addr) (cap : Nat), i = .int .i64 j ∧ j ≤ c ∧ Hid (THAt w W B R V (restE j T) (failE j F T) x m a j cap (entsF j T) wr)) (fun i _ => c - (intOf i).toNat)
  case atStart => exact ⟨0, none, 0, rfl, by omega, HA⟩
  case round =>
    clear HA
    obtain ⟨j, a, cap, rfl, hj, HA⟩ := hrel
    by_cases hlt : j < c
    · have hlt2 : (j : Int) < (c : Int) := by omega
      have hj6 : j ≤ 20 := by have := HC20.out; omega
      have hsz := restE_size j T
      have HI2 : Hid (entsF (j + 1) T = entsF j T ++ [entV (restE j T)] ∧ restE (j + 1) T = entR (restE j T) ∧ failE (j + 1) F T = entF (failE j F T) (restE j T)) := hide ⟨entsF_snoc j T, restE_snoc j T, failE_snoc j F T⟩
      have HK := hide (HA.out.num (HA.out.tk.later (Below.refl wr.heap.size wr).drew) ⟨rfl, rfl, rfl, Nat.le_refl _, fun _ _ _ => rfl⟩)
      obtain ⟨y0, y1, y2, -⟩ := cells3h HK.out.row
      have HC := hide (takeEnt_g w wr.drew B (restE j T) (failE j F T) HK.out.tk (by omega))
      have hel := HK.out.own.len
      have HEL : Hid ((entsF j T).length ≤ 1099511627775) := hide (by have := HC20.out; omega)
      have HEN : Hid ((entsF j T).length = j) := hide hel
      clear HA hsz hel
      obtain ⟨rest, hrest⟩ : ∃ r, restE j T = r := ⟨_, rfl⟩
      rw [hrest] at HI2 HC HK
      obtain ⟨z, hz0⟩ : ∃ z, entV rest = z := ⟨_, rfl⟩
      rw [hz0] at HI2 HC
      generalize (failE j F T) = G at *
      clear hz0 hrest
      go_wp2
      go_region_law (first
        | (refine step_call1 rfl 46 (.tmp 27) 61 rfl Tryd.func46 (by kernel_rfl) rfl _ rfl ?_; refine HC.out.mono ?_; rintro e w4 ⟨rfl, ht4, hg4⟩; refine ⟨_, rfl, ?_⟩; have HK4 := hide (HK.out.num ht4 hg4); obtain ⟨p0, p1, p2, -⟩ := cells3h HK4.out.row; have pa := (cells3h (((al1 w4 (.cells #[.string z.key, .int .i64 z.seg, .int .i64 z.pos, .int .i64 z.len, .int .i64 z.bat] 41)).block _ (lt_of_block HK4.out.row)).trans HK4.out.row)).2.2.1; have HS4 : Hid (V + 1 ≤ w4.heap.size) := hide (lt_of_block HK4.out.row); clear ht4 hg4)
        | (refine step_app_ent (w := w4) rfl (.tmp 26) (.tmp 29) rfl z HK4.out.own HS4.out HEL.out rfl rfl rfl ?_; intro a' n' cap' w5 hn' ho5 hg5 _; obtain rfl : n' = j + 1 := (by rw [hn', HEN.out]); have HP := hide (HK4.out.app ho5 hg5); clear ho5 hg5 hn'; obtain ⟨x0, x1, x2, f0, f1, f2⟩ := cells3h HP.out.1; have HA6 := hide HP.out.2; clear HP))
      all_goals
        have HA7 : Hid (THAt w W B R V (restE (j + 1) T) (failE (j + 1) F T) x m a' (j + 1) cap' (entsF (j + 1) T) (w5.setCell ⟨V, 2, none⟩ (.slice a' (j + 1) cap'))) := hide (by rw [HI2.out.1, HI2.out.2.1, HI2.out.2.2]; exact HA6.out)
        clear HA6 HK4 HS4 HK HC HI2 x0 x1 x2 f0 f1 f2 p0 p1 p2 pa y0 y1 y2
        go_wp2
        go_roundw
        case rel => exact ⟨j + 1, a', cap', by go_num, by omega, HA7⟩
        case measure => first | (simp [intOf]; done) | (simp [intOf]; omega)
    · obtain rfl : j = c := by omega
      obtain ⟨y0, y1, y2, -⟩ := cells3h HA.out.row
      obtain ⟨x0, x1, x2, f0, f1, f2⟩ := cells3h HA.out.res
      go_wp2
      refine bodyPost_ret (v := .agg #[.int .i64 x, .int .i64 m, .slice a j cap]) (by simp [results, Tryd.results31, go_sem, *]) rfl ?_
      have hl := HA.out.lt
      have hn := HA.out.tk.new
      rw [HRW.out, HX.out, HM.out]
      refine ⟨⟨a, j, cap, rfl, ?_⟩, ?_, ?_⟩
      · refine Shape.Own.mono ?_ (show R ≤ V + 1 by omega)
        iterate 3 (refine Shape.Own.setCell ?_ _ _ (by dsimp only; omega))
        exact HA.out.own
      · refine ⟨?_, hn, ?_⟩
        · rw [Below.heap_setCell _ _ _ _ (by dsimp only; omega), Below.heap_setCell _ _ _ _ (by dsimp only; omega), Below.heap_setCell _ _ _ _ (by dsimp only; omega)]
          exact HA.out.tk.row
        · iterate 3 (refine Below.setCell ?_ (by dsimp only; omega) _)
          exact HA.out.tk.bel
      · intro k hk hB
        rw [Below.heap_setCell _ _ _ _ (by dsimp only; omega), Below.heap_setCell _ _ _ _ (by dsimp only; omega), Below.heap_setCell _ _ _ _ (by dsimp only; omega)]
        exact HA.out.old k (by omega) hB

set_option maxRecDepth 100000 in
set_option maxHeartbeats 4000000 in
theorem takeHint_many (w W : World) (B : Nat) (t : ByteArray) (f : Bool) (h : TkAt w B t f W) (hs : t.size ≤ 1048576) (hc : 20 < cntH t) :
    Calls Tryd.prog 31 #[.pointer (some ⟨B, 0, none⟩)] W fun e w' => e = .returned (.agg #[.int .i64 0, .int .i64 0, .slice none 0 0]) ∧ TkAt w B (tailH t) true w' ∧ ∀ k, k < W.heap.size → k ≠ B → w'.heap[k]? = W.heap[k]? := by
  have hBl := lt_of_block h.row
  obtain ⟨W0, hW⟩ : ∃ W0, W0 = W.alloc (.cells #[.int .i64 0, .int .i64 0, .slice none 0 0] 29) := ⟨_, rfl⟩
  have HA0 : Hid (TkAt w B t f W0) := hide (by rw [hW]; exact h.later (al1 W _))
  have HR0 : Hid (W0.heap[W.heap.size]? = some (.cells #[.int .i64 0, .int .i64 0, .slice none 0 0] 29 (0, 0))) := hide (by rw [hW]; exact heap_alloc_new W _)
  have HOL : Hid (∀ k, k < W.heap.size → k ≠ B → W0.heap[k]? = W.heap[k]?) := hide (fun k hk _ => by rw [hW]; exact Below.heap_alloc W _ k hk)
  have hz : (numT t).size ≤ t.size := by have := numT_size t; omega
  have hz2 : (numT (numT t)).size ≤ (numT t).size := by have := numT_size (numT t); omega
  have hz3 : (tailH t).size ≤ t.size := tailH_size t
  have HC0 : Hid ((rv (numT (numT t))).1 = cntH t) := hide rfl
  have HT0 : Hid (numT (numT (numT t)) = tailH t) := hide rfl
  have HF0 : Hid ((((f || decide ((rv t).2 = 0)) || decide ((rv (numT t)).2 = 0)) || decide ((rv (numT (numT t))).2 = 0)) = failH f t) := hide rfl
  generalize cntH t = c at *
  generalize tailH t = T at *
  generalize failH f t = F at *
  clear h
  go_enter Tryd.func31, Tryd.ntmps31
  go_wp2_with fail
  rw [← hW]
  clear hW
  refine (tkNum_g w W0 B t f HA0.out hs).mono ?_
  rintro e w1 ⟨rfl, h1, g1⟩
  have HA1 := hide h1
  have HR1 := hide ((g1.block _ (lt_of_block HR0.out) (fun e => by injection e with e; omega)).trans HR0.out)
  have HOL1 : Hid (∀ k, k < W.heap.size → k ≠ B → w1.heap[k]? = W.heap[k]?) := hide (fun k hk hB => (g1.block k (Nat.lt_trans hk (lt_of_block HR0.out)) (fun e => hB (Option.some.inj e))).trans (HOL.out k hk hB))
  clear h1 g1 HA0 HR0 HOL
  go_wp2_with fail
  refine (tkNum_g w w1 B (numT t) _ HA1.out (by omega)).mono ?_
  rintro e w2 ⟨rfl, h2, g2⟩
  have HA2 := hide h2
  have HR2 := hide ((g2.block _ (lt_of_block HR1.out) (fun e => by injection e with e; omega)).trans HR1.out)
  have HOL2 : Hid (∀ k, k < W.heap.size → k ≠ B → w2.heap[k]? = W.heap[k]?) := hide (fun k hk hB => (g2.block k (Nat.lt_trans hk (lt_of_block HR1.out)) (fun e => hB (Option.some.inj e))).trans (HOL1.out k hk hB))
  clear h2 g2 HA1 HR1 HOL1
  go_wp2_with fail
  refine (tkNum_g w w2 B (numT (numT t)) _ HA2.out (by omega)).mono ?_
  rintro e w3 ⟨rfl, h3, g3⟩
  rw [HT0.out, HF0.out] at h3
  have HA3 := hide h3
  have HR3 := hide ((g3.block _ (lt_of_block HR2.out) (fun e => by injection e with e; omega)).trans HR2.out)
  have HOL3 : Hid (∀ k, k < W.heap.size → k ≠ B → w3.heap[k]? = W.heap[k]?) := hide (fun k hk hB => (g3.block k (Nat.lt_trans hk (lt_of_block HR2.out)) (fun e => hB (Option.some.inj e))).trans (HOL2.out k hk hB))
  clear h3 g3 HA2 HR2 HOL2 HT0 HF0
  rw [HC0.out]
  clear HC0
  have t20 : decide ((20 : Int) < (c : Int)) = true := by simp; omega
  obtain ⟨z0, z1⟩ := HA3.out.cells
  have g0 := HA3.out.free 0
  have g1 := HA3.out.free 1
  obtain ⟨x0, x1, x2, f0, f1, f2⟩ := cells3h HR3.out
  have HLT := hide hBl
  have hne : B ≠ W.heap.size := by omega
  have hne2 : W.heap.size ≠ B := by omega
  clear hc hBl hz hz2 hz3
  go_wp2
  refine bodyPost_ret (v := .agg #[.int .i64 0, .int .i64 0, .slice none 0 0]) (by simp [results, Tryd.results31, go_sem, *]) rfl ?_
  have hl := HLT.out
  have hn := HA3.out.new
  have hF := HA3.out.fail true
  refine ⟨rfl, ⟨?_, hn, ?_⟩, ?_⟩
  · iterate 3 rw [Below.heap_setCell _ _ _ _ (by dsimp only; omega)]
    exact hF.row
  · iterate 3 (refine Below.setCell ?_ (by dsimp only; omega) _)
    exact hF.bel
  · intro k hk hB
    iterate 4 rw [Below.heap_setCell _ _ _ _ (by dsimp only; omega)]
    exact HOL3.out k (by omega) hB

end Go.Proofs.YtimpokbcfjgdaaaDoor
