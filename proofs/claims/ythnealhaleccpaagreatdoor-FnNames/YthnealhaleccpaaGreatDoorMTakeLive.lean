/-
  impl.takeLive: a list of segments off a taker.
-/
import Derived.Test.YthnealhaleccpaaGreatDoorG08
namespace Go.Proofs.YthnealhaleccpaaGreatDoor
open Go.RowKit
open Plain

/-- 'out = append(out, z)', out a row of ints of the call's own, as one step of a statement whose order is open. -/
theorem step_app_i64 {ops : Array Oper} {o : Oper} {act : Act} {K : Act → World → Prop} {Q : Exit → Act → World → Prop} {E : Prop} (hgd : o.guard = none) (s x : Operand)
    (ho : o.op = .call { callee := .builtin .append, args := #[s, x], argTypes := #[24, 24] }) {w : World} {base n : Nat} {v : Value} {xs : List Value} (z : Int) (hown : (w.alloc (.cells #[.int .i64 z] 3)).ownsRow base 3 1 v n xs) (hb : base ≤ w.heap.size)
    (hn : n ≤ 1000) (hs : act.eval s = v) (hx : act.eval x = .slice (some ⟨w.heap.size, 0, none⟩) 1 1)
    (h : ∀ v' w', w'.ownsRow base 3 1 v' (n + 1) (xs ++ [.int .i64 z]) → (w.alloc (.cells #[.int .i64 z] 3)).grownBy w' v.ownBlock → K (act.put o.dst v') w') :
    if Region.wanted o (yielded ops act.tmps) = true then Oper.wp Tryz.prog o act (w.alloc (.cells #[.int .i64 z] 3)) K Q else E := by
  rw [if_pos (by simp [Region.wanted, hgd])]
  obtain ⟨i0, hi, hz0, hz1, hz2⟩ := info_parts Tryz.info3
  refine wp_append_own (P := Tryz.prog) (w.alloc (.cells #[.int .i64 z] 3)) s x 24 ho base 3 i0 _ 1 8 Tryz.underlying24 hi hz0 hz1 hz2 rfl (by decide) v n xs hs hown ⟨w.heap.size, 0, none⟩ 1 1 [.int .i64 z] hx rfl (fun j u h => ?_) (fun u hu => by simp at hu; subst hu; rfl) (by unfold maxLen; omega) (by omega) (by simp; omega) ?_
  · rw [addr_add, Nat.zero_add, cell_of_row _ _ _ _ _ _ (heap_alloc_new w _)]
    simpa using h
  · intro v' w' ho' hg _
    exact h v' w' ho' hg

/-- The taker's block, the answer's block behind it, a list under way in block V, its numbers in a row behind that. -/
structure TLAt (w W0 : World) (B R V : Nat) (s : ByteArray) (f : Bool) (x : Int) (a : Option Addr) (n cap : Nat) (l : List Int) (W : World) : Prop where
  tk : TkAt w B s f W
  res : W.heap[R]? = some (.cells #[.int .i64 0, .slice none 0 0] 26 (0, 0))
  row : W.heap[V]? = some (.cells #[.int .i64 x, .slice a n cap] 26 (0, 0))
  own : IOwn W (V + 1) (.slice a n cap) l
  lt : B < R ∧ R < V
  old : ∀ k, k < R → k ≠ B → W.heap[k]? = W0.heap[k]?
theorem TLAt.num {w W0 : World} {B R V : Nat} {s s' : ByteArray} {f f' : Bool} {x : Int} {a : Option Addr} {n cap : Nat} {l : List Int} {W W' : World} (h : TLAt w W0 B R V s f x a n cap l W) (ht : TkAt w B s' f' W') (hg : W.grownBy W' (some B)) : TLAt w W0 B R V s' f' x a n cap l W' := by
  have hl := h.lt
  refine ⟨ht, (hg.block R (lt_of_block h.res) (fun e => by injection e with e; omega)).trans h.res, (hg.block V (lt_of_block h.row) (fun e => by injection e with e; omega)).trans h.row, ⟨h.own.1, ?_⟩, h.lt, fun k hk hB => (hg.block k (Nat.lt_trans hk (lt_of_block h.res)) (fun e => hB (Option.some.inj e))).trans (h.old k hk hB)⟩
  rcases h.own.2 with h1 | ⟨g, c, cur, e, hbg, hg1, h2⟩
  · exact .inl h1
  · exact .inr ⟨g, c, cur, e, hbg, (hg.block g (lt_of_block hg1) (fun e => by injection e with e; omega)).trans hg1, h2⟩
theorem TLAt.app {w W0 : World} {B R V : Nat} {s : ByteArray} {f : Bool} {x : Int} {a : Option Addr} {n cap : Nat} {l : List Int} {W W2 : World} {z : Int} {v' : Value} (h : TLAt w W0 B R V s f x a n cap l W) (ho : W2.ownsRow (V + 1) 3 1 v' (n + 1) (l.map (Value.int .i64) ++ [.int .i64 z])) (hg : (W.alloc (.cells #[.int .i64 z] 3)).grownBy W2 (Value.slice a n cap).ownBlock) :
    (∃ a' cap', v' = .slice a' (n + 1) cap') ∧ W2.heap[V]? = some (.cells #[.int .i64 x, .slice a n cap] 26 (0, 0)) ∧ ∀ a' cap', v' = .slice a' (n + 1) cap' → TLAt w W0 B R V s f x a' (n + 1) cap' (l ++ [z]) (W2.setCell ⟨V, 1, none⟩ v') := by
  have hl := h.lt
  have hb : Below W.heap.size W (W.alloc (.cells #[.int .i64 z] 3)) := (Below.refl _ _).alloc (Nat.le_refl _) _
  have hne : ∀ k, k ≤ V → (Value.slice a n cap).ownBlock ≠ some k := fun k hk e => by
    have := (World.ownsRow.lt h.own k e).1
    omega
  have hVl := lt_of_block h.row
  have hbe : ∀ k, k ≤ V → W2.heap[k]? = W.heap[k]? := fun k hk =>
    (hg.block k (Nat.lt_of_lt_of_le (by omega) hb.size) (hne k hk).symm).trans (hb.block k (by omega))
  have hbl : ∀ k o, k ≤ V → W.heap[k]? = some o → W2.heap[k]? = some o := fun k o hk hw => (hbe k hk).trans hw
  have r2 := hbl V _ (Nat.le_refl _) h.row
  refine ⟨?_, r2, ?_⟩
  · rcases ho.2 with ⟨_, h0⟩ | ⟨g, c, cur, e, _⟩
    · omega
    · exact ⟨_, _, e⟩
  · rintro a' cap' rfl
    have hsz : (l ++ [z]).length = n + 1 := by rw [List.length_append, h.own.len]; rfl
    refine ⟨⟨?_, h.tk.new, ?_⟩, ?_, ?_, ?_, h.lt, fun k hk hB => ?_⟩
    · rw [Below.heap_setCell W2 _ _ _ (by dsimp only; omega)]
      exact hbl B _ (by omega) h.tk.row
    · have hnew := h.tk.new
      refine Below.setCell ?_ (by dsimp only; omega) _
      exact (h.tk.bel.alloc h.tk.bel.size _).grown hg (Nat.le_trans h.tk.bel.size hb.size) (fun k hk => by have := (World.ownsRow.lt h.own k hk).1; omega)
    · rw [Below.heap_setCell W2 _ _ _ (by dsimp only; omega)]
      exact hbl R _ (by omega) h.res
    · rw [setCell_eq_setRow W2 V 1 _ _ _ _ r2]
      exact setRow_heap W2 V _ _ _ _ r2
    · have h2 : IOwn W2 (V + 1) (.slice a' (n + 1) cap') (l ++ [z]) := by
        unfold IOwn
        rw [hsz, List.map_append]
        exact ho
      exact h2.setCell _ _ (by simp)
    · rw [Below.heap_setCell W2 _ _ _ (by dsimp only; omega)]
      exact (hbe k (by omega)).trans (h.old k hk hB)

set_option maxRecDepth 100000 in
set_option maxHeartbeats 4000000 in
theorem takeLive_few (w W : World) (B : Nat) (t : ByteArray) (h : TkAt w B t false W) (hs : t.size ≤ 1048576) (hc : cntF t ≤ 60) :
    Calls Tryz.prog 28 #[.pointer (some ⟨B, 0, none⟩)] W fun e w' => (∃ a n cap, e = .returned (.agg #[.int .i64 ((rv t).1 : Nat), .slice a n cap]) ∧ IOwn w' W.heap.size (.slice a n cap) (idsF (cntF t) (tailF t))) ∧ TkAt w B (restF (cntF t) (tailF t)) (failT t || failF (cntF t) (tailF t)) w' ∧ ∀ k, k < W.heap.size → k ≠ B → w'.heap[k]? = W.heap[k]? := by
  have hBl := lt_of_block h.row
  obtain ⟨W0, hW⟩ : ∃ W0, W0 = W.alloc (.cells #[.int .i64 0, .slice none 0 0] 26) := ⟨_, rfl⟩
  have HA0 : Hid (TkAt w B t false W0) := hide (by rw [hW]; exact h.later ((Below.refl _ _).alloc (Nat.le_refl _) _))
  have HR0 : Hid (W0.heap[W.heap.size]? = some (.cells #[.int .i64 0, .slice none 0 0] 26 (0, 0))) := hide (by rw [hW]; exact heap_alloc_new W _)
  have hz := numT_size t
  have hz2 := numT_size (numT t)
  have HOL : Hid (∀ k, k < W.heap.size → k ≠ B → W0.heap[k]? = W.heap[k]?) := hide (fun k hk _ => by rw [hW]; exact Below.heap_alloc W _ k hk)
  obtain ⟨c, hc0⟩ : ∃ c, (rv (numT t)).1 = c := ⟨_, rfl⟩
  obtain ⟨nx, hn0⟩ : ∃ nx, (rv t).1 = nx := ⟨_, rfl⟩
  obtain ⟨T, hT0⟩ : ∃ T, numT (numT t) = T := ⟨_, rfl⟩
  obtain ⟨F, hF0⟩ : ∃ F, ((false || decide ((rv t).2 = 0)) || decide ((rv (numT t)).2 = 0)) = F := ⟨_, rfl⟩
  have hcc : c ≤ 60 := by rw [← hc0]; exact hc
  have hT : T.size ≤ 1048576 := by rw [← hT0]; omega
  rw [show cntF t = c from hc0, show tailF t = T from hT0, show failT t = F from hF0, hn0]
  have HC0 := hide hc0
  have HN0 := hide hn0
  have HT0 := hide hT0
  have HF0 := hide hF0
  have hz3 : (numT t).size ≤ 1048576 := by omega
  clear hc0 hn0 hT0 hF0 hc hz hz2
  clear h
  go_enter Tryz.func28, Tryz.ntmps28
  go_wp2_with fail
  rw [← hW]
  clear hW
  refine (tkNum_g w W0 B t false HA0.out hs).mono ?_
  rintro e w1 ⟨rfl, h1, g1⟩
  have HA1 := hide h1
  have HR1 := hide ((g1.block _ (lt_of_block HR0.out) (fun e => by injection e with e; omega)).trans HR0.out)
  have HOL1 : Hid (∀ k, k < W.heap.size → k ≠ B → w1.heap[k]? = W.heap[k]?) := hide (fun k hk hB => (g1.block k (Nat.lt_trans hk (lt_of_block HR0.out)) (fun e => hB (Option.some.inj e))).trans (HOL.out k hk hB))
  clear h1 g1 HA0 HR0 HOL
  obtain ⟨W1, hW⟩ : ∃ W1, W1 = w1.alloc (.cells #[.int .i64 ((rv t).1 : Nat), .slice none 0 0] 26) := ⟨_, rfl⟩
  have hb1 : Below w1.heap.size w1 W1 := by rw [hW]; exact (Below.refl _ _).alloc (Nat.le_refl _) _
  have HA : Hid (TLAt w W B W.heap.size w1.heap.size (numT t) (false || decide ((rv t).2 = 0)) ((rv t).1 : Nat) none 0 0 [] W1) := hide
    ⟨HA1.out.later hb1, (hb1.block _ (lt_of_block HR1.out)).trans HR1.out, by rw [hW]; exact heap_alloc_new w1 _, World.ownsRow_nil _ _ _ _, ⟨hBl, lt_of_block HR1.out⟩, fun k hk hB => (hb1.block k (Nat.lt_trans hk (lt_of_block HR1.out))).trans (HOL1.out k hk hB)⟩
  obtain ⟨V, hV⟩ : ∃ V, w1.heap.size = V := ⟨_, rfl⟩
  rw [hV] at HA
  clear HA1 HR1 HOL1 hb1
  go_wp2_with fail
  rw [← hW]
  clear hW hV
  refine (tkNum_g w W1 B (numT t) _ HA.out.tk hz3).mono ?_
  rintro e w2 ⟨rfl, h2, g2⟩
  have HA2 := hide (HA.out.num h2 g2)
  clear h2 g2 HA
  have hA2 := HA2.out
  rw [HT0.out, HF0.out, HN0.out] at hA2
  have HA2 := hide hA2
  rw [HC0.out, HN0.out]
  clear HC0 HN0 HT0 HF0 hA2
  obtain ⟨y0, y1, -, -⟩ := cells2 HA2.out.row
  obtain ⟨R, hR⟩ : ∃ R, W.heap.size = R := ⟨_, rfl⟩
  have hRW := hR
  rw [hR] at HA2 hBl
  go_wp2
  go_loopw [17] (fun i wr => ∃ (j : Nat) (a : Option Addr) (cap : Nat), i = .int .i64 j ∧ j ≤ c ∧ Hid (TLAt w W B R V (restF j T) (F || failF j T) (nx : Int) a j cap (idsF j T) wr)) (fun i _ => c - (intOf i).toNat)
  case atStart => exact ⟨0, none, 0, rfl, by omega, by rw [show (F || failF 0 T) = F from Bool.or_false F]; exact HA2⟩
  case round =>
    clear HA2
    obtain ⟨j, a, cap, rfl, hj, HA⟩ := hrel
    by_cases hlt : j < c
    · have hsz := restF_size j T
      have HN := hide (fun W' s f h => tkNum_g w W' B s f h)
      have HI2 : Hid (idsF (j + 1) T = idsF j T ++ [((rv (restF j T)).1 : Int)] ∧ restF (j + 1) T = numT (restF j T) ∧ (F || failF (j + 1) T) = ((F || failF j T) || decide ((rv (restF j T)).2 = 0))) := hide ⟨idsF_snoc j T, restF_snoc j T, by rw [failF_snoc, Bool.or_assoc]⟩
      have HK := hide (HA.out.num (HA.out.tk.later (Below.refl wr.heap.size wr).drew) ⟨rfl, rfl, rfl, Nat.le_refl _, fun _ _ _ => rfl⟩)
      obtain ⟨y0, y1, -, -⟩ := cells2 HK.out.row
      have HC := hide (tkNum_g w wr.drew B (restF j T) (F || failF j T) HK.out.tk (by omega))
      have hj6 : j ≤ 60 := by omega
      clear HA hsz
      obtain ⟨rest, hrest⟩ : ∃ r, restF j T = r := ⟨_, rfl⟩
      obtain ⟨z, hz⟩ : ∃ z, (rv rest).1 = z := ⟨_, rfl⟩
      rw [hrest] at HI2 HC HK
      rw [hz] at HI2 HC
      generalize (F || failF j T) = G at *
      clear hz hrest
      go_wp2
      go_region_law (first
        | (refine step_call1 rfl 55 (.tmp 21) 60 rfl Tryz.func55 (by kernel_rfl) rfl _ rfl ?_; refine HC.out.mono ?_; rintro e w4 ⟨rfl, ht4, hg4⟩; refine ⟨_, rfl, ?_⟩; have HK4 := hide (HK.out.num ht4 hg4); obtain ⟨p0, p1, -, -⟩ := cells2 HK4.out.row; have pa := (cells2 (((Below.refl w4.heap.size w4).alloc (Nat.le_refl _) (.cells #[.int .i64 (z : Int)] 3)).block _ (lt_of_block HK4.out.row) |>.trans HK4.out.row)).2.1; have HO4 := hide (HK4.out.own.later ((Below.refl w4.heap.size w4).alloc (Nat.le_refl _) (.cells #[.int .i64 (z : Int)] 3)) (Nat.le_refl _)); have HLN := hide HK4.out.own.len; have HS4 : Hid (V + 1 ≤ w4.heap.size) := hide (lt_of_block HK4.out.row); clear ht4 hg4)
        | (refine step_app_i64 (n := j) rfl (.tmp 20) (.tmp 23) rfl (z : Int) (by have h := HO4.out; unfold IOwn at h; rw [HLN.out] at h; exact h) HS4.out (by omega) rfl rfl ?_; intro v' w5 ho5 hg5; have HP := hide (HK4.out.app ho5 hg5); clear ho5 hg5; obtain ⟨a', cap', rfl⟩ := HP.out.1; have HA6 := hide (HP.out.2.2 a' cap' rfl); obtain ⟨x0, x1, f0, f1⟩ := cells2 HP.out.2.1; clear HP))
      all_goals
        have HA7 : Hid (TLAt w W B R V (restF (j + 1) T) (F || failF (j + 1) T) (nx : Int) a' (j + 1) cap' (idsF (j + 1) T) (w5.setCell ⟨V, 1, none⟩ (.slice a' (j + 1) cap'))) := hide (by rw [HI2.out.1, HI2.out.2.1, HI2.out.2.2]; exact HA6.out)
        clear HA6 HK4 HO4 HLN HS4 HK HC HI2 x0 x1 f0 f1 p0 p1 pa y0 y1
        go_wp2
        go_roundw
        case rel => exact ⟨j + 1, a', cap', by go_num, by omega, HA7⟩
        case measure => first | (simp [intOf]; done) | (simp [intOf]; omega)
    · obtain rfl : j = c := by omega
      obtain ⟨y0, y1, -, -⟩ := cells2 HA.out.row
      obtain ⟨x0, x1, f0, f1⟩ := cells2 HA.out.res
      go_wp2
      refine bodyPost_ret (v := .agg #[.int .i64 (nx : Int), .slice a j cap]) (by simp [results, Tryz.results28, go_sem, *]) rfl ?_
      have hl := HA.out.lt
      refine ⟨⟨a, j, cap, rfl, ?_⟩, ?_, ?_⟩
      · refine IOwn.mono ?_ (show W.heap.size ≤ V + 1 by omega)
        iterate 2 (refine IOwn.setCell ?_ _ _ (by dsimp only; omega))
        exact HA.out.own
      · refine ⟨?_, HA.out.tk.new, ?_⟩
        · rw [Below.heap_setCell _ _ _ _ (by dsimp only; omega), Below.heap_setCell _ _ _ _ (by dsimp only; omega)]
          exact HA.out.tk.row
        · have hn := HA.out.tk.new
          iterate 2 (refine Below.setCell ?_ (by dsimp only; omega) _)
          exact HA.out.tk.bel
      · intro k hk hB
        rw [Below.heap_setCell _ _ _ _ (by dsimp only; omega), Below.heap_setCell _ _ _ _ (by dsimp only; omega)]
        exact HA.out.old k (by omega) hB

set_option maxRecDepth 100000 in
set_option maxHeartbeats 4000000 in
theorem takeLive_many (w W : World) (B : Nat) (t : ByteArray) (h : TkAt w B t false W) (hs : t.size ≤ 1048576) (hc : 60 < cntF t) :
    Calls Tryz.prog 28 #[.pointer (some ⟨B, 0, none⟩)] W fun e w' => e = .returned (.agg #[.int .i64 0, .slice none 0 0]) ∧ TkAt w B (tailF t) true w' ∧ ∀ k, k < W.heap.size → k ≠ B → w'.heap[k]? = W.heap[k]? := by
  have hBl := lt_of_block h.row
  obtain ⟨W0, hW⟩ : ∃ W0, W0 = W.alloc (.cells #[.int .i64 0, .slice none 0 0] 26) := ⟨_, rfl⟩
  have HA0 : Hid (TkAt w B t false W0) := hide (by rw [hW]; exact h.later ((Below.refl _ _).alloc (Nat.le_refl _) _))
  have HR0 : Hid (W0.heap[W.heap.size]? = some (.cells #[.int .i64 0, .slice none 0 0] 26 (0, 0))) := hide (by rw [hW]; exact heap_alloc_new W _)
  have hz := numT_size t
  have hz2 := numT_size (numT t)
  have HOL : Hid (∀ k, k < W.heap.size → k ≠ B → W0.heap[k]? = W.heap[k]?) := hide (fun k hk _ => by rw [hW]; exact Below.heap_alloc W _ k hk)
  obtain ⟨c, hc0⟩ : ∃ c, (rv (numT t)).1 = c := ⟨_, rfl⟩
  obtain ⟨nx, hn0⟩ : ∃ nx, (rv t).1 = nx := ⟨_, rfl⟩
  obtain ⟨T, hT0⟩ : ∃ T, numT (numT t) = T := ⟨_, rfl⟩
  obtain ⟨F, hF0⟩ : ∃ F, ((false || decide ((rv t).2 = 0)) || decide ((rv (numT t)).2 = 0)) = F := ⟨_, rfl⟩
  have hcc : 60 < c := by rw [← hc0]; exact hc
  rw [show tailF t = T from hT0]
  have HC0 := hide hc0
  have HN0 := hide hn0
  have HT0 := hide hT0
  have HF0 := hide hF0
  have hz3 : (numT t).size ≤ 1048576 := by omega
  clear hc0 hn0 hT0 hF0 hc hz hz2
  clear h
  go_enter Tryz.func28, Tryz.ntmps28
  go_wp2_with fail
  rw [← hW]
  clear hW
  refine (tkNum_g w W0 B t false HA0.out hs).mono ?_
  rintro e w1 ⟨rfl, h1, g1⟩
  have HA1 := hide h1
  have HR1 := hide ((g1.block _ (lt_of_block HR0.out) (fun e => by injection e with e; omega)).trans HR0.out)
  have HOL1 : Hid (∀ k, k < W.heap.size → k ≠ B → w1.heap[k]? = W.heap[k]?) := hide (fun k hk hB => (g1.block k (Nat.lt_trans hk (lt_of_block HR0.out)) (fun e => hB (Option.some.inj e))).trans (HOL.out k hk hB))
  clear h1 g1 HA0 HR0 HOL
  obtain ⟨W1, hW⟩ : ∃ W1, W1 = w1.alloc (.cells #[.int .i64 ((rv t).1 : Nat), .slice none 0 0] 26) := ⟨_, rfl⟩
  have hb1 : Below w1.heap.size w1 W1 := by rw [hW]; exact (Below.refl _ _).alloc (Nat.le_refl _) _
  have HA : Hid (TLAt w W B W.heap.size w1.heap.size (numT t) (false || decide ((rv t).2 = 0)) ((rv t).1 : Nat) none 0 0 [] W1) := hide
    ⟨HA1.out.later hb1, (hb1.block _ (lt_of_block HR1.out)).trans HR1.out, by rw [hW]; exact heap_alloc_new w1 _, World.ownsRow_nil _ _ _ _, ⟨hBl, lt_of_block HR1.out⟩, fun k hk hB => (hb1.block k (Nat.lt_trans hk (lt_of_block HR1.out))).trans (HOL1.out k hk hB)⟩
  obtain ⟨V, hV⟩ : ∃ V, w1.heap.size = V := ⟨_, rfl⟩
  rw [hV] at HA
  clear HA1 HR1 HOL1 hb1
  go_wp2_with fail
  rw [← hW]
  clear hW hV
  refine (tkNum_g w W1 B (numT t) _ HA.out.tk hz3).mono ?_
  rintro e w2 ⟨rfl, h2, g2⟩
  have HA2 := hide (HA.out.num h2 g2)
  clear h2 g2 HA
  have hA2 := HA2.out
  rw [HT0.out, HF0.out, HN0.out] at hA2
  have HA2 := hide hA2
  rw [HC0.out, HN0.out]
  clear HC0 HN0 HT0 HF0 hA2
  obtain ⟨y0, y1, -, -⟩ := cells2 HA2.out.row
  obtain ⟨z0, z1⟩ := HA2.out.tk.cells
  have g1 := HA2.out.tk.free 1
  obtain ⟨x0, x1, f0, f1⟩ := cells2 HA2.out.res
  have hl := HA2.out.lt
  have t6 : decide ((60 : Int) < (c : Int)) = true := by simp; omega
  have HLT := hide hl
  clear hl
  go_wp2
  refine bodyPost_ret (v := .agg #[.int .i64 0, .slice none 0 0]) (by simp [results, Tryz.results28, go_sem, *]) rfl ?_
  have hl := HLT.out
  have hn := HA2.out.tk.new
  have hF := HA2.out.tk.fail true
  refine ⟨rfl, ⟨?_, hn, ?_⟩, ?_⟩
  · rw [Below.heap_setCell _ _ _ _ (by dsimp only; omega), Below.heap_setCell _ _ _ _ (by dsimp only; omega)]
    exact hF.row
  · iterate 2 (refine Below.setCell ?_ (by dsimp only; omega) _)
    exact hF.bel
  · intro k hk hB
    rw [Below.heap_setCell _ _ _ _ (by dsimp only; omega), Below.heap_setCell _ _ _ _ (by dsimp only; omega), Below.heap_setCell _ _ _ _ (by dsimp only; omega)]
    exact HA2.out.old k hk hB

end Go.Proofs.YthnealhaleccpaaGreatDoor
