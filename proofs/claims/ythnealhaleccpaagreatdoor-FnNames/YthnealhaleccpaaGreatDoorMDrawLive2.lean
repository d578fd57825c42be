/-
  spec.l7Any: a list of segments that is drawn, right or not.
-/
import Derived.Test.YthnealhaleccpaaGreatDoorMDrawLive
import Derived.Test.YthnealhaleccpaaGreatDoorG00
namespace Go.Proofs.YthnealhaleccpaaGreatDoor
open Go.RowKit Go.Maps
open Plain

/-- A call of a named Go function of two arguments, as one step of a statement whose order is open. -/
theorem step_call2 {P : Program} {ops : Array Oper} {o : Oper} {a : Act} {w : World} {K : Act → World → Prop} {Q : Exit → Act → World → Prop} {E : Prop} (hgd : o.guard = none) (f : FuncId) (x y : Operand) (T U : TypeId)
    (ho : o.op = .call { callee := .value (.func f), args := #[x, y], argTypes := #[T, U] }) {fn : Func}
    (hf : P.funcs[f]? = some fn) (hname : (fn.name == "runtime.NumGoroutine") = false) (hb : fn.body.isNone = false) (v u : Value) (hx : a.eval x = v) (hy : a.eval y = u)
    (h : Calls P f #[v, u] w fun e w' => ∃ r, e = .returned r ∧ K (a.put o.dst r) w') : if Region.wanted o (yielded ops a.tmps) = true then Oper.wp P o a w K Q else E := by
  rw [if_pos (by simp [Region.wanted, hgd])]
  obtain ⟨dst, op, ty, pos, after, guard⟩ := o
  simp only at ho hgd
  subst ho
  subst hgd
  unfold Oper.wp
  rw [execOp_call_go, run_enter hf hname hb]
  rw [Oper.upon_enter]
  have e : #[] ++ Array.map a.eval #[x, y] ++ #[] = #[v, u] := by simp [hx, hy]
  rw [e]
  refine h.mono ?_
  rintro e w' ⟨u, rfl, hk⟩
  exact hk

set_option maxRecDepth 100000 in
set_option maxHeartbeats 8000000 in
theorem any7_any (w : World) (B : Nat) (a : Option Addr) (len cap : Nat) (zs : List Int) (hc : CurX w B a len cap zs) :
    Calls Tryz.prog 21 #[.pointer (some ⟨B, 0, none⟩)] w fun e w' => (∃ x b m capb ts, e = .returned (.agg #[.int .i64 x, .slice b m capb]) ∧ m ≤ 61 ∧ IOwn w' (w.heap.size + 1) (.slice b m capb) ts) ∧ CurX w' B a len cap zs ∧ w.grownBy w' (some B) := by
  have hB := hc.lt
  obtain ⟨W, hW⟩ : ∃ W, W = w.alloc (.cells #[.int .i64 0, .slice none 0 0] 26) := ⟨_, rfl⟩
  have hbW : Below w.heap.size w W := by rw [hW]; exact (Below.refl _ _).alloc (Nat.le_refl _) _
  have HW0 : Hid (W.heap[w.heap.size]? = some (.cells #[.int .i64 0, .slice none 0 0] 26 (0, 0))) := hide (by rw [hW]; exact heap_alloc_new w _)
  have HCW := hide (hc.below hbW hB)
  have HBW := hide hbW
  clear hc hbW
  go_enter Tryz.func21, Tryz.ntmps21
  go_wp2_with fail
  rw [← hW]
  clear hW
  refine (live7_any W B a len cap zs HCW.out).mono ?_
  rintro e w1 ⟨⟨x, a', k, cap', ts, rfl, hk1, hk4, ho1⟩, hc1, hg1⟩
  obtain ⟨X, hX⟩ : ∃ X, X = w1.alloc (.cells #[.int .i64 x, .slice a' k cap'] 26) := ⟨_, rfl⟩
  have hbX : Below w1.heap.size w1 X := by rw [hX]; exact (Below.refl _ _).alloc (Nat.le_refl _) _
  have hwW : w.heap.size < W.heap.size := lt_of_block HW0.out
  have HD : Hid (LMid w X B a len cap zs w1.heap.size x a' k cap' ts) := hide
    { cur := hc1.below hbX hc1.lt
      res := by rw [hbX.block _ (by have := hg1.size; omega), hg1.block _ hwW (fun e => by injection e with e; omega)]; exact HW0.out
      row := by rw [hX]; exact heap_alloc_new w1 _
      own := (ho1.mono (by omega)).later hbX (Nat.le_refl _)
      gro := by
        have h0 : w.grownBy W (some B) := ⟨HBW.out.os, HBW.out.tape, HBW.out.output, HBW.out.size, fun i hi _ => HBW.out.block i hi⟩
        exact grown_below (grown_trans h0 hg1) (hbX.mono (by have := HBW.out.size; have := hg1.size; omega))
      lo := by have := hg1.size; omega
      hB := hB }
  obtain ⟨st, hst⟩ := HD.out.cur
  have HST := hide hst
  clear hst hbX hg1 hc1 ho1 HCW HBW HW0 hwW
  go_wp2_with fail
  rw [← hX]
  clear hX
  obtain ⟨V, hV⟩ : ∃ b, w1.heap.size = b := ⟨_, rfl⟩
  rw [hV] at HD ⊢
  clear hV
  refine (below_any 10 X B a len cap zs st HST.out).mono ?_
  rintro e w2 ⟨rfl, hc2, hg2⟩
  have hl := lV_bd zs 10 st (by omega)
  have HD2 := hide (HD.out.grown hg2 ⟨_, hc2⟩)
  clear hc2 hg2 HST HD
  generalize lV zs 10 st = v at *
  have HEND : Hid (∀ wr x2 a2 k2 cap2 ts2, k2 ≤ 61 → LMid w wr B a len cap zs V x2 a2 k2 cap2 ts2 → (∃ x b m capb ts, Ending.returned (.agg #[.int .i64 x2, .slice a2 k2 cap2]) = .returned (.agg #[.int .i64 x, .slice b m capb]) ∧ m ≤ 61 ∧ IOwn ((wr.setCell ⟨w.heap.size, 0, none⟩ (.int .i64 x2)).setCell ⟨w.heap.size, 1, none⟩ (.slice a2 k2 cap2)) (w.heap.size + 1) (.slice b m capb) ts) ∧ CurX ((wr.setCell ⟨w.heap.size, 0, none⟩ (.int .i64 x2)).setCell ⟨w.heap.size, 1, none⟩ (.slice a2 k2 cap2)) B a len cap zs ∧ w.grownBy ((wr.setCell ⟨w.heap.size, 0, none⟩ (.int .i64 x2)).setCell ⟨w.heap.size, 1, none⟩ (.slice a2 k2 cap2)) (some B)) := hide (fun wr x2 a2 k2 cap2 ts2 hk h => ⟨⟨_, _, _, _, ts2, rfl, hk, (h.done _ _).1⟩, (h.done _ _).2⟩)
  have n1 : w.heap.size ≠ V := by have := HD2.out.lo; omega
  have n2 : V ≠ w.heap.size := by have := HD2.out.lo; omega
  by_cases v0 : v = 0
  · subst v0
    have hcx : CurX (w2.alloc (.cells #[.int .i64 0, .int .i64 1, .int .i64 100000, .int .i64 100001] 3)) B a len cap zs := HD2.out.cur.below ((Below.refl _ _).alloc (Nat.le_refl _) _) HD2.out.cur.lt
    have HP := hide (pickInt_any [0, 1, 100000, 100001] w2.heap.size (by simp) (by simp) (w2.alloc (.cells #[.int .i64 0, .int .i64 1, .int .i64 100000, .int .i64 100001] 3)) B a len cap zs hcx (by have := HD2.out.cur.lt; omega) (row_ints w2 [0, 1, 100000, 100001]))
    clear hcx
    go_wp2_with fail
    refine HP.out.mono ?_
    rintro e w3 ⟨⟨z, hz, rfl⟩, hc3, hg3⟩
    have HD3 := hide ((HD2.out.later ((Below.refl _ _).alloc (Nat.le_refl _) _)).grown hg3 hc3)
    have HE := hide (HEND.out _ _ _ _ _ _ (by omega) (HD3.out.num z))
    obtain ⟨p0, p1, q0, q1⟩ := cells2 HD3.out.row
    obtain ⟨r0, r1, f0, f1⟩ := cells2 HD3.out.res
    clear hz hc3 hg3 HD2 HEND
    go_wp2
    exact bodyPost_ret (v := .agg #[.int .i64 z, .slice a' k cap']) (by simp [results, Tryz.results21, go_sem, *]) rfl HE.out
  · by_cases v2 : v = 2
    · subst v2
      have HE := hide (HEND.out _ _ _ _ _ _ (by omega) HD2.out.emptied)
      obtain ⟨p0, p1, q0, q1⟩ := cells2 HD2.out.row
      obtain ⟨r0, r1, f0, f1⟩ := cells2 HD2.out.res
      go_wp2
      exact bodyPost_ret (v := .agg #[.int .i64 x, .slice none 0 0]) (by simp [results, Tryz.results21, go_sem, *]) rfl HE.out
    · by_cases v1 : v = 1
      · subst v1
        have HBL : Hid (∀ W', LMid w W' B a len cap zs V x a' k cap' ts → Calls Tryz.prog 43 #[.pointer (some ⟨B, 0, none⟩), .int .i64 9] W' fun e w' => (∃ z : Int, e = .returned (.int .i64 z)) ∧ LMid w w' B a len cap zs V x a' k cap' ts) := hide (fun W' h => by
          obtain ⟨st', hc'⟩ := h.cur
          refine (below_any 9 W' B a len cap zs st' hc').mono ?_
          rintro e w' ⟨rfl, hc2, hg2⟩
          exact ⟨⟨_, rfl⟩, h.grown hg2 ⟨_, hc2⟩⟩)
        have HK : Hid (LMid w w2.drew B a len cap zs V x a' k cap' ts) := hide (HD2.out.later (Below.refl _ _).drew)
        have HLN := hide HD2.out.own.len
        obtain ⟨p0, p1, -, -⟩ := cells2 HK.out.row
        go_wp2
        go_region_law (first
          | (refine step_call2 rfl 43 (.tmp 18) (.const (.int .i64 9)) _ _ rfl Tryz.func43 (by kernel_rfl) rfl _ _ rfl rfl ?_; refine (HBL.out _ HK.out).mono ?_; rintro e w4 ⟨⟨z, rfl⟩, hk4⟩; refine ⟨_, rfl, ?_⟩; have HK4 := hide hk4; obtain ⟨p0, p1, -, -⟩ := cells2 HK4.out.row; have pa := (cells2 (((Below.refl w4.heap.size w4).alloc (Nat.le_refl _) (.cells #[.int .i64 z] 3)).block _ (lt_of_block HK4.out.row) |>.trans HK4.out.row)).2.1; have HO4 := hide (HK4.out.own.later ((Below.refl w4.heap.size w4).alloc (Nat.le_refl _) (.cells #[.int .i64 z] 3)) (Nat.le_refl _)); have HS4 : Hid (w.heap.size + 1 ≤ w4.heap.size) := hide (lt_of_block HK4.out.res); clear hk4)
          | (refine step_app_i64 (n := k) rfl (.tmp 17) (.tmp 20) rfl z (by have h := HO4.out; unfold IOwn at h; rw [HLN.out] at h; exact h) HS4.out (by omega) rfl rfl ?_; intro v' w5 ho5 hg5; have HP := hide (HK4.out.app ho5 hg5); clear ho5 hg5; obtain ⟨a2, cap2, rfl⟩ := HP.out.1; have HA6 := hide (HP.out.2.2 a2 cap2 rfl); obtain ⟨x0, x1, f0, f1⟩ := cells2 HP.out.2.1; clear HP))
        all_goals
          have HE := hide (HEND.out _ _ _ _ _ _ (by omega) HA6.out)
          obtain ⟨s0, s1, -, -⟩ := cells2 HA6.out.row
          obtain ⟨r0, r1, g0, g1⟩ := cells2 HA6.out.res
          clear HBL HK HLN HK4 HO4 HS4 HA6 HEND HD2
          go_wp2
          exact bodyPost_ret (v := .agg #[.int .i64 x, .slice a2 (k + 1) cap2]) (by simp [results, Tryz.results21, go_sem, *]) rfl HE.out
      · by_cases v3 : v = 3
        · subst v3
          clear v0 v1 v2
          go_wp2
          go_loopw [30] (fun _ wr => ∃ (k2 : Nat) (a2 : Option Addr) (cap2 : Nat) (ts2 : List Int), 1 ≤ k2 ∧ k2 ≤ 61 ∧ Hid (LMid w wr B a len cap zs V x a2 k2 cap2 ts2)) (fun _ wr => match wr.cell? ⟨V, 1, none⟩ with | some (.slice _ n _) => 62 - n | _ => 0)
          case atStart => exact ⟨k, a', cap', ts, hk1, by omega, HD2⟩
          case round =>
            clear HD2
            obtain ⟨k2, a2, cap2, ts2, hk1, hk2, HD⟩ := hrel
            obtain ⟨j, rfl⟩ : ∃ j, k2 = j + 1 := ⟨k2 - 1, by omega⟩
            have HBL : Hid (∀ W', LMid w W' B a len cap zs V x a2 (j + 1) cap2 ts2 → Calls Tryz.prog 43 #[.pointer (some ⟨B, 0, none⟩), .int .i64 2] W' fun e w' => (∃ z : Int, (0 ≤ z ∧ z < 2) ∧ e = .returned (.int .i64 z)) ∧ LMid w w' B a len cap zs V x a2 (j + 1) cap2 ts2) := hide (fun W' h => by
              obtain ⟨st', hc'⟩ := h.cur
              refine (below_any 2 W' B a len cap zs st' hc').mono ?_
              rintro e w' ⟨rfl, hc2, hg2⟩
              exact ⟨⟨_, lV_bd zs 2 st' (by omega), rfl⟩, h.grown hg2 ⟨_, hc2⟩⟩)
            have HK : Hid (LMid w wr.drew B a len cap zs V x a2 (j + 1) cap2 ts2) := hide (HD.out.later (Below.refl _ _).drew)
            have HM : Hid (wr.cell? ⟨V, 1, none⟩ = some (.slice a2 (j + 1) cap2)) := hide (cells2 HD.out.row).2.1
            obtain ⟨p0, p1, -, -⟩ := cells2 HK.out.row
            go_wp2
            go_region_with (go_at_call 43; refine (HBL.out _ HK.out).mono ?_; rintro e w3 ⟨⟨z, hz, rfl⟩, hk3⟩; have HK3 := hide hk3; obtain ⟨p0, p1, -, -⟩ := cells2 hk3.row; clear hk3)
            all_goals
              clear HBL HK
              have hw60 : IntKind.i64.wrap (60 + z) = 60 + z := by rw [IntKind.wrap_i64]; omega
              by_cases t1 : ((j : Int) + 1) < 60 + z
              · have t1d : decide ((j : Int) + 1 < 60 + z) = true := by simpa using t1
                have HLN := hide HK3.out.own.len
                have hjl : j < ts2.length := by have := HLN.out; omega
                obtain ⟨g, rfl⟩ : ∃ g, a2 = some ⟨g, 0, none⟩ := by
                  rcases HK3.out.own.2 with ⟨e, h0⟩ | ⟨g, c, cur, e, _⟩
                  · simp only [Value.slice.injEq] at e
                    omega
                  · simp only [Value.slice.injEq] at e
                    exact ⟨g, e.1⟩
                obtain ⟨b', o', q0, -, -, c1⟩ := HK3.out.own.row.cells j hjl
                simp only [Option.some.injEq, Addr.mk.injEq] at q0
                obtain ⟨rfl, rfl, -⟩ := q0
                rw [Nat.zero_add] at c1
                obtain ⟨y, hy⟩ : ∃ y, ts2[j] = y := ⟨_, rfl⟩
                rw [hy] at c1
                clear hy
                have hj60 : j + 1 ≤ 60 := by omega
                have hgl : g < w3.heap.size := by
                  rcases Nat.lt_or_ge g w3.heap.size with h | h
                  · exact h
                  · simp [World.cell?, Array.getElem?_eq_none h] at c1
                have HCL : Hid (∀ W', Below w3.heap.size w3 W' → W'.cell? ⟨V, 0, none⟩ = some (.int .i64 x) ∧ W'.cell? ⟨V, 1, none⟩ = some (.slice (some ⟨g, 0, none⟩) (j + 1) cap2) ∧ W'.cell? ⟨g, j, none⟩ = some (.int .i64 y)) := hide (fun W' hb => by
                  obtain ⟨k0, k1, -, -⟩ := cells2 (HK3.out.later hb).row
                  exact ⟨k0, k1, by rw [hb.cell (p := ⟨g, j, none⟩) hgl]; exact c1⟩)
                obtain ⟨d0, d1, d2⟩ := HCL.out w3.drew (Below.refl _ _).drew
                obtain ⟨e0, e1, e2⟩ := HCL.out (w3.alloc (.cells #[.int .i64 (IntKind.i64.wrap (y + 1))] 3)).drew ((Below.refl _ _).alloc (Nat.le_refl _) _).drew
                have HK4 : Hid (LMid w w3.drew B a len cap zs V x (some ⟨g, 0, none⟩) (j + 1) cap2 ts2) := hide (HK3.out.later (Below.refl _ _).drew)
                have HO4 : Hid ((w3.drew.alloc (.cells #[.int .i64 (IntKind.i64.wrap (y + 1))] 3)).ownsRow (w.heap.size + 1) 3 1 (.slice (some ⟨g, 0, none⟩) (j + 1) cap2) (j + 1) (ts2.map (Value.int .i64))) := hide (by
                  have h := HK4.out.own.later ((Below.refl w3.drew.heap.size w3.drew).alloc (Nat.le_refl _) (.cells #[.int .i64 (IntKind.i64.wrap (y + 1))] 3)) (Nat.le_refl _)
                  unfold IOwn at h
                  rw [HLN.out] at h
                  exact h)
                have HS4 : Hid (w.heap.size + 1 ≤ w3.drew.heap.size) := hide (lt_of_block HK4.out.res)
                have x1 : (0 : Int) ≤ (j : Int) := by omega
                have x2 : (j : Int) < (j : Int) + 1 := by omega
                have x6 : IntKind.i64.wrap ((j : Int) + 1 - 1) = (j : Int) := by rw [IntKind.wrap_i64]; omega
                have x7 : IntKind.i64.wrap (j : Int) = (j : Int) := by rw [IntKind.wrap_i64]; omega
                go_wp2
                go_region_law (first
                  | (refine step_app_i64 (n := j + 1) rfl (.tmp 36) (.tmp 46) rfl (IntKind.i64.wrap (y + 1)) HO4.out HS4.out (by omega) rfl rfl ?_; intro v' w5 ho5 hg5; have HP := hide (HK4.out.app ho5 hg5); clear ho5 hg5; obtain ⟨a3, cap3, rfl⟩ := HP.out.1; have HA6 := hide (HP.out.2.2 a3 cap3 rfl); obtain ⟨x0, x1', f0, f1⟩ := cells2 HP.out.2.1; clear HP))
                all_goals
                  have HN2 := hide (cells2 HA6.out.row).2.1
                  clear HCL HK4 HO4 HS4 x0 x1' f0 f1 d0 d1 d2 e0 e1 e2 c1 HK3 p0 p1
                  go_wp2
                  go_roundw
                  case rel => exact ⟨j + 1 + 1, a3, cap3, ts2 ++ [IntKind.i64.wrap (y + 1)], by omega, by omega, HA6⟩
                  case measure => (rw [HN2.out, HM.out]; dsimp only; omega)
              · have t1d : decide ((j : Int) + 1 < 60 + z) = false := by simpa using t1
                have HD4 := hide (HK3.out.num 90)
                have HE := hide (HEND.out _ _ _ _ _ _ (by omega) HD4.out)
                obtain ⟨s0, s1, g0, g1⟩ := cells2 HK3.out.row
                obtain ⟨r0, r1, f0, f1⟩ := cells2 HK3.out.res
                clear HM
                go_wp2
                exact bodyPost_ret (v := .agg #[.int .i64 90, .slice a2 (j + 1) cap2]) (by simp [results, Tryz.results21, go_sem, *]) rfl (by obtain ⟨⟨_, _, _, _, _, h1, h2, h3⟩, h4⟩ := HE.out; exact ⟨⟨_, _, _, _, h1, h2, _, h3⟩, h4⟩)
        · have q0 : (v == 0) = false := by simpa using v0
          have q1 : (v == 1) = false := by simpa using v1
          have q2 : (v == 2) = false := by simpa using v2
          have q3 : (v == 3) = false := by simpa using v3
          have HE := hide (HEND.out _ _ _ _ _ _ (by omega) HD2.out)
          obtain ⟨p0, p1, -, -⟩ := cells2 HD2.out.row
          obtain ⟨r0, r1, f0, f1⟩ := cells2 HD2.out.res
          clear v0 v1 v2 v3
          go_wp2
          exact bodyPost_ret (v := .agg #[.int .i64 x, .slice a' k cap']) (by simp [results, Tryz.results21, go_sem, *]) rfl HE.out

end Go.Proofs.YthnealhaleccpaaGreatDoor
