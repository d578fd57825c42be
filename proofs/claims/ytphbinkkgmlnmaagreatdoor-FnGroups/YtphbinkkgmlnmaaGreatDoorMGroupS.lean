/-
  spec.Regroup.
-/
import Derived.Test.YtphbinkkgmlnmaaGreatDoorG24
import Derived.Test.YtphbinkkgmlnmaaGreatDoorMPlaceOf
import Derived.Deep.RegionHeld3
import Derived.Laws.AppendOwnNone
namespace Go.Proofs.YtphbinkkgmlnmaaGreatDoor
open Go.RowKit
open Plain

/-- 'append([]Entry{}, dir...)' as one step of a statement whose order is open. -/
theorem step_app_dir {ops : Array Oper} {o : Oper} {act : Act} {K : Act → World → Prop} {Q : Exit → Act → World → Prop} {E : Prop} (hgd : o.guard = none) (s x : Operand)
    (ho : o.op = .call { callee := .builtin .append, args := #[s, x], argTypes := #[24, 24] }) {w : World} {base : Nat} {v : Value} (hown : entSh.Own 59 w base v []) (hb : base ≤ w.heap.size) {a : Option Addr} {n cap : Nat} {ys : List EntV} (hr : entSh.Row w a n ys) (ha : a = none → cap = 0) (hn : n ≤ 1099511627776)
    (hs : act.eval s = v) (hx : act.eval x = .slice a n cap)
    (h : ∀ a' n' cap' w', entSh.Own 59 w' base (.slice a' n' cap') ys → w.grownBy w' v.ownBlock → K (act.put o.dst (.slice a' n' cap')) w') :
    if Region.wanted o (yielded ops act.tmps) = true then Oper.wp Tryz.prog o act w K Q else E := by
  rw [if_pos (by simp [Region.wanted, hgd])]
  obtain ⟨i0, hi, hz0, hz1, hz2⟩ := info_parts Tryz.infoEnt
  have hyl := hr.len
  cases a with
  | none =>
    have hys : ys = [] := by
      cases ys with
      | nil => rfl
      | cons y r =>
        obtain ⟨b, off, e, _⟩ := hr.cells 0 (by simp)
        cases e
    subst hys
    obtain rfl : n = 0 := hyl.symm
    obtain rfl : cap = 0 := ha rfl
    have hrun := run_append_owned_none (P := Tryz.prog) (w := w) base 24 o.type 59 i0 5 Tryz.underlying24 hi v 0 [] hown
    obtain ⟨a', n', cap', rfl⟩ : ∃ a' n' cap', v = .slice a' n' cap' := by
      rcases hown.2 with ⟨e, _⟩ | ⟨_, _, _, e, _⟩ <;> exact ⟨_, _, _, e⟩
    unfold Oper.wp
    simp [execOp, ho, resolve, invoke, builtin, hs, hx, hrun, Result.andThen]
    exact h _ _ _ _ hown ⟨rfl, rfl, rfl, Nat.le_refl _, fun _ _ _ => rfl⟩
  | some ad =>
    have hmul : (0 + n) * 48 ≤ 140737488355328 := by omega
    obtain ⟨v', w', hrun, ho', hg, -, -⟩ := run_append_own_at (P := Tryz.prog) w base 24 o.type 59 i0 _ 5 48 Tryz.underlying24 hi hz0 hz1 hz2 rfl (by decide) v 0 (entSh.flat []) hown ad n cap (entSh.flat ys) (by rw [entSh.flat_length, hyl]; rfl) hr.src (entSh.flat_one ys) (by unfold maxLen; omega) hmul hb
    obtain ⟨a', n', cap', rfl⟩ : ∃ a' n' cap', v' = .slice a' n' cap' := by
      rcases ho'.2 with ⟨e, _⟩ | ⟨_, _, _, e, _⟩ <;> exact ⟨_, _, _, e⟩
    unfold Oper.wp
    simp [execOp, ho, resolve, invoke, builtin, hs, hx, hrun, Result.andThen]
    refine h a' n' cap' w' ?_ hg
    unfold Shape.Own
    rw [hyl, ← Nat.zero_add n]
    exact ho'

theorem cells6s {w : World} {B : Nat} {x0 x1 x2 x3 x4 x5 : Value} {ty : TypeId} (h : w.heap[B]? = some (.cells #[x0, x1, x2, x3, x4, x5] ty (0, 0))) :
    w.cell? ⟨B, 0, none⟩ = some x0 ∧ w.cell? ⟨B, 1, none⟩ = some x1 ∧ w.cell? ⟨B, 2, none⟩ = some x2 ∧ w.cell? ⟨B, 3, none⟩ = some x3 ∧ w.cell? ⟨B, 4, none⟩ = some x4 ∧ w.cell? ⟨B, 5, none⟩ = some x5 := by
  refine ⟨?_, ?_, ?_, ?_, ?_, ?_⟩ <;> rw [cell_of_row w B _ _ _ _ h] <;> rfl
/-- What a round has laid ahead of its switch. -/
theorem reg_start {w wr : World} {bs B : Nat} {a : Option Addr} {n c : Nat} {l0 c0 : Value} {ds : List EntV} (hb : wr.heap[B]? = some (.cells #[.slice a n c, l0, c0] 26 (0, 0))) (hd : entSh.Own 59 wr bs (.slice a n c) ds) (hB : Below w.heap.size w wr) (hw : w.heap.size ≤ bs) (hbB : bs ≤ B) (mx : Value) (r : RecV) {Wn : World}
    (hW : Wn = ((wr.setCell ⟨B, 1, none⟩ mx).alloc (.cells #[.int .i64 r.kind, .int .i64 r.batch, .string r.key, .string r.val, .int .i64 r.cnt, .int .i64 r.sum] 35)).alloc (.cells #[] 37)) :
    Wn.heap[B]? = some (.cells #[.slice a n c, mx, c0] 26 (0, 0)) ∧ entSh.Own 59 Wn bs (.slice a n c) ds ∧ Below w.heap.size w Wn ∧ Wn.heap[wr.heap.size]? = some (.cells #[.int .i64 r.kind, .int .i64 r.batch, .string r.key, .string r.val, .int .i64 r.cnt, .int .i64 r.sum] 35 (0, 0)) ∧ B < Wn.heap.size := by
  have hBl : B < wr.heap.size := (Array.getElem?_eq_some_iff.1 hb).1
  have h1 : (wr.setCell ⟨B, 1, none⟩ mx).heap[B]? = some (.cells #[.slice a n c, mx, c0] 26 (0, 0)) := by simp [World.setCell, Array.getElem?_modify, hb]
  have h2 : entSh.Own 59 (wr.setCell ⟨B, 1, none⟩ mx) bs (.slice a n c) ds := hd.setNe ⟨B, 1, none⟩ mx (ent_off hd hb (by decide))
  have h3 : Below w.heap.size w (wr.setCell ⟨B, 1, none⟩ mx) := Below.setCell hB (by exact Nat.le_trans hw hbB) _
  have hs : (wr.setCell ⟨B, 1, none⟩ mx).heap.size = wr.heap.size := by simp
  have h4 : Below (wr.setCell ⟨B, 1, none⟩ mx).heap.size (wr.setCell ⟨B, 1, none⟩ mx) Wn := by rw [hW]; exact al2 _ _ _
  refine ⟨(h4.block B (by rw [hs]; exact hBl)).trans h1, h2.later h4 (Nat.le_refl _), h3.trans (h4.mono h3.size), ?_, ?_⟩
  · rw [hW, Below.heap_alloc _ _ _ (by rw [World.size_alloc, hs]; omega)]
    have h5 := heap_alloc_new (wr.setCell ⟨B, 1, none⟩ mx) (.cells #[.int .i64 r.kind, .int .i64 r.batch, .string r.key, .string r.val, .int .i64 r.cnt, .int .i64 r.sum] 35)
    rw [hs] at h5
    exact h5
  · have := h4.size
    omega
set_option maxRecDepth 100000 in
set_option maxHeartbeats 8000000 in
theorem specReg_any (w : World) (a b : Option Addr) (n cap m cap' : Nat) (g : GroupV) (xs : List PlaceV) (ho : entSh.Row w a n g.dir) (hr : plSh.Row w b m xs) (hf : PFits xs) (ha : a = none → cap = 0) (hn : n ≤ 1048576) (hm : m ≤ 1048576) :
    Calls Tryz.prog 8 #[.agg #[.slice a n cap, .int .i64 g.last, .int .i64 g.code], .slice b m cap'] w fun e w' => (∃ a' n' c', e = .returned (.agg #[.slice a' n' c', .int .i64 (regF g xs).last, .int .i64 (regF g xs).code]) ∧ entSh.Own 59 w' w.heap.size (.slice a' n' c') (regF g xs).dir) ∧ Below w.heap.size w w' := by
  have hlen := hr.len
  have hxl := ho.len
  have HR := hide hr
  have HO := hide ho
  have HF := hide hf
  obtain ⟨W, hW⟩ : ∃ W, W = (w.alloc (.cells #[.slice a n cap, .int .i64 g.last, .int .i64 g.code] 26)).alloc (.cells #[.slice none 0 0, .int .i64 0, .int .i64 0] 26) := ⟨_, rfl⟩
  have HB0 : Hid (Below w.heap.size w W) := hide (by rw [hW]; exact al2 w _ _)
  have hg0 : W.heap[w.heap.size]? = some (.cells #[.slice a n cap, .int .i64 g.last, .int .i64 g.code] 26 (0, 0)) := by
    rw [hW, Below.heap_alloc _ _ _ (by simp)]
    exact heap_alloc_new w _
  have hr0 : W.heap[w.heap.size + 1]? = some (.cells #[.slice none 0 0, .int .i64 0, .int .i64 0] 26 (0, 0)) := by
    rw [hW]
    have h := heap_alloc_new (w.alloc (.cells #[.slice a n cap, .int .i64 g.last, .int .i64 g.code] 26)) (.cells #[.slice none 0 0, .int .i64 0, .int .i64 0] 26)
    rw [World.size_alloc] at h
    exact h
  have HS0 : Hid (∀ W', Below W.heap.size W W' → W'.cell? ⟨w.heap.size, 0, none⟩ = some (.slice a n cap) ∧ W'.cell? ⟨w.heap.size, 1, none⟩ = some (.int .i64 g.last) ∧ W'.cell? ⟨w.heap.size, 2, none⟩ = some (.int .i64 g.code) ∧ Hid (Below W.heap.size W W')) := hide (fun W' hb => by
    have h := (hb.block _ (Array.getElem?_eq_some_iff.1 hg0).1).trans hg0
    refine ⟨?_, ?_, ?_, hide hb⟩ <;> rw [cell_of_row _ _ _ _ _ _ h] <;> rfl)
  clear hr ho hf
  go_enter Tryz.func8, Tryz.ntmps8
  go_wp2
  rw [← hW]
  clear hW
  have S1 := HS0.out W.drew (Below.refl _ _).drew
  have HOW := hide (HO.out.later HB0.out)
  have E1 : entSh.Own 59 (W.alloc (.cells #[] 59)).drew W.heap.size (.slice (some ⟨W.heap.size, 0, none⟩) 0 0) [] := Shape.Own.empty entSh 59 W
  have E2 : entSh.Own 59 ((W.alloc (.cells #[] 59)).alloc (.cells #[.slice none 0 0, .int .i64 0, .int .i64 0] 26)).drew W.heap.size (.slice (some ⟨W.heap.size, 0, none⟩) 0 0) [] := (Shape.Own.empty entSh 59 W).later (al1 _ _).drew (Nat.le_refl _)
  have E3 : entSh.Own 59 ((W.alloc (.cells #[.slice none 0 0, .int .i64 0, .int .i64 0] 26)).alloc (.cells #[] 59)).drew W.heap.size (.slice (some ⟨W.heap.size + 1, 0, none⟩) 0 0) [] := by
    have h := Shape.Own.empty entSh 59 (W.alloc (.cells #[.slice none 0 0, .int .i64 0, .int .i64 0] 26))
    rw [World.size_alloc] at h
    exact h.mono (Nat.le_succ _)
  have X2 : ((W.alloc (.cells #[] 59)).alloc (.cells #[.slice none 0 0, .int .i64 0, .int .i64 0] 26)).drew.heap[W.heap.size + 1]? = some (.cells #[.slice none 0 0, .int .i64 0, .int .i64 0] 26 (0, 0)) := by
    have h := heap_alloc_new (W.alloc (.cells #[] 59)) (.cells #[.slice none 0 0, .int .i64 0, .int .i64 0] 26)
    rw [World.size_alloc] at h
    exact h
  have X3 : ((W.alloc (.cells #[.slice none 0 0, .int .i64 0, .int .i64 0] 26)).alloc (.cells #[] 59)).drew.heap[W.heap.size]? = some (.cells #[.slice none 0 0, .int .i64 0, .int .i64 0] 26 (0, 0)) := (Below.heap_alloc _ _ _ (by simp)).trans (heap_alloc_new W (.cells #[.slice none 0 0, .int .i64 0, .int .i64 0] 26))
  have HG : Hid (∀ X : World, Below W.heap.size W X → entSh.Row X a n g.dir) := hide (fun X hb => HOW.out.later hb)
  go_region_held3 (fun W' => W'.cell? ⟨w.heap.size, 0, none⟩ = some (.slice a n cap) ∧ W'.cell? ⟨w.heap.size, 1, none⟩ = some (.int .i64 g.last) ∧ W'.cell? ⟨w.heap.size, 2, none⟩ = some (.int .i64 g.code) ∧ Hid (Below W.heap.size W W')) (first
    | exact HS0.out _ (Below.refl _ _).drew
    | exact HS0.out _ (al1 W _).drew
    | exact HS0.out _ (al2 W _ _).drew
    | exact HS0.out _ hbw1
    | exact HS0.out _ (hbw1.alloc hbw1.size _)
    | exact HS0.out _ (Below.setCell (Below.setCell (Below.setCell hbw1 (by first | exact Nat.le_refl _ | exact Nat.le_succ _) _) (by first | exact Nat.le_refl _ | exact Nat.le_succ _) _) (by first | exact Nat.le_refl _ | exact Nat.le_succ _) _)) (first
    | (refine step_app_dir rfl (.tmp 10) (.tmp 12) rfl E1 (by simp) (HG.out _ (al1 W _).drew) ha (by omega) rfl rfl ?_; intro a1 n1 c1 W1 ho1 hg1; have hbw1 : Below W.heap.size W W1 := (al1 W _).drew.grown hg1 (by simp) (fun j hj => (E1.blk j hj).1))
    | (refine step_app_dir rfl (.tmp 10) (.tmp 12) rfl E2 (by simp; omega) (HG.out _ (al2 W _ _).drew) ha (by omega) rfl rfl ?_; intro a1 n1 c1 W1 ho1 hg1; have hbw1 : Below W.heap.size W W1 := (al2 W _ _).drew.grown hg1 (by simp; omega) (fun j hj => (E2.blk j hj).1); have hxb := (hg1.block (W.heap.size + 1) (by simp) (by simp [Value.ownBlock])).trans X2; obtain ⟨q0, q1, q2, q3, q4, q5⟩ := cells3 hxb)
    | (refine step_app_dir rfl (.tmp 10) (.tmp 12) rfl E3 (by simp; omega) (HG.out _ (al2 W _ _).drew) ha (by omega) rfl rfl ?_; intro a1 n1 c1 W1 ho1 hg1; have hbw1 : Below W.heap.size W W1 := (al2 W _ _).drew.grown hg1 (by simp; omega) (fun j hj => (E3.blk j hj).1); have hxb := (hg1.block W.heap.size (by simp; omega) (by simp [Value.ownBlock])).trans X3; obtain ⟨q0, q1, q2, q3, q4, q5⟩ := cells3 hxb))
  all_goals
    obtain ⟨bs, hbs⟩ : ∃ bs, bs = W.heap.size := ⟨_, rfl⟩
    have hbw : W.heap.size ≤ bs := Nat.le_of_eq hbs.symm
    have HRZ := hide hr0
    have HRW := hide (HR.out.later HB0.out)
    clear HR
    have HR := hide HRW.out
    clear HRW
    clear hg0 hr0 HS0 S1 HOW E1 E2 E3 X2 X3 HG hg1
    first
      | (have HGB : Hid (GBox (((W1.setCell ⟨W.heap.size + 1, 0, none⟩ (.slice a1 n1 c1)).setCell ⟨W.heap.size + 1, 1, none⟩ (.int .i64 g.last)).setCell ⟨W.heap.size + 1, 2, none⟩ (.int .i64 g.code)) bs (W.heap.size + 1) g) := hide (by rw [hbs]; exact GBox.set hxb ho1)
         have HBf : Hid (Below W.heap.size W (((W1.setCell ⟨W.heap.size + 1, 0, none⟩ (.slice a1 n1 c1)).setCell ⟨W.heap.size + 1, 1, none⟩ (.int .i64 g.last)).setCell ⟨W.heap.size + 1, 2, none⟩ (.int .i64 g.code))) := hide ((Below.setCell (Below.setCell (Below.setCell hbw1 (by exact Nat.le_succ _) _) (by exact Nat.le_succ _) _) (by exact Nat.le_succ _) _))
         have hbB : bs ≤ W.heap.size + 1 := by rw [hbs]; exact Nat.le_succ _
         clear hbs
         generalize ((W1.setCell ⟨W.heap.size + 1, 0, none⟩ (.slice a1 n1 c1)).setCell ⟨W.heap.size + 1, 1, none⟩ (.int .i64 g.last)).setCell ⟨W.heap.size + 1, 2, none⟩ (.int .i64 g.code) = Wf at HGB HBf ⊢
         generalize W.heap.size + 1 = B at HGB hbB ⊢)
      | (have HGB : Hid (GBox (((W1.setCell ⟨W.heap.size, 0, none⟩ (.slice a1 n1 c1)).setCell ⟨W.heap.size, 1, none⟩ (.int .i64 g.last)).setCell ⟨W.heap.size, 2, none⟩ (.int .i64 g.code)) bs (W.heap.size) g) := hide (by rw [hbs]; exact GBox.set hxb ho1)
         have HBf : Hid (Below W.heap.size W (((W1.setCell ⟨W.heap.size, 0, none⟩ (.slice a1 n1 c1)).setCell ⟨W.heap.size, 1, none⟩ (.int .i64 g.last)).setCell ⟨W.heap.size, 2, none⟩ (.int .i64 g.code))) := hide ((Below.setCell (Below.setCell (Below.setCell hbw1 (by exact Nat.le_refl _) _) (by exact Nat.le_refl _) _) (by exact Nat.le_refl _) _))
         have hbB : bs ≤ W.heap.size := by rw [hbs]; exact Nat.le_refl _
         clear hbs
         generalize ((W1.setCell ⟨W.heap.size, 0, none⟩ (.slice a1 n1 c1)).setCell ⟨W.heap.size, 1, none⟩ (.int .i64 g.last)).setCell ⟨W.heap.size, 2, none⟩ (.int .i64 g.code) = Wf at HGB HBf ⊢
         generalize W.heap.size = B at HGB hbB ⊢)
      | (have HGB : Hid (GBox (W1.alloc (.cells #[.slice a1 n1 c1, .int .i64 g.last, .int .i64 g.code] 26)) bs (W1.heap.size) g) := hide (by rw [hbs]; exact GBox.new ho1)
         have HBf : Hid (Below W.heap.size W (W1.alloc (.cells #[.slice a1 n1 c1, .int .i64 g.last, .int .i64 g.code] 26))) := hide (hbw1.alloc hbw1.size _)
         have hbB : bs ≤ W1.heap.size := by rw [hbs]; exact hbw1.size
         clear hbs
         generalize W1.alloc (.cells #[.slice a1 n1 c1, .int .i64 g.last, .int .i64 g.code] 26) = Wf at HGB HBf ⊢
         generalize W1.heap.size = B at HGB hbB ⊢)
    clear ho1 hbw1
    rename_i hH
    clear hH
    try clear q0 q1 q2 q3 q4 q5 hxb
  all_goals
    go_wp2
    go_loopw [6] (fun i wr => ∃ (k : Nat) (x : GroupV), k ≤ m ∧ i = .int .i64 k ∧ Hid (regL g (xs.take k) = x) ∧ Hid (GBox wr bs B x) ∧ Hid (Below W.heap.size W wr)) (fun i _ => m - (nI i).toNat)
    case atStart => exact ⟨0, g, by omega, rfl, hide rfl, HGB, HBf⟩
    case round =>
      clear HGB HBf
      obtain ⟨k, x, hk, rfl, HX, HG, HB⟩ := hrel
      obtain ⟨da, dn, dc, hbx, hdo⟩ := HG.out
      have HBX := hide hbx
      have HDO := hide hdo
      obtain ⟨d0, d1, d2, f0, f1, f2⟩ := cells3 hbx
      have hBl : B < wr.heap.size := (Array.getElem?_eq_some_iff.1 hbx).1
      have hbsw : bs ≤ wr.heap.size := by omega
      clear hbx hdo HG
      by_cases hlt : k < m
      · have hkf : k < xs.length := by omega
        by_cases hc : x.code = 0
        · have tc := ieq _ _ hc
          obtain ⟨bb, off, rfl, hbw2, e0, e1, e2, e3, e4, e5, e6, e7, e8⟩ := pl_cells (HR.out.later HB.out) k hkf
          have HE : Hid (regL g (xs.take (k + 1)) = stepG (xs.take k) x (xs[k])) := hide (by rw [regL_succ g xs k hkf, HX.out])
          have hfz := HF.out (xs[k]) (List.getElem_mem hkf)
          obtain ⟨z, hz⟩ : ∃ z, xs[k] = z := ⟨_, rfl⟩
          rw [hz] at e0 e1 e2 e3 e4 e5 e6 e7 e8 HE hfz
          clear hz
          obtain ⟨mx, hmx⟩ : ∃ mx, max x.last z.r.batch = mx := ⟨_, rfl⟩
          obtain ⟨Wn, hWn⟩ : ∃ Wn, Wn = ((wr.setCell ⟨B, 1, none⟩ (.int .i64 mx)).alloc (.cells #[.int .i64 z.r.kind, .int .i64 z.r.batch, .string z.r.key, .string z.r.val, .int .i64 z.r.cnt, .int .i64 z.r.sum] 35)).alloc (.cells #[] 37) := ⟨_, rfl⟩
          rw [hc] at HBX d2
          have hst := reg_start HBX.out HDO.out HB.out hbw hbB (.int .i64 mx) z.r hWn
          have HBX1 := hide hst.1
          have HDO1 := hide hst.2.1
          have HB1 := hide hst.2.2.1
          have HRC1 := hide hst.2.2.2.1
          have hBn : B < Wn.heap.size := hst.2.2.2.2
          have hc' := hide hc
          have hdl : x.dir.length ≤ 20 + n := by
            have := regL_dir g xs k (by rw [HX.out]; exact hc)
            rw [HX.out, hxl] at this
            exact this
          clear hst hc HBX HDO HB
          by_cases h3 : z.r.kind = 3
          · have t3 := ieq _ _ h3
            have HOF := hide (specOf_any Wn _ m cap' xs (HR.out.later HB1.out) hm k (by omega) z.r.batch)
            have HLO : Hid ((ofB (xs.take k) z.r.batch).length ≤ 1048576) := hide (by have := ofB_len (xs.take k) z.r.batch; rw [List.length_take] at this; omega)
            obtain ⟨own, hown⟩ : ∃ own, ofB (xs.take k) z.r.batch = own := ⟨_, rfl⟩
            have HPF : Hid (PFits own) := hide (HF.out.sub (fun p hp => by rw [← hown] at hp; exact List.mem_of_mem_take (ofB_mem _ _ p hp)))
            obtain ⟨fb, hfb⟩ : ∃ fb, fitsP z.r own = fb := ⟨_, rfl⟩
            have HFIT : Hid (fb = true → stepG (xs.take k) x z = fitG x own mx) := hide (fun h => by rw [stepG_seal hc'.out h3, hown, hfb, h, if_pos rfl, hmx])
            have HNOF : Hid (fb = false → stepG (xs.take k) x z = ⟨x.dir, mx, 0⟩) := hide (fun h => by rw [stepG_seal hc'.out h3, hown, hfb, h, if_neg (by simp), hmx])
            rw [hown] at HOF HLO
            have HL2 : Hid (B < Wn.heap.size) := hide hBn
            clear hown h3
            go_wp2_with fail
            rw [← hWn]
            clear hWn hmx
            refine HOF.out.mono ?_
            rintro e w2 ⟨⟨a2, n2, c2, rfl, ho2⟩, hb2⟩
            have hn2 := ho2.len
            have HSO2 := hide ho2
            have HBX2 := hide ((hb2.block B hBn).trans HBX1.out)
            have HDO2 := hide (HDO1.out.later hb2 (Nat.le_refl _))
            have hrc2 := (hb2.block _ (Array.getElem?_eq_some_iff.1 HRC1.out).1).trans HRC1.out
            obtain ⟨s0, s1, s2, s3, s4, s5⟩ := cells6s hrc2
            have HB2 := hide (HB1.out.trans (hb2.mono HB1.out.size))
            have HFF := hide (specFits_any w2 a2 n2 c2 own ho2.row HPF.out (by rw [← hn2]; exact HLO.out) z.r)
            rw [hfb] at HFF
            have hBn2 : B < w2.heap.size := Nat.lt_of_lt_of_le hBn hb2.size
            clear ho2 hb2 HOF hfb HBX1 HDO1 HB1 HRC1 hrc2
            obtain ⟨l2, hl2⟩ : ∃ l2, Wn.heap.size = l2 := ⟨_, rfl⟩
            rw [hl2] at HSO2 hBn
            have hBl2' : B < l2 := hBn
            clear hl2
            go_wp2_with fail
            refine HFF.out.mono ?_
            rintro e w3 ⟨rfl, hb3⟩
            have HSO3 := hide (HSO2.out.later hb3 (Nat.le_refl _))
            have hbx3 := (hb3.block B hBn2).trans HBX2.out
            obtain ⟨d0', d1', d2', f0', f1', f2'⟩ := cells3 hbx3
            have HBX3 := hide hbx3
            have HDO3 := hide (HDO2.out.later hb3 (Nat.le_refl _))
            have HB3 := hide (HB2.out.trans (hb3.mono HB2.out.size))
            clear hb3 HFF HSO2 HBX2 HDO2 HB2 hbx3 s0 s1 s2 s3 s4 s5
            clear d0 d1 d2 f0 f1 f2 e0 e1 e2 e3 e4 e5 e6 e7 e8
            cases fb with
            | false =>
              have HGN : Hid (GBox w3 bs B ⟨x.dir, mx, 0⟩) := hide ⟨da, dn, dc, HBX3.out, HDO3.out⟩
              have HS := hide (HNOF.out rfl)
              clear HBX3 HDO3
              go_wp2
              go_roundw
              case rel => exact ⟨k + 1, _, by omega, by go_num, hide (by rw [HE.out]; exact HS.out), HGN, HB3⟩
              case measure => first | (simp [nI]; done) | (simp [nI]; omega)
            | true =>

              have HSTEP := hide (HFIT.out rfl)
              have HG3 : Hid (GBox w3 bs B ⟨x.dir, mx, 0⟩) := hide ⟨da, dn, dc, HBX3.out, HDO3.out⟩
              clear HBX3 HDO3
              go_wp2
              go_loopw [9] (fun i2 wr2 => ∃ j : Nat, j ≤ n2 ∧ i2 = .int .i64 j ∧ Hid (GBox wr2 bs B ⟨behindP x.dir (own.take j), mx, 0⟩) ∧ Hid (plSh.Own 37 wr2 l2 (.slice a2 n2 c2) own) ∧ Hid (Below W.heap.size W wr2)) (fun i2 _ => n2 - (nI i2).toNat)
              case atStart => exact ⟨0, by omega, rfl, HG3, HSO3, HB3⟩
              case round =>
                clear HG3 HSO3 HB3
                obtain ⟨j, hj, rfl, HG, HSO, HB⟩ := hrel
                obtain ⟨ea, en, ec, hbx, hdo⟩ := HG.out
                have HBX := hide hbx
                have HDO : Hid (entSh.Own 59 wr bs (.slice ea en ec) (behindP x.dir (own.take j))) := hide hdo
                obtain ⟨g0, g1, g2, q0, q1, q2⟩ := cells3 hbx
                have hBl2 : B < wr.heap.size := (Array.getElem?_eq_some_iff.1 hbx).1
                have hol := HSO.out.len
                have hel : (behindP x.dir (own.take j)).length = en := hdo.len
                have hbl := behindP_len (own.take j) x.dir
                rw [List.length_take] at hbl
                have hlo := HLO.out
                clear hbx hdo HG
                by_cases hlt2 : j < n2
                · have hjf : j < own.length := by omega
                  have HE2 : Hid (behindP x.dir (own.take (j + 1)) = putP (behindP x.dir (own.take j)) (own[j])) := hide (behindP_succ x.dir own j hjf)
                  obtain ⟨b3, o3, rfl, hb3l, p0, p1, p2, p3, p4, p5, p6, p7, p8⟩ := pl_cells HSO.out.row j hjf
                  obtain ⟨v, hv⟩ : ∃ v, own[j] = v := ⟨_, rfl⟩
                  obtain ⟨ys, hys⟩ : ∃ ys, behindP x.dir (own.take j) = ys := ⟨_, rfl⟩
                  rw [hv] at p0 p1 p2 p3 p4 p5 p6 p7 p8 HE2
                  rw [hys] at HE2 HDO hel hbl
                  clear hv hys
                  have HP := hide (specPutP_any wr.drew ea en ec ys v (HDO.out.later (Below.refl wr.heap.size wr).drew (Nat.le_refl _)).row (by omega))
                  go_wp2
                  go_region_with (go_at_call 31; refine HP.out.mono ?_; rintro e w5 ⟨⟨a5, n5, c5, rfl, ho5⟩, hb5⟩; have HB5 := hide ((Below.refl wr.heap.size wr).drew.trans hb5); have hbx5 := (HB5.out.block B hBl2).trans HBX.out; obtain ⟨k0, k1, k2, k3, k4, k5⟩ := cells3 hbx5; have HBX5 := hide hbx5; have HO5 := hide ho5; clear ho5 hb5 hbx5)
                  all_goals
                    have hne5 := hide (ent_off HO5.out HBX5.out (by decide))
                    have HGN : Hid (GBox (w5.setCell ⟨B, 0, none⟩ (.slice a5 n5 c5)) bs B ⟨behindP x.dir (own.take (j + 1)), mx, 0⟩) := hide ⟨a5, n5, c5, box0_set HBX5.out, by rw [HE2.out]; exact (HO5.out.mono (by have := HB5.out.size; exact Nat.le_of_lt (Nat.lt_of_le_of_lt hbB hBl2))).setNe ⟨B, 0, none⟩ _ hne5.out⟩
                    have HSON := hide ((HSO.out.later HB5.out (Nat.le_refl _)).setCell ⟨B, 0, none⟩ (.slice a5 n5 c5) hBl2')
                    have HBN : Hid (Below W.heap.size W (w5.setCell ⟨B, 0, none⟩ (.slice a5 n5 c5))) := hide (Below.setCell (HB.out.trans (HB5.out.mono HB.out.size)) (by exact Nat.le_trans hbw hbB) _)
                    clear HP HO5 HBX5 HDO HBX HSO HB HB5 hne5
                    go_wp2
                    go_roundw
                    case rel => exact ⟨j + 1, by omega, by go_num, HGN, HSON, HBN⟩
                    case measure => first | (simp [nI]; done) | (simp [nI]; omega)
                · obtain rfl : j = n2 := by omega
                  have HT : Hid (own.take j = own) := hide (List.take_of_length_le (by omega))
                  rw [HT.out] at HDO hel hbl
                  by_cases h20 : 20 < en
                  · have t20 : decide ((20 : Int) < (en : Int)) = true := by simp; omega
                    have HY : Hid (fitG x own mx = ⟨behindP x.dir own, mx, 2⟩) := hide (by unfold fitG; rw [if_pos (by omega)])
                    have HGN : Hid (GBox (wr.setCell ⟨B, 2, none⟩ (.int .i64 2)) bs B ⟨behindP x.dir own, mx, 2⟩) := hide ⟨ea, en, ec, box2_set HBX.out, HDO.out.setNe ⟨B, 2, none⟩ _ (ent_off HDO.out HBX.out (by decide))⟩
                    have HBN : Hid (Below W.heap.size W (wr.setCell ⟨B, 2, none⟩ (.int .i64 2))) := hide (Below.setCell HB.out (by exact Nat.le_trans hbw hbB) _)
                    clear h20 hbl hel
                    go_wp2
                    go_roundw
                    case rel => exact ⟨k + 1, _, by omega, by go_num, hide (by rw [HE.out, HSTEP.out]; exact HY.out), HGN, HBN⟩
                    case measure => first | (simp [nI]; done) | (simp [nI]; omega)
                  · have t20 : decide ((20 : Int) < (en : Int)) = false := by simp; omega
                    have HY : Hid (fitG x own mx = ⟨behindP x.dir own, mx, 0⟩) := hide (by unfold fitG; rw [if_neg (by omega)])
                    have HGN : Hid (GBox wr bs B ⟨behindP x.dir own, mx, 0⟩) := hide ⟨ea, en, ec, HBX.out, HDO.out⟩
                    clear h20 hbl hel
                    go_wp2
                    go_roundw
                    case rel => exact ⟨k + 1, _, by omega, by go_num, hide (by rw [HE.out, HSTEP.out]; exact HY.out), HGN, HB⟩
                    case measure => first | (simp [nI]; done) | (simp [nI]; omega)
          · have t3 := ine _ _ h3
            by_cases h5 : z.r.kind = 5
            · have t5 := ieq _ _ h5
              have HOF := hide (specKept_any Wn _ m cap' xs (HR.out.later HB1.out) hm k (by omega))
              have HLO : Hid ((keptP (xs.take k)).length ≤ 1048576) := hide (by have := keptP_len (xs.take k); rw [List.length_take] at this; omega)
              obtain ⟨own, hown⟩ : ∃ own, keptP (xs.take k) = own := ⟨_, rfl⟩
              have HPF : Hid (PFits own) := hide (HF.out.sub (fun p hp => by rw [← hown] at hp; exact List.mem_of_mem_take (keptP_mem _ p hp)))
              obtain ⟨fb, hfb⟩ : ∃ fb, fitsP z.r own = fb := ⟨_, rfl⟩
              have HFIT : Hid (fb = true → stepG (xs.take k) x z = fitG x own mx) := hide (fun h => by rw [stepG_mark hc'.out h5, hown, hfb, h, if_pos rfl, hmx])
              have HNOF : Hid (fb = false → stepG (xs.take k) x z = ⟨x.dir, mx, 1⟩) := hide (fun h => by rw [stepG_mark hc'.out h5, hown, hfb, h, if_neg (by simp), hmx])
              rw [hown] at HOF HLO
              have HL2 : Hid (B < Wn.heap.size) := hide hBn
              clear hown h5
              go_wp2_with fail
              rw [← hWn]
              clear hWn hmx
              refine HOF.out.mono ?_
              rintro e w2 ⟨⟨a2, n2, c2, rfl, ho2⟩, hb2⟩
              have hn2 := ho2.len
              have HSO2 := hide ho2
              have HBX2 := hide ((hb2.block B hBn).trans HBX1.out)
              have HDO2 := hide (HDO1.out.later hb2 (Nat.le_refl _))
              have hrc2 := (hb2.block _ (Array.getElem?_eq_some_iff.1 HRC1.out).1).trans HRC1.out
              obtain ⟨s0, s1, s2, s3, s4, s5⟩ := cells6s hrc2
              have HB2 := hide (HB1.out.trans (hb2.mono HB1.out.size))
              have HFF := hide (specFits_any w2 a2 n2 c2 own ho2.row HPF.out (by rw [← hn2]; exact HLO.out) z.r)
              rw [hfb] at HFF
              have hBn2 : B < w2.heap.size := Nat.lt_of_lt_of_le hBn hb2.size
              clear ho2 hb2 HOF hfb HBX1 HDO1 HB1 HRC1 hrc2
              obtain ⟨l2, hl2⟩ : ∃ l2, Wn.heap.size = l2 := ⟨_, rfl⟩
              rw [hl2] at HSO2 hBn
              have hBl2' : B < l2 := hBn
              clear hl2
              go_wp2_with fail
              refine HFF.out.mono ?_
              rintro e w3 ⟨rfl, hb3⟩
              have HSO3 := hide (HSO2.out.later hb3 (Nat.le_refl _))
              have hbx3 := (hb3.block B hBn2).trans HBX2.out
              obtain ⟨d0', d1', d2', f0', f1', f2'⟩ := cells3 hbx3
              have HBX3 := hide hbx3
              have HDO3 := hide (HDO2.out.later hb3 (Nat.le_refl _))
              have HB3 := hide (HB2.out.trans (hb3.mono HB2.out.size))
              clear hb3 HFF HSO2 HBX2 HDO2 HB2 hbx3 s0 s1 s2 s3 s4 s5
              clear d0 d1 d2 f0 f1 f2 e0 e1 e2 e3 e4 e5 e6 e7 e8
              cases fb with
              | false =>
                have HGN : Hid (GBox (w3.setCell ⟨B, 2, none⟩ (.int .i64 1)) bs B ⟨x.dir, mx, 1⟩) := hide ⟨da, dn, dc, box2_set HBX3.out, HDO3.out.setNe ⟨B, 2, none⟩ _ (ent_off HDO3.out HBX3.out (by decide))⟩
                have HBN : Hid (Below W.heap.size W (w3.setCell ⟨B, 2, none⟩ (.int .i64 1))) := hide (Below.setCell HB3.out (by exact Nat.le_trans hbw hbB) _)
                have HS := hide (HNOF.out rfl)
                clear HBX3 HDO3 HB3
                go_wp2
                go_roundw
                case rel => exact ⟨k + 1, _, by omega, by go_num, hide (by rw [HE.out]; exact HS.out), HGN, HBN⟩
                case measure => first | (simp [nI]; done) | (simp [nI]; omega)
              | true =>

                have HSTEP := hide (HFIT.out rfl)
                have HG3 : Hid (GBox w3 bs B ⟨x.dir, mx, 0⟩) := hide ⟨da, dn, dc, HBX3.out, HDO3.out⟩
                clear HBX3 HDO3
                go_wp2
                go_loopw [9] (fun i2 wr2 => ∃ j : Nat, j ≤ n2 ∧ i2 = .int .i64 j ∧ Hid (GBox wr2 bs B ⟨behindP x.dir (own.take j), mx, 0⟩) ∧ Hid (plSh.Own 37 wr2 l2 (.slice a2 n2 c2) own) ∧ Hid (Below W.heap.size W wr2)) (fun i2 _ => n2 - (nI i2).toNat)
                case atStart => exact ⟨0, by omega, rfl, HG3, HSO3, HB3⟩
                case round =>
                  clear HG3 HSO3 HB3
                  obtain ⟨j, hj, rfl, HG, HSO, HB⟩ := hrel
                  obtain ⟨ea, en, ec, hbx, hdo⟩ := HG.out
                  have HBX := hide hbx
                  have HDO : Hid (entSh.Own 59 wr bs (.slice ea en ec) (behindP x.dir (own.take j))) := hide hdo
                  obtain ⟨g0, g1, g2, q0, q1, q2⟩ := cells3 hbx
                  have hBl2 : B < wr.heap.size := (Array.getElem?_eq_some_iff.1 hbx).1
                  have hol := HSO.out.len
                  have hel : (behindP x.dir (own.take j)).length = en := hdo.len
                  have hbl := behindP_len (own.take j) x.dir
                  rw [List.length_take] at hbl
                  have hlo := HLO.out
                  clear hbx hdo HG
                  by_cases hlt2 : j < n2
                  · have hjf : j < own.length := by omega
                    have HE2 : Hid (behindP x.dir (own.take (j + 1)) = putP (behindP x.dir (own.take j)) (own[j])) := hide (behindP_succ x.dir own j hjf)
                    obtain ⟨b3, o3, rfl, hb3l, p0, p1, p2, p3, p4, p5, p6, p7, p8⟩ := pl_cells HSO.out.row j hjf
                    obtain ⟨v, hv⟩ : ∃ v, own[j] = v := ⟨_, rfl⟩
                    obtain ⟨ys, hys⟩ : ∃ ys, behindP x.dir (own.take j) = ys := ⟨_, rfl⟩
                    rw [hv] at p0 p1 p2 p3 p4 p5 p6 p7 p8 HE2
                    rw [hys] at HE2 HDO hel hbl
                    clear hv hys
                    have HP := hide (specPutP_any wr.drew ea en ec ys v (HDO.out.later (Below.refl wr.heap.size wr).drew (Nat.le_refl _)).row (by omega))
                    go_wp2
                    go_region_with (go_at_call 31; refine HP.out.mono ?_; rintro e w5 ⟨⟨a5, n5, c5, rfl, ho5⟩, hb5⟩; have HB5 := hide ((Below.refl wr.heap.size wr).drew.trans hb5); have hbx5 := (HB5.out.block B hBl2).trans HBX.out; obtain ⟨k0, k1, k2, k3, k4, k5⟩ := cells3 hbx5; have HBX5 := hide hbx5; have HO5 := hide ho5; clear ho5 hb5 hbx5)
                    all_goals
                      have hne5 := hide (ent_off HO5.out HBX5.out (by decide))
                      have HGN : Hid (GBox (w5.setCell ⟨B, 0, none⟩ (.slice a5 n5 c5)) bs B ⟨behindP x.dir (own.take (j + 1)), mx, 0⟩) := hide ⟨a5, n5, c5, box0_set HBX5.out, by rw [HE2.out]; exact (HO5.out.mono (by have := HB5.out.size; exact Nat.le_of_lt (Nat.lt_of_le_of_lt hbB hBl2))).setNe ⟨B, 0, none⟩ _ hne5.out⟩
                      have HSON := hide ((HSO.out.later HB5.out (Nat.le_refl _)).setCell ⟨B, 0, none⟩ (.slice a5 n5 c5) hBl2')
                      have HBN : Hid (Below W.heap.size W (w5.setCell ⟨B, 0, none⟩ (.slice a5 n5 c5))) := hide (Below.setCell (HB.out.trans (HB5.out.mono HB.out.size)) (by exact Nat.le_trans hbw hbB) _)
                      clear HP HO5 HBX5 HDO HBX HSO HB HB5 hne5
                      go_wp2
                      go_roundw
                      case rel => exact ⟨j + 1, by omega, by go_num, HGN, HSON, HBN⟩
                      case measure => first | (simp [nI]; done) | (simp [nI]; omega)
                  · obtain rfl : j = n2 := by omega
                    have HT : Hid (own.take j = own) := hide (List.take_of_length_le (by omega))
                    rw [HT.out] at HDO hel hbl
                    by_cases h20 : 20 < en
                    · have t20 : decide ((20 : Int) < (en : Int)) = true := by simp; omega
                      have HY : Hid (fitG x own mx = ⟨behindP x.dir own, mx, 2⟩) := hide (by unfold fitG; rw [if_pos (by omega)])
                      have HGN : Hid (GBox (wr.setCell ⟨B, 2, none⟩ (.int .i64 2)) bs B ⟨behindP x.dir own, mx, 2⟩) := hide ⟨ea, en, ec, box2_set HBX.out, HDO.out.setNe ⟨B, 2, none⟩ _ (ent_off HDO.out HBX.out (by decide))⟩
                      have HBN : Hid (Below W.heap.size W (wr.setCell ⟨B, 2, none⟩ (.int .i64 2))) := hide (Below.setCell HB.out (by exact Nat.le_trans hbw hbB) _)
                      clear h20 hbl hel
                      go_wp2
                      go_roundw
                      case rel => exact ⟨k + 1, _, by omega, by go_num, hide (by rw [HE.out, HSTEP.out]; exact HY.out), HGN, HBN⟩
                      case measure => first | (simp [nI]; done) | (simp [nI]; omega)
                    · have t20 : decide ((20 : Int) < (en : Int)) = false := by simp; omega
                      have HY : Hid (fitG x own mx = ⟨behindP x.dir own, mx, 0⟩) := hide (by unfold fitG; rw [if_neg (by omega)])
                      have HGN : Hid (GBox wr bs B ⟨behindP x.dir own, mx, 0⟩) := hide ⟨ea, en, ec, HBX.out, HDO.out⟩
                      clear h20 hbl hel
                      go_wp2
                      go_roundw
                      case rel => exact ⟨k + 1, _, by omega, by go_num, hide (by rw [HE.out, HSTEP.out]; exact HY.out), HGN, HB⟩
                      case measure => first | (simp [nI]; done) | (simp [nI]; omega)
            · have t5 := ine _ _ h5
              have HS := hide (stepG_rest (pre := xs.take k) hc'.out h3 h5)
              rw [hmx] at HS
              have HGN : Hid (GBox Wn bs B ⟨x.dir, mx, 0⟩) := hide ⟨da, dn, dc, HBX1.out, HDO1.out⟩
              rw [hWn] at HGN HB1
              have HWE : Hid (((wr.setCell ⟨B, 1, none⟩ (.int .i64 mx)).alloc (.cells #[.int .i64 z.r.kind, .int .i64 z.r.batch, .string z.r.key, .string z.r.val, .int .i64 z.r.cnt, .int .i64 z.r.sum] 35)).alloc (.cells #[] 37) = ((wr.setCell ⟨B, 1, none⟩ (.int .i64 mx)).alloc (.cells #[.int .i64 z.r.kind, .int .i64 z.r.batch, .string z.r.key, .string z.r.val, .int .i64 z.r.cnt, .int .i64 z.r.sum] 35)).alloc (.cells #[] 37)) := hide rfl
              clear h3 h5 hWn HBX1 HDO1 HRC1 HWE
              go_wp2
              try rw [hmx]
              go_roundw
              case rel => exact ⟨k + 1, _, by omega, by go_num, hide (by rw [HE.out]; exact HS.out), HGN, HB1⟩
              case measure => first | (simp [nI]; done) | (simp [nI]; omega)
        · have tc := ine _ _ hc
          have HV := hide (regF_stuck g xs k x HX.out hc)
          clear hc
          have hrz := (HB.out.block _ (Array.getElem?_eq_some_iff.1 HRZ.out).1).trans HRZ.out
          obtain ⟨r0, r1, r2, r3, r4, r5⟩ := cells3 hrz
          have hrb : w.heap.size + 1 < bs := Nat.lt_of_lt_of_le (Array.getElem?_eq_some_iff.1 HRZ.out).1 hbw
          have HRR := hide hrb
          clear hrz
          go_wp2
          refine bodyPost_ret (v := .agg #[.slice da dn dc, .int .i64 x.last, .int .i64 x.code]) (by simp [results, Tryz.results8, go_sem, *]) rfl ?_
          refine ⟨⟨da, dn, dc, by rw [HV.out], ?_⟩, ?_⟩
          · rw [HV.out]
            exact ((((HDO.out).setCell ⟨w.heap.size + 1, 0, none⟩ _ HRR.out).setCell ⟨w.heap.size + 1, 1, none⟩ _ HRR.out).setCell ⟨w.heap.size + 1, 2, none⟩ _ HRR.out).mono (Nat.le_of_lt (Nat.lt_trans (Nat.lt_succ_self _) HRR.out))
          · exact Below.setCell (Below.setCell (Below.setCell (HB0.out.trans (HB.out.mono HB0.out.size)) (by exact Nat.le_succ _) _) (by exact Nat.le_succ _) _) (by exact Nat.le_succ _) _
      · obtain rfl : k = m := by omega
        have HV := hide (regF_end g xs k x (by omega) HX.out)
        by_cases hc : x.code = 0
        · have tc := ieq _ _ hc
          have HKP := hide (specKept_any wr b k cap' xs (HR.out.later HB.out) hm k (Nat.le_refl _))
          rw [List.take_of_length_le (by omega)] at HKP
          rw [hc] at HBX d2
          go_wp2_with fail
          refine HKP.out.mono ?_
          rintro e w2 ⟨⟨a2, n2, c2, rfl, ho2⟩, hb2⟩
          have hn2 := ho2.len
          have HBX2 := hide ((hb2.block B hBl).trans HBX.out)
          have HDO2 := hide (HDO.out.later hb2 (Nat.le_refl _))
          have HB2 := hide (HB.out.trans (hb2.mono HB.out.size))
          clear ho2 hb2 HKP d0 d1 d2 f0 f1 f2 HBX HDO HB
          obtain ⟨d0, d1, d2, f0, f1, f2⟩ := cells3 HBX2.out
          by_cases hk2 : keptP xs = []
          · obtain rfl : n2 = 0 := by rw [hk2] at hn2; simp at hn2; omega
            have HV2 : Hid (regF g xs = ⟨x.dir, x.last, 0⟩) := hide (by
              rw [HV.out]
              unfold endG
              rw [if_neg (fun q => q.2 hk2)]
              cases x
              simp only at hc
              rw [hc])
            clear HV
            have HV := hide HV2.out
            clear HV2 hk2 hc hn2
            have hrz := (HB2.out.block _ (Array.getElem?_eq_some_iff.1 HRZ.out).1).trans HRZ.out
            obtain ⟨r0, r1, r2, r3, r4, r5⟩ := cells3 hrz
            have hrb : w.heap.size + 1 < bs := Nat.lt_of_lt_of_le (Array.getElem?_eq_some_iff.1 HRZ.out).1 hbw
            have HRR := hide hrb
            clear hrz
            go_wp2
            refine bodyPost_ret (v := .agg #[.slice da dn dc, .int .i64 x.last, .int .i64 0]) (by simp [results, Tryz.results8, go_sem, *]) rfl ?_
            refine ⟨⟨da, dn, dc, by rw [HV.out], ?_⟩, ?_⟩
            · rw [HV.out]
              exact ((((HDO2.out).setCell ⟨w.heap.size + 1, 0, none⟩ _ HRR.out).setCell ⟨w.heap.size + 1, 1, none⟩ _ HRR.out).setCell ⟨w.heap.size + 1, 2, none⟩ _ HRR.out).mono (Nat.le_of_lt (Nat.lt_trans (Nat.lt_succ_self _) HRR.out))
            · exact Below.setCell (Below.setCell (Below.setCell (HB0.out.trans (HB2.out.mono HB0.out.size)) (by exact Nat.le_succ _) _) (by exact Nat.le_succ _) _) (by exact Nat.le_succ _) _
          · have hl0 : ¬ (keptP xs).length = 0 := fun q => hk2 (List.eq_nil_of_length_eq_zero q)
            have t2 : 0 < n2 := by omega
            have HV2 : Hid (regF g xs = ⟨x.dir, x.last, 1⟩) := hide (by
              rw [HV.out]
              unfold endG
              rw [if_pos ⟨hc, hk2⟩])
            clear HV
            have HV := hide HV2.out
            have hne : w.heap.size + 1 ≠ B := by
              have := (Array.getElem?_eq_some_iff.1 HRZ.out).1
              omega
            have HHB : Hid (W.heap.size ≤ B) := hide (Nat.le_trans hbw hbB)
            have HOE := hide (HDO2.out.setNe ⟨B, 2, none⟩ (.int .i64 1) (ent_off HDO2.out HBX2.out (by decide)))
            have HBE : Hid (Below W.heap.size W (w2.setCell ⟨B, 2, none⟩ (.int .i64 1))) := hide (Below.setCell HB2.out (by exact HHB.out) _)
            clear HV2 hk2 hc hn2 hl0
            have hrz := (HB2.out.block _ (Array.getElem?_eq_some_iff.1 HRZ.out).1).trans HRZ.out
            obtain ⟨r0, r1, r2, r3, r4, r5⟩ := cells3 hrz
            have hrb : w.heap.size + 1 < bs := Nat.lt_of_lt_of_le (Array.getElem?_eq_some_iff.1 HRZ.out).1 hbw
            have HRR := hide hrb
            clear hrz
            go_wp2
            refine bodyPost_ret (v := .agg #[.slice da dn dc, .int .i64 x.last, .int .i64 1]) (by simp [results, Tryz.results8, go_sem, *]) rfl ?_
            refine ⟨⟨da, dn, dc, by rw [HV.out], ?_⟩, ?_⟩
            · rw [HV.out]
              exact ((((HOE.out).setCell ⟨w.heap.size + 1, 0, none⟩ _ HRR.out).setCell ⟨w.heap.size + 1, 1, none⟩ _ HRR.out).setCell ⟨w.heap.size + 1, 2, none⟩ _ HRR.out).mono (Nat.le_of_lt (Nat.lt_trans (Nat.lt_succ_self _) HRR.out))
            · exact Below.setCell (Below.setCell (Below.setCell (HB0.out.trans (HBE.out.mono HB0.out.size)) (by exact Nat.le_succ _) _) (by exact Nat.le_succ _) _) (by exact Nat.le_succ _) _
        · have tc := ine _ _ hc
          have HV2 : Hid (regF g xs = x) := hide (by
            rw [HV.out]
            unfold endG
            rw [if_neg (fun q => hc q.1)])
          clear HV
          have HV := hide HV2.out
          clear hc HV2
          have hrz := (HB.out.block _ (Array.getElem?_eq_some_iff.1 HRZ.out).1).trans HRZ.out
          obtain ⟨r0, r1, r2, r3, r4, r5⟩ := cells3 hrz
          have hrb : w.heap.size + 1 < bs := Nat.lt_of_lt_of_le (Array.getElem?_eq_some_iff.1 HRZ.out).1 hbw
          have HRR := hide hrb
          clear hrz
          go_wp2
          refine bodyPost_ret (v := .agg #[.slice da dn dc, .int .i64 x.last, .int .i64 x.code]) (by simp [results, Tryz.results8, go_sem, *]) rfl ?_
          refine ⟨⟨da, dn, dc, by rw [HV.out], ?_⟩, ?_⟩
          · rw [HV.out]
            exact ((((HDO.out).setCell ⟨w.heap.size + 1, 0, none⟩ _ HRR.out).setCell ⟨w.heap.size + 1, 1, none⟩ _ HRR.out).setCell ⟨w.heap.size + 1, 2, none⟩ _ HRR.out).mono (Nat.le_of_lt (Nat.lt_trans (Nat.lt_succ_self _) HRR.out))
          · exact Below.setCell (Below.setCell (Below.setCell (HB0.out.trans (HB.out.mono HB0.out.size)) (by exact Nat.le_succ _) _) (by exact Nat.le_succ _) _) (by exact Nat.le_succ _) _

end Go.Proofs.YtphbinkkgmlnmaaGreatDoor
