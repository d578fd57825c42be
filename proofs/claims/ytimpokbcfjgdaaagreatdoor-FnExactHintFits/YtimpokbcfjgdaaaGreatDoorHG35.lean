/-
  (*waiting).take at a seal and at a mark; take at whatever record. append at a row of ints of the call's own, however long. Which batches are sealed, place by place. impl.Sealed.
-/
import Derived.Test.YtimpokbcfjgdaaaGreatDoorHMTakeI
import Derived.Test.YtimpokbcfjgdaaaGreatDoorHG24
import Derived.Maps.AppendAt
import Derived.Test.YtimpokbcfjgdaaaGreatDoorHG19
namespace Go.Proofs.YtimpokbcfjgdaaaGreatDoor
open Go.RowKit Go.Maps
open Plain

/-- The table stands below. -/
theorem STab.keep {w w' : World} {K : Nat} (h : STab w) (hb : Below K w w') (hK : 2 < K) : STab w' := by
  unfold STab Lib.TabIs World.var? at *
  simp only [gSum, Option.bind_some] at h ⊢
  rw [hb.block _ hK]
  exact h
/-- 'delete(w.batches, b)' as one step of a statement whose order is open. -/
theorem step_delete {ops : Array Oper} {o : Oper} {act : Act} {K : Act → World → Prop} {Q : Exit → Act → World → Prop} {E : Prop} (hgd : o.guard = none) (m x : Operand)
    (ho : o.op = .call { callee := .builtin .delete, args := #[m, x], argTypes := #[130, 3] }) {w : World} {base B M n : Nat} {kv : Value} {f : Int → Value} {D : DataW Unit} {pre : List PlaceV} (h : WS w base B M kv f n D pre) (b : Int) (hb : (Lit.int .i64 b).wf = true)
    (hm : act.eval m = .map (some M)) (hx : act.eval x = .int .i64 b) (hK : ∀ w2, w2.ownsMap Tryz.prog 3 rowElem M n (D.del (.int .i64 b)) → w.grownBy w2 (some M) → K (act.put o.dst (.tuple #[])) w2) :
    if Region.wanted o (yielded ops act.tmps) = true then Oper.wp Tryz.prog o act w K Q else E := by
  rw [if_pos (by simp [Region.wanted, hgd])]
  obtain ⟨w', hrun, r1, r2⟩ := h.map.drop keyLawW Tryz.underlying130 (keyOf_int_mk Tryz.underlying3 hb : keyOf Tryz.prog 3 (.int .i64 b) = some (.int .i64 b)) o.type
  unfold Oper.wp
  simp [execOp, ho, resolve, invoke, builtin, hm, hx, hrun, Result.andThen]
  exact hK w' r1 r2.grown

set_option maxRecDepth 100000 in
set_option maxHeartbeats 4000000 in
theorem take_seal (w : World) (ht : STab w) (base B : Nat) (hgb : 2 < base) (pre : List PlaceV) (p : PlaceV) (w0 : World) (hb0 : Below w0.heap.size w0 w) (hW : WSx w0 base B pre) (hbs : base ≤ w.heap.size) (hwf : (Lit.int .i64 p.r.batch).wf = true) (hn : pre.length ≤ 1048576) (hk : p.r.kind = 3) :
    Calls Tryz.prog 86 #[.pointer (some ⟨B, 0, none⟩), .agg #[.int .i64 p.seg, .int .i64 p.pos, .int .i64 p.len, .int .i64 p.r.kind, .int .i64 p.r.batch, .string p.r.key, .string p.r.val, .int .i64 p.r.cnt, .int .i64 p.r.sum]] w fun e w' => TakePost w base B w0.heap.size pre p e w' := by
  obtain ⟨W, hWd⟩ : ∃ W, W = (w.alloc (.cells #[.int .i64 p.seg, .int .i64 p.pos, .int .i64 p.len, .int .i64 p.r.kind, .int .i64 p.r.batch, .string p.r.key, .string p.r.val, .int .i64 p.r.cnt, .int .i64 p.r.sum] 45)).alloc (.cells #[.int .i64 p.r.kind, .int .i64 p.r.batch, .string p.r.key, .string p.r.val, .int .i64 p.r.cnt, .int .i64 p.r.sum] 41) := ⟨_, rfl⟩
  have HB0 : Hid (Below w.heap.size w W) := hide (by rw [hWd]; exact al2 w _ _)
  have HT0 : Hid (TB w W p) := hide (by rw [hWd]; exact TB.new w p)
  obtain ⟨M, kv, f, n, D, hS0⟩ := hW
  have hML := hS0.mlt
  have HSW := hide ((hS0.later hb0).later HB0.out)
  have HSTab := hide (ht.later HB0.out)
  obtain ⟨c0, c1, f0, f1⟩ := cellsB HSW.out.box
  obtain ⟨r0, r1, r2, r3, r4, r5⟩ := cells6 HT0.out.rc
  have t1 := ine p.r.kind 1 (by omega)
  have t2 := ine p.r.kind 2 (by omega)
  have t3 := ieq p.r.kind 3 hk
  have t4 := ine p.r.kind 4 (by omega)
  have HK := hide hk
  have hlk1 := lookup_row HSW.out p.r.batch hwf
  have hlk1d : (Instr.lookup 130 (.map (some M)) (.int .i64 p.r.batch) false).run Tryz.prog W.drew = .ok (f p.r.batch) W.drew := lookup_row (HSW.out.later (Below.refl W.heap.size W).drew) p.r.batch hwf
  have HSD := hide ((HSW.out.later (Below.refl W.heap.size W).drew).later (Below.refl W.drew.heap.size W.drew).drew)
  have HPS : Hid (∀ W1, W1.ownsMap Tryz.prog 3 rowElem M n (D.del (.int .i64 p.r.batch)) → W.drew.drew.grownBy W1 (some M) → WSx W1 base B (pre ++ [p]) ∧ plSh.Own 45 W1 base (f p.r.batch) (ofB pre p.r.batch) ∧ KeepT base w0.heap.size w W1 ∧ TB w W1 p ∧ STab W1) := hide (fun W1 hm hg => by
    obtain ⟨s1, s2⟩ := HSD.out.seal HK.out hm hg
    have hWs : base ≤ W.drew.drew.heap.size := Nat.le_trans hbs HB0.out.size
    obtain ⟨es, clock, hmm⟩ := HSD.out.mheap
    have hTl := HT0.out.lt
    have hMn : M ≠ w.heap.size ∧ M ≠ w.heap.size + 1 := by
      constructor
      · intro e
        have h1 := HT0.out.pl
        rw [← e] at h1
        rw [show W.drew.drew.heap[M]? = W.heap[M]? from rfl, h1] at hmm
        cases hmm
      · intro e
        have h1 := HT0.out.rc
        rw [← e] at h1
        rw [show W.drew.drew.heap[M]? = W.heap[M]? from rfl, h1] at hmm
        cases hmm
    have k1 : KeepT base w0.heap.size W.drew.drew W1 := KeepT.of_grown hg hWs (fun r e => by cases e; exact HSD.out.hM) (fun r e => by cases e; exact hML) (fun r cs t fr e hh => by
      cases e
      rw [hmm] at hh
      cases hh)
    refine ⟨⟨_, _, _, _, _, s1⟩, s2, (KeepT.of_below HB0.out.drew.drew hbs).trans k1, ⟨(hg.block _ (show w.heap.size < W.heap.size by omega) (fun e => by injection e with e; exact hMn.1 e.symm)).trans HT0.out.pl, (hg.block _ (show w.heap.size + 1 < W.heap.size from hTl) (fun e => by injection e with e; exact hMn.2 e.symm)).trans HT0.out.rc⟩, ht.keep ((KeepT.of_below (L := w0.heap.size) HB0.out.drew.drew hbs).trans k1).1 hgb⟩)
  have HLN := hide (ofB_len pre p.r.batch)
  clear hk hS0
  go_enter Tryz.func86, Tryz.ntmps86
  go_wp2
  rw [← hWd]
  clear hWd
  go_region
  go_wp2
  go_region_law (refine step_delete rfl (.tmp 55) (.tmp 57) rfl HSD.out p.r.batch hwf rfl rfl ?_; intro W1 hm1 hg1)
  all_goals
    obtain ⟨hs1, ho1, hk1, htb1, hst1⟩ := HPS.out W1 hm1 hg1
    have HS1 := hide hs1
    have HO1 := hide ho1
    have HK1 := hide hk1
    have HTB1 := hide htb1
    have HST1 := hide hst1
    have HSZ1 : Hid (w.heap.size ≤ W1.heap.size) := hide (by have h1 := htb1.lt; omega)
    obtain ⟨fa, fc, hfv⟩ : ∃ a cap, f p.r.batch = .slice a (ofB pre p.r.batch).length cap := by
      rcases ho1.2 with ⟨e, h0⟩ | ⟨g, c, cur, e, _⟩
      · exact ⟨none, 0, by rw [e, h0]⟩
      · exact ⟨_, _, e⟩
    rw [hfv] at HO1
    rw [hfv]
    clear hs1 ho1 hk1 htb1 hst1 hm1 hg1 hlk1 hlk1d HPS HSD HSW HSTab c0 c1 f0 f1 r0 r1 r2 r3 r4 r5 hfv
    obtain ⟨r0, r1, r2, r3, r4, r5⟩ := cells6 HTB1.out.rc
    have HFI := hide (implFits_any W1 HST1.out fa _ fc _ HO1.out.row (Nat.le_trans HLN.out hn) p.r)
    obtain ⟨ln, hln⟩ : ∃ ln, (ofB pre p.r.batch).length = ln := ⟨_, rfl⟩
    obtain ⟨fb, hfb⟩ : ∃ fb, fitsP p.r (ofB pre p.r.batch) = fb := ⟨_, rfl⟩
    have HQ : Hid (∀ W2, Below W1.heap.size W1 W2 → TakePost w base B w0.heap.size pre p (.returned (.tuple #[.slice fa ln fc, .bool fb])) W2) := hide (fun W2 hb => by
      have e1 : takeP pre p = ofB pre p.r.batch := by unfold takeP; rw [if_pos HK.out]
      have e2 : takeB pre p = fb := by unfold takeB; rw [if_pos HK.out, hfb]
      refine ⟨⟨fa, fc, by rw [e1, e2, hln], ?_⟩, HS1.out.later hb, HK1.out.trans (KeepT.of_below hb (Nat.le_trans hbs HSZ1.out))⟩
      rw [e1]
      exact HO1.out.later hb (Nat.le_refl _))
    rw [hln, hfb] at HFI
    rw [hln]
    clear hln hfb HO1 HS1 HK1 HTB1 HST1
    go_wp2_with fail
    refine HFI.out.mono ?_
    rintro e W2 ⟨rfl, hb2⟩
    have HQ2 := hide (HQ.out W2 hb2)
    clear hb2 HFI HQ
    go_wp2
    refine bodyPost_ret (v := .tuple #[.slice fa ln fc, .bool fb]) (by simp [results, Tryz.results86, go_sem]) rfl ?_
    exact HQ2.out

set_option maxRecDepth 100000 in
set_option maxHeartbeats 4000000 in
theorem take_mark (w : World) (ht : STab w) (base B : Nat) (hgb : 2 < base) (pre : List PlaceV) (p : PlaceV) (w0 : World) (hb0 : Below w0.heap.size w0 w) (hW : WSx w0 base B pre) (hbs : base ≤ w.heap.size) (hn : pre.length ≤ 1048576) (hk : p.r.kind = 5) :
    Calls Tryz.prog 86 #[.pointer (some ⟨B, 0, none⟩), .agg #[.int .i64 p.seg, .int .i64 p.pos, .int .i64 p.len, .int .i64 p.r.kind, .int .i64 p.r.batch, .string p.r.key, .string p.r.val, .int .i64 p.r.cnt, .int .i64 p.r.sum]] w fun e w' => TakePost w base B w0.heap.size pre p e w' := by
  obtain ⟨W, hWd⟩ : ∃ W, W = (w.alloc (.cells #[.int .i64 p.seg, .int .i64 p.pos, .int .i64 p.len, .int .i64 p.r.kind, .int .i64 p.r.batch, .string p.r.key, .string p.r.val, .int .i64 p.r.cnt, .int .i64 p.r.sum] 45)).alloc (.cells #[.int .i64 p.r.kind, .int .i64 p.r.batch, .string p.r.key, .string p.r.val, .int .i64 p.r.cnt, .int .i64 p.r.sum] 41) := ⟨_, rfl⟩
  have HB0 : Hid (Below w.heap.size w W) := hide (by rw [hWd]; exact al2 w _ _)
  have HT0 : Hid (TB w W p) := hide (by rw [hWd]; exact TB.new w p)
  obtain ⟨M, kv, f, n, D, hS0⟩ := hW
  have hBl := hS0.blt
  have hBlw := Nat.lt_of_lt_of_le hBl hb0.size
  have hML := hS0.mlt
  have HSW := hide ((hS0.later hb0).later HB0.out)
  obtain ⟨c0, c1, f0, f1⟩ := cellsB HSW.out.box
  have HK := hide hk
  have HPS : Hid (∀ W1, Below W.heap.size W W1 → WSx (W1.setCell ⟨B, 1, none⟩ (.slice none 0 0)) base B (pre ++ [p]) ∧ plSh.Own 45 (W1.setCell ⟨B, 1, none⟩ (.slice none 0 0)) base kv (keptP pre) ∧ KeepT base w0.heap.size w (W1.setCell ⟨B, 1, none⟩ (.slice none 0 0)) ∧ TB w (W1.setCell ⟨B, 1, none⟩ (.slice none 0 0)) p ∧ STab (W1.setCell ⟨B, 1, none⟩ (.slice none 0 0))) := hide (fun W1 hb => by
    have hS1 := HSW.out.later hb
    obtain ⟨s1, s2⟩ := hS1.mark HK.out
    have hb1 := HB0.out.trans (hb.mono HB0.out.size)
    have k1 : KeepT base w0.heap.size W1 (W1.setCell ⟨B, 1, none⟩ (.slice none 0 0)) := KeepT.of_grown (grown_setW W1 B 1 _) (Nat.le_trans hbs hb1.size) (fun r e => by cases e; exact hS1.hB) (fun r e => by cases e; exact hBl) (fun r cs t fr e hh => .inr (by
      cases e
      rw [hS1.box] at hh
      cases hh
      rfl))
    have k2 := (KeepT.of_below hb1 hbs).trans k1
    exact ⟨⟨_, _, _, _, _, s1⟩, s2, k2, (HT0.out.later hb).grown (grown_setW W1 B 1 _) (fun r e => .inl (by cases e; exact Nat.lt_of_lt_of_le hBl hb0.size)), ht.keep k2.1 hgb⟩)
  have HLN := hide (keptP_len pre)
  obtain ⟨fa, fc, hfv⟩ : ∃ a cap, kv = .slice a (keptP pre).length cap := by
    rcases hS0.kown.2 with ⟨e, h0⟩ | ⟨g, c, cur, e, _⟩
    · exact ⟨none, 0, by rw [e, h0]⟩
    · exact ⟨_, _, e⟩
  have t1 := ine p.r.kind 1 (by omega)
  have t2 := ine p.r.kind 2 (by omega)
  have t3 := ine p.r.kind 3 (by omega)
  have t4 := ine p.r.kind 4 (by omega)
  have t5 := ieq p.r.kind 5 hk
  clear hk hS0 HSW
  rw [hfv] at c1 HPS
  rw [hWd] at c0 c1 f0 f1
  have HWE : Hid (((w.alloc (.cells #[.int .i64 p.seg, .int .i64 p.pos, .int .i64 p.len, .int .i64 p.r.kind, .int .i64 p.r.batch, .string p.r.key, .string p.r.val, .int .i64 p.r.cnt, .int .i64 p.r.sum] 45)).alloc (.cells #[.int .i64 p.r.kind, .int .i64 p.r.batch, .string p.r.key, .string p.r.val, .int .i64 p.r.cnt, .int .i64 p.r.sum] 41)).setCell ⟨B, 1, none⟩ (.slice none 0 0) = ((w.setCell ⟨B, 1, none⟩ (.slice none 0 0)).alloc (.cells #[.int .i64 p.seg, .int .i64 p.pos, .int .i64 p.len, .int .i64 p.r.kind, .int .i64 p.r.batch, .string p.r.key, .string p.r.val, .int .i64 p.r.cnt, .int .i64 p.r.sum] 45)).alloc (.cells #[.int .i64 p.r.kind, .int .i64 p.r.batch, .string p.r.key, .string p.r.val, .int .i64 p.r.cnt, .int .i64 p.r.sum] 41)) := hide (by
    have h1 : B < w.heap.size + 1 := by omega
    simp [go_sem, hBlw, h1])
  clear hfv
  go_enter Tryz.func86, Tryz.ntmps86
  go_wp2_with fail
  rw [← HWE.out, ← hWd]
  clear hWd c0 c1 f0 f1 HWE
  have HP1 := HPS.out W (Below.refl _ _)
  have HSZ1 : Hid (w.heap.size ≤ (W.setCell ⟨B, 1, none⟩ (.slice none 0 0)).heap.size) := hide (by have h1 := HP1.2.2.2.1.lt; omega)
  obtain ⟨W1, hW1⟩ : ∃ W1, W1 = W.setCell ⟨B, 1, none⟩ (.slice none 0 0) := ⟨_, rfl⟩
  rw [← hW1] at HP1 HSZ1 ⊢
  clear hW1 HPS
  have HS1 := hide HP1.1
  have HO1 := hide HP1.2.1
  have HK1 := hide HP1.2.2.1
  have HTB1 := hide HP1.2.2.2.1
  have HST1 := hide HP1.2.2.2.2
  clear HP1
  have HFI := hide (implFits_any W1 HST1.out fa _ fc _ HO1.out.row (Nat.le_trans HLN.out hn) p.r)
  obtain ⟨ln, hln⟩ : ∃ ln, (keptP pre).length = ln := ⟨_, rfl⟩
  obtain ⟨fb, hfb⟩ : ∃ fb, fitsP p.r (keptP pre) = fb := ⟨_, rfl⟩
  have HQ : Hid (∀ W2, Below W1.heap.size W1 W2 → TakePost w base B w0.heap.size pre p (.returned (.tuple #[.slice fa ln fc, .bool fb])) W2) := hide (fun W2 hb => by
    have e1 : takeP pre p = keptP pre := by unfold takeP; rw [if_neg (by rw [HK.out]; decide), if_pos HK.out]
    have e2 : takeB pre p = fb := by unfold takeB; rw [if_neg (by rw [HK.out]; decide), if_pos HK.out, hfb]
    refine ⟨⟨fa, fc, by rw [e1, e2, hln], ?_⟩, HS1.out.later hb, HK1.out.trans (KeepT.of_below hb (Nat.le_trans hbs HSZ1.out))⟩
    rw [e1]
    exact HO1.out.later hb (Nat.le_refl _))
  rw [hln, hfb] at HFI
  rw [hln]
  clear hln hfb HO1 HS1 HK1 HTB1 HST1
  refine HFI.out.mono ?_
  rintro e W2 ⟨rfl, hb2⟩
  have HQ2 := hide (HQ.out W2 hb2)
  clear hb2 HFI HQ
  go_wp2
  refine bodyPost_ret (v := .tuple #[.slice fa ln fc, .bool fb]) (by simp [results, Tryz.results86, go_sem]) rfl ?_
  exact HQ2.out

set_option maxHeartbeats 400000 in
/-- take at whatever record. -/
theorem take_any (w : World) (ht : STab w) (base B : Nat) (hgb : 2 < base) (pre : List PlaceV) (p : PlaceV) (w0 : World) (hb0 : Below w0.heap.size w0 w) (hW : WSx w0 base B pre) (hbs : base ≤ w.heap.size) (hwf : (Lit.int .i64 p.r.batch).wf = true) (hn : pre.length ≤ 1048576) :
    Calls Tryz.prog 86 #[.pointer (some ⟨B, 0, none⟩), .agg #[.int .i64 p.seg, .int .i64 p.pos, .int .i64 p.len, .int .i64 p.r.kind, .int .i64 p.r.batch, .string p.r.key, .string p.r.val, .int .i64 p.r.cnt, .int .i64 p.r.sum]] w fun e w' => TakePost w base B w0.heap.size pre p e w' := by
  by_cases h1 : p.r.kind = 1
  · exact take_put w base B pre p w0 hb0 hW hbs hwf hn (.inl h1)
  by_cases h2 : p.r.kind = 2
  · exact take_put w base B pre p w0 hb0 hW hbs hwf hn (.inr h2)
  by_cases h3 : p.r.kind = 3
  · exact take_seal w ht base B hgb pre p w0 hb0 hW hbs hwf hn h3
  by_cases h4 : p.r.kind = 4
  · exact take_keep w base B pre p w0 hb0 hW hbs hn h4
  by_cases h5 : p.r.kind = 5
  · exact take_mark w ht base B hgb pre p w0 hb0 hW hbs hn h5
  exact take_other w base B pre p w0 hb0 hW hbs h1 h2 h3 h4 h5

end Go.Proofs.YtimpokbcfjgdaaaGreatDoor
namespace Go.Proofs.YtimpokbcfjgdaaaGreatDoor
open Go.RowKit
open Plain

/-- 'out = append(out, z)': the row behind it, and what has turned. -/
theorem wpList_app_int {ops : Array Oper} {rest : List Oper} {o : Oper} {act : Act} {Q : Exit → Act → World → Prop} (hgd : o.guard = none) (s x : Operand)
    (ho : o.op = .call { callee := .builtin .append, args := #[s, x], argTypes := #[84, 84] }) {w : World} {base : Nat} {v : Value} {xs : List Int} (z : Int) (hown : IOwn w base v xs) (hb : base ≤ w.heap.size) (hn : xs.length ≤ 1099511627775)
    {Wp : World} (hWp : Wp = w.alloc (.cells #[.int .i64 z] 3)) (hs : act.eval s = v) (hx : act.eval x = .slice (some ⟨w.heap.size, 0, none⟩) 1 1)
    (h : ∀ a' n' cap' w', n' = xs.length + 1 → IOwn w' base (.slice a' n' cap') (xs ++ [z]) → w.grownBy w' v.ownBlock → wpList Tryz.prog ops Q rest (act.put o.dst (.slice a' n' cap')) w') :
    wpList Tryz.prog ops Q (o :: rest) act Wp := by
  subst hWp
  obtain ⟨i0, hi, hz0, hz1, hz2⟩ := info_parts Tryz.info3
  have hA : Below w.heap.size w (w.alloc (.cells #[.int .i64 z] 3)) := (Below.refl _ _).alloc (Nat.le_refl _) _
  have hgA : w.grownBy (w.alloc (.cells #[.int .i64 z] 3)) v.ownBlock := ⟨hA.os, hA.tape, hA.output, hA.size, fun k hk _ => hA.block k hk⟩
  have ho1 : (w.alloc (.cells #[.int .i64 z] 3)).ownsRow base 3 1 v xs.length (xs.map (Value.int .i64)) := IOwn.later hown hA (Nat.le_refl _)
  refine wpList_append_own (P := Tryz.prog) (w.alloc (.cells #[.int .i64 z] 3)) hgd s x 84 ho base 3 i0 _ 1 8 Tryz.underlying84 hi hz0 hz1 hz2 rfl (by decide) v xs.length _ hs ho1 ⟨w.heap.size, 0, none⟩ 1 1 [.int .i64 z] hx rfl (fun j u h => ?_) (fun u hu => by simp at hu; subst hu; rfl) (by unfold maxLen; omega) (by omega) (Nat.le_trans hb hA.size) ?_
  · rw [addr_add, Nat.zero_add, cell_of_row _ _ _ _ _ _ (heap_alloc_new w _)]
    simpa using h
  · intro v' w' ho' hg _
    have hval : ∃ a' cap', v' = .slice a' (xs.length + 1) cap' := by
      rcases ho'.2 with ⟨e, h0⟩ | ⟨g, cap, cur, e, _⟩
      · exact ⟨none, 0, by rw [e, h0]⟩
      · exact ⟨_, _, e⟩
    obtain ⟨a', cap', rfl⟩ := hval
    refine h a' _ cap' w' rfl ?_ ⟨hg.os.trans hgA.os, hg.tape.trans hgA.tape, hg.output.trans hgA.output, Nat.le_trans hgA.size hg.size, fun i hi hr => (hg.block i (Nat.lt_of_lt_of_le hi hgA.size) hr).trans (hgA.block i hi hr)⟩
    unfold IOwn
    rw [List.length_append, List.map_append]
    exact ho'
theorem IOwn.nil (w : World) (base : Nat) : IOwn w base (.slice none 0 0) [] := ⟨rfl, .inl ⟨rfl, rfl⟩⟩
theorem IOwn.empty (w : World) : IOwn (w.alloc (.cells #[] 3)) w.heap.size (.slice (some ⟨w.heap.size, 0, none⟩) 0 0) [] :=
  ⟨rfl, .inr ⟨w.heap.size, 0, #[], rfl, Nat.le_refl _, heap_alloc_new w _, Nat.le_refl _, by unfold maxLen; omega, by simp, by simp⟩⟩

end Go.Proofs.YtimpokbcfjgdaaaGreatDoor
namespace Go.Proofs.YtimpokbcfjgdaaaGreatDoor
open Go.RowKit
open Plain

theorem sealF_no {l : List PlaceV} {k : Nat} (h : k < l.length) (hn : ¬ ((l[k]).r.kind = 3 ∧ fitsP (l[k]).r (ofB (l.take k) (l[k]).r.batch) = true)) : sealF (l.take (k + 1)) = sealF (l.take k) := by rw [sealF_succ l k h, if_neg hn]
theorem sealF_yes {l : List PlaceV} {k : Nat} (h : k < l.length) (h3 : (l[k]).r.kind = 3) (hf : fitsP (l[k]).r (ofB (l.take k) (l[k]).r.batch) = true) : sealF (l.take (k + 1)) = sealF (l.take k) ++ [(l[k]).r.batch] := by rw [sealF_succ l k h, if_pos ⟨h3, hf⟩]
theorem sealF_len (l : List PlaceV) : ∀ k, (sealF (l.take k)).length ≤ k := by
  intro k
  induction k with
  | zero => exact Nat.le_refl _
  | succ k ih =>
    by_cases h : k < l.length
    · rw [sealF_succ l k h]
      split
      · rw [List.length_append, List.length_singleton]; omega
      · omega
    · rw [List.take_of_length_le (by omega)]
      rw [List.take_of_length_le (by omega)] at ih
      omega

end Go.Proofs.YtimpokbcfjgdaaaGreatDoor
namespace Go.Proofs.YtimpokbcfjgdaaaGreatDoor
open Go.RowKit Go.Maps
open Plain

/-- Nothing waits at first. -/
theorem WSx.start (w : World) : WSx ((w.alloc (.map #[] 0)).alloc (.cells #[.map (some w.heap.size), .slice none 0 0] 132)) w.heap.size (w.heap.size + 1) [] := by
  have hm : (w.alloc (.map #[] 0)).ownsMap Tryz.prog 3 rowElem w.heap.size 0 (.map []) := World.ownsMap_made w _ _ _
  refine ⟨w.heap.size, .slice none 0 0, fun _ => .slice none 0 0, 0, .map [], ?_, by omega, Nat.le_refl _, hm.alloc _, Nat.le_refl _, fun _ => rfl, fun _ => Shape.Own.nil plSh 45 _ _, Shape.Own.nil plSh 45 _ _, fun _ _ _ => .inl rfl, fun _ => .inl rfl⟩
  have h := heap_alloc_new (w.alloc (.map #[] 0)) (.cells #[.map (some w.heap.size), .slice none 0 0] 132)
  rw [World.size_alloc] at h
  exact h
theorem STab.lt {w : World} (h : STab w) : 2 < w.heap.size := by
  have h0 := h.at 0 (by omega)
  rcases Nat.lt_or_ge 2 w.heap.size with h' | h'
  · exact h'
  · simp [World.cell?, Array.getElem?_eq_none h'] at h0
theorem iown_heap {w : World} {base g : Nat} {v : Value} {zs : List Int} (h : IOwn w base v zs) (hg : v.ownBlock = some g) : ∃ cur, w.heap[g]? = some (.cells cur 3 (0, 0)) := by
  rcases h.2 with ⟨e, _⟩ | ⟨g', c, cur, e, _, hg', _⟩
  · rw [e] at hg; cases hg
  · rw [e] at hg
    cases hg
    exact ⟨cur, hg'⟩
theorem own_keepT {w w' : World} {base base' L : Nat} {v : Value} {zs : List Int} (h : IOwn w base v zs) (hk : KeepT base' L w w') : IOwn w' base v zs := by
  refine ⟨h.1, ?_⟩
  rcases h.2 with h1 | ⟨g, c, cur, e, hbg, hg, h1⟩
  · exact .inl h1
  · exact .inr ⟨g, c, cur, e, hbg, hk.2.1 g _ _ _ hg (by decide) (by decide), h1⟩

end Go.Proofs.YtimpokbcfjgdaaaGreatDoor
