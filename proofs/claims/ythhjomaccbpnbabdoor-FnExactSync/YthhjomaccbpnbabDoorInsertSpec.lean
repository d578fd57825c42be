/-
  spec.l3Insert: a file put into its place.
-/
import Derived.Test.YthhjomaccbpnbabDoorAppendSpec
import Derived.BigQuiet
import Derived.Deep.QuietTactic
namespace Go.Proofs.YthhjomaccbpnbabDoor
open Go.RowKit
open Plain

def insF : List FileV → FileV → List FileV
  | [], f => [f]
  | g :: r, f => if sle g.name f.name = true then g :: insF r f else f :: g :: r
theorem insF_length (fs : List FileV) (f : FileV) : (insF fs f).length = fs.length + 1 := by
  induction fs with
  | nil => rfl
  | cons g r ih =>
    unfold insF
    split
    · simp [ih]
    · simp
theorem row_one (w : World) (f : FileV) : FRow (w.alloc (.cells #[.string f.name, .string f.text, .int .i64 f.safe] 45)) 0 (some ⟨w.heap.size, 0, none⟩) 1 [f] where
  len := rfl
  cells := fun i hi => by
    have e : i = 0 := by simpa using hi
    subst e
    refine ⟨w.heap.size, 0, rfl, Nat.zero_le _, by simp, ?_, ?_, ?_⟩ <;> simp
/-- 'out = append(out, f)', out a row of the call's own: a law for the walk. -/
theorem wpList_app_one {ops : Array Oper} {rest : List Oper} {o : Oper} {act : Act} {Q : Exit → Act → World → Prop} (hgd : o.guard = none) (s x : Operand)
    (ho : o.op = .call { callee := .builtin .append, args := #[s, x], argTypes := #[26, 26] }) {w : World} {base : Nat} {v : Value} {fs : List FileV} (hown : FOwn w base v fs) (hb : base ≤ w.heap.size)
    (f : FileV) (hn : fs.length + 1 ≤ 1099511627776) (hs : act.eval s = v) (hx : act.eval x = .slice (some ⟨w.heap.size, 0, none⟩) 1 1)
    (h : ∀ a' cap' w', FOwn w' base (.slice a' (fs.length + 1) cap') (fs ++ [f]) → Below base w w' → wpList Tryd.prog ops Q rest (act.put o.dst (.slice a' (fs.length + 1) cap')) w') :
    wpList Tryd.prog ops Q (o :: rest) act (w.alloc (.cells #[.string f.name, .string f.text, .int .i64 f.safe] 45)) := by
  have hA : Below w.heap.size w (w.alloc (.cells #[.string f.name, .string f.text, .int .i64 f.safe] 45)) := (Below.refl _ _).alloc (Nat.le_refl _) _
  refine wpList_app_files hgd s x ho (hown.later hA (Nat.le_refl _)) (by simp; omega) (row_one w f) hn hs hx ?_
  intro a' n' cap' w' hn' hown' hg
  subst hn'
  refine h a' cap' w' hown' ?_
  refine (hA.mono hb).grown hg (by simp; omega) ?_
  intro k hk
  exact (hown.blk k hk).1

set_option maxRecDepth 100000 in
set_option maxHeartbeats 2000000 in
theorem specInsert_any (w : World) (a : Option Addr) (n cap : Nat) (fs : List FileV) (hr : FRow w 0 a n fs) (hn : n ≤ 1048576) (f : FileV) :
    Calls Tryd.prog 30 #[.slice a n cap, .agg #[.string f.name, .string f.text, .int .i64 f.safe]] w fun e w' => (∃ a' cap', e = .returned (.slice a' (n + 1) cap') ∧ FOwn w' w.heap.size (.slice a' (n + 1) cap') (insF fs f)) ∧ Below w.heap.size w w' := by
  have hfn := hr.len
  obtain ⟨W, hW⟩ : ∃ W, W = (w.alloc (.cells #[.string f.name, .string f.text, .int .i64 f.safe] 45)).alloc (.cells #[] 45) := ⟨_, rfl⟩
  have hA := alloc2 w (.cells #[.string f.name, .string f.text, .int .i64 f.safe] 45) (.cells #[] 45)
  rw [← hW] at hA
  have HO : Hid (FOwn W (w.heap.size + 1) (.slice (some ⟨w.heap.size + 1, 0, none⟩) 0 0) []) := hide (by
    refine ⟨rfl, .inr ⟨w.heap.size + 1, 0, #[], rfl, Nat.le_refl _, hA.2.2.2, Nat.le_refl _, by unfold maxLen; omega, rfl, rfl⟩⟩)
  have HS := hide hA.1
  have HB0 := hide hA.2.1
  have HC0 := hide hA.2.2.1
  clear hA
  have HR := hide hr
  clear hr
  go_enter Tryd.func30, Tryd.ntmps30
  go_wp2
  rw [← hW]
  clear hW
  go_loopw [5, 6, 7] (fun v dn i wr => ∃ (k : Nat) (a' : Option Addr) (cap' : Nat) (done : Bool) (gs : List FileV), k ≤ n ∧ i = .int .i64 k ∧ dn = .bool done ∧ v = .slice a' gs.length cap' ∧ Hid (gs.length ≤ k + done.toNat) ∧ Hid (if done = true then gs ++ fs.drop k = insF fs f else gs ++ insF (fs.drop k) f = insF fs f) ∧ Hid (FOwn wr (w.heap.size + 1) (.slice a' gs.length cap') gs) ∧ Hid (Below (w.heap.size + 1) W wr)) (fun _ _ i _ => n - (intOf i).toNat)
  case atStart => exact ⟨0, _, _, false, [], by omega, rfl, rfl, rfl, hide (by simp), hide (by simp), HO, hide (Below.refl _ _)⟩
  case round =>
    clear HO
    obtain ⟨k, a', cap', done, gs, hk, rfl, rfl, rfl, HL, HE, HO, HB⟩ := hrel
    have hsz : w.heap.size + 2 ≤ wr.heap.size := by have := HS.out; have := HB.out.size; omega
    have hgl : gs.length ≤ 1048577 := by have := HL.out; have : done.toNat ≤ 1 := by cases done <;> decide
                                         omega
    have HCr : Hid (wr.heap[w.heap.size]? = some (.cells #[.string f.name, .string f.text, .int .i64 f.safe] 45 (0, 0))) := hide ((HB.out.block _ (by omega)).trans HC0.out)
    have HBw : Hid (Below w.heap.size w wr) := hide (HB0.out.trans (HB.out.mono (by omega)))
    have z0 : wr.cell? ⟨w.heap.size, 0, none⟩ = some (.string f.name) := by rw [cell_of_row wr _ _ _ _ _ HCr.out]; rfl
    have z1 : wr.cell? ⟨w.heap.size, 1, none⟩ = some (.string f.text) := by rw [cell_of_row wr _ _ _ _ _ HCr.out]; rfl
    have z2 : wr.cell? ⟨w.heap.size, 2, none⟩ = some (.int .i64 f.safe) := by rw [cell_of_row wr _ _ _ _ _ HCr.out]; rfl
    by_cases hlt : k < n
    · have hkf : k < fs.length := by omega
      have hdr : fs.drop k = fs[k] :: fs.drop (k + 1) := List.drop_eq_getElem_cons hkf
      obtain ⟨b, off, rfl, -, hbw, e1, e2, e3⟩ := (HR.out.later HBw.out (Nat.le_refl _)).cells k hkf
      have hk2 : (k : Int) < (n : Int) := by omega
      cases done
      · by_cases q : sle (fs[k]).name f.name = true
        · skip
          have q' : (Op.bytesLess (fs[k]).name.toList f.name.toList || (fs[k]).name.toList == f.name.toList) = true := q
          have HE2 : Hid (if false = true then (gs ++ [fs[k]]) ++ fs.drop (k + 1) = insF fs f else (gs ++ [fs[k]]) ++ insF (fs.drop (k + 1)) f = insF fs f) := hide (by
            have h := HE.out
            rw [if_neg (by simp)] at h ⊢
            rw [hdr, insF, if_pos q] at h
            rw [← h]
            simp)
          clear hdr q
          go_wp2
          go_quiet (fail)
          have HOZ : Hid (FOwn (wr.drewN nq) (w.heap.size + 1) (.slice a' gs.length cap') gs) := HO
          go_wp2_with (at_builtin; refine wpList_app_one rfl (.tmp 31) (.tmp 36) rfl HOZ.out (by show w.heap.size + 1 ≤ wr.heap.size; omega) (fs[k]) (by omega) rfl rfl ?_; intro a3 cap3 w3 hown3 hb3)
          have HBZ : Below (w.heap.size + 1) W (wr.drewN nq) := ⟨HB.out.os, HB.out.tape, HB.out.output, HB.out.size, HB.out.block⟩
          go_roundw
          case rel => exact ⟨k + 1, a3, cap3, false, gs ++ [fs[k]], by omega, by go_num, rfl, by simp, hide (by have h := HL.out; simp at h ⊢; omega), HE2, hide (by simpa using hown3), hide (HBZ.trans hb3)⟩
          case measure => first | (simp [intOf]; done) | (simp [intOf]; omega)
        · skip
          have q' : (Op.bytesLess (fs[k]).name.toList f.name.toList || (fs[k]).name.toList == f.name.toList) = false := by
            have h : sle (fs[k]).name f.name = false := by simpa using q
            exact h
          have HE2 : Hid (if true = true then ((gs ++ [f]) ++ [fs[k]]) ++ fs.drop (k + 1) = insF fs f else ((gs ++ [f]) ++ [fs[k]]) ++ insF (fs.drop (k + 1)) f = insF fs f) := hide (by
            have h := HE.out
            rw [if_neg (by simp)] at h
            rw [if_pos rfl]
            rw [hdr, insF, if_neg q] at h
            rw [← h]
            simp)
          clear hdr q
          go_wp2
          go_quiet (fail)
          have HOZ : Hid (FOwn (wr.drewN nq) (w.heap.size + 1) (.slice a' gs.length cap') gs) := HO
          have HBZ : Below (w.heap.size + 1) W (wr.drewN nq) := ⟨HB.out.os, HB.out.tape, HB.out.output, HB.out.size, HB.out.block⟩
          go_wp2_with (at_builtin; first
            | (refine wpList_app_one rfl (.tmp 27) (.tmp 29) rfl HOZ.out (by show w.heap.size + 1 ≤ wr.heap.size; omega) f (by omega) rfl rfl ?_; intro a2 cap2 w2 hown2 hb2; obtain ⟨b', o', q0, -, -, g1, g2, g3⟩ := (HR.out.later (HB0.out.trans ((HBZ.trans hb2).mono (by omega))) (Nat.le_refl _)).cells k hkf; simp only [Option.some.injEq, Addr.mk.injEq] at q0; obtain ⟨rfl, rfl, -⟩ := q0; have hsz2 : w.heap.size + 2 ≤ w2.heap.size := Nat.le_trans hsz hb2.size; have HO2 := hide hown2; have HB2 := hide (HBZ.trans hb2); clear hown2 hb2)
            | (refine wpList_app_one (fs := gs ++ [f]) rfl (.tmp 31) (.tmp 36) rfl HO2.out (by omega) (fs[k]) (by simp; omega) rfl rfl ?_; intro a3 cap3 w3 hown3 hb3))
          go_roundw
          case rel => exact ⟨k + 1, a3, cap3, true, (gs ++ [f]) ++ [fs[k]], by omega, by go_num, rfl, by simp, hide (by have h := HL.out; simp at h ⊢; omega), hide (by have h := HE2.out; simpa using h), hide (by simpa using hown3), hide (HB2.out.trans hb3)⟩
          case measure => first | (simp [intOf]; done) | (simp [intOf]; omega)
      · skip
        have HE2 : Hid (if true = true then (gs ++ [fs[k]]) ++ fs.drop (k + 1) = insF fs f else (gs ++ [fs[k]]) ++ insF (fs.drop (k + 1)) f = insF fs f) := hide (by
          have h := HE.out
          rw [if_pos rfl] at h ⊢
          rw [hdr] at h
          rw [← h]
          simp)
        clear hdr
        go_wp2
        go_quiet (fail)
        have HOZ : Hid (FOwn (wr.drewN nq) (w.heap.size + 1) (.slice a' gs.length cap') gs) := HO
        go_wp2_with (at_builtin; refine wpList_app_one rfl (.tmp 31) (.tmp 36) rfl HOZ.out (by show w.heap.size + 1 ≤ wr.heap.size; omega) (fs[k]) (by omega) rfl rfl ?_; intro a3 cap3 w3 hown3 hb3)
        have HBZ : Below (w.heap.size + 1) W (wr.drewN nq) := ⟨HB.out.os, HB.out.tape, HB.out.output, HB.out.size, HB.out.block⟩
        go_roundw
        case rel => exact ⟨k + 1, a3, cap3, true, gs ++ [fs[k]], by omega, by go_num, rfl, by simp, hide (by have h := HL.out; simp at h ⊢; omega), HE2, hide (by simpa using hown3), hide (HBZ.trans hb3)⟩
        case measure => first | (simp [intOf]; done) | (simp [intOf]; omega)
    · obtain rfl : k = n := by omega
      have hdn : fs.drop k = [] := List.drop_eq_nil_of_le (by omega)
      cases done
      · have HV : Hid (gs ++ [f] = insF fs f) := hide (by
          have h := HE.out
          rw [if_neg (by simp), hdn] at h
          exact h)
        have HVL : Hid (gs.length + 1 = k + 1) := hide (by have := congrArg List.length HV.out; rw [insF_length] at this; simp at this; omega)
        go_wp2_with (at_builtin; refine wpList_app_one rfl (.tmp 40) (.tmp 42) rfl HO.out (by omega) f (by omega) rfl rfl ?_; intro a3 cap3 w3 hown3 hb3)
        go_ret
        refine ⟨⟨a3, cap3, by rw [← HVL.out]; rfl, ?_⟩, HB0.out.trans ((HB.out.trans hb3).mono (by omega))⟩
        rw [← HVL.out, ← HV.out]
        exact hown3.mono (by omega)
      · have HV : Hid (gs = insF fs f) := hide (by
          have h := HE.out
          rw [if_pos rfl, hdn] at h
          simpa using h)
        have HVL : Hid (gs.length = k + 1) := hide (by rw [HV.out, insF_length]; omega)
        go_wp2
        go_ret
        refine ⟨⟨a', cap', by rw [← HVL.out]; rfl, ?_⟩, HBw.out⟩
        rw [← HVL.out, ← HV.out]
        exact HO.out.mono (by omega)

end Go.Proofs.YthhjomaccbpnbabDoor
