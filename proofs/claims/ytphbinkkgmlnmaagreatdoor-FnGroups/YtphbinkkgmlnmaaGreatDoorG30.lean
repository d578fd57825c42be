/-
  append at a row of ints of the call's own, however long. Which batches are sealed, place by place. impl.Sealed.
-/
import Derived.Test.YtphbinkkgmlnmaaGreatDoorG21
import Derived.Maps.AppendAt
import Derived.Test.YtphbinkkgmlnmaaGreatDoorG13
import Derived.Test.YtphbinkkgmlnmaaGreatDoorMTakeS
namespace Go.Proofs.YtphbinkkgmlnmaaGreatDoor
open Go.RowKit
open Plain

/-- 'out = append(out, z)': the row behind it, and what has turned. -/
theorem wpList_app_int {ops : Array Oper} {rest : List Oper} {o : Oper} {act : Act} {Q : Exit → Act → World → Prop} (hgd : o.guard = none) (s x : Operand)
    (ho : o.op = .call { callee := .builtin .append, args := #[s, x], argTypes := #[32, 32] }) {w : World} {base : Nat} {v : Value} {xs : List Int} (z : Int) (hown : IOwn w base v xs) (hb : base ≤ w.heap.size) (hn : xs.length ≤ 1099511627775)
    {Wp : World} (hWp : Wp = w.alloc (.cells #[.int .i64 z] 3)) (hs : act.eval s = v) (hx : act.eval x = .slice (some ⟨w.heap.size, 0, none⟩) 1 1)
    (h : ∀ a' n' cap' w', n' = xs.length + 1 → IOwn w' base (.slice a' n' cap') (xs ++ [z]) → w.grownBy w' v.ownBlock → wpList Tryz.prog ops Q rest (act.put o.dst (.slice a' n' cap')) w') :
    wpList Tryz.prog ops Q (o :: rest) act Wp := by
  subst hWp
  obtain ⟨i0, hi, hz0, hz1, hz2⟩ := info_parts Tryz.info3
  have hA : Below w.heap.size w (w.alloc (.cells #[.int .i64 z] 3)) := (Below.refl _ _).alloc (Nat.le_refl _) _
  have hgA : w.grownBy (w.alloc (.cells #[.int .i64 z] 3)) v.ownBlock := ⟨hA.os, hA.tape, hA.output, hA.size, fun k hk _ => hA.block k hk⟩
  have ho1 : (w.alloc (.cells #[.int .i64 z] 3)).ownsRow base 3 1 v xs.length (xs.map (Value.int .i64)) := IOwn.later hown hA (Nat.le_refl _)
  refine wpList_append_own (P := Tryz.prog) (w.alloc (.cells #[.int .i64 z] 3)) hgd s x 32 ho base 3 i0 _ 1 8 Tryz.underlying32 hi hz0 hz1 hz2 rfl (by decide) v xs.length _ hs ho1 ⟨w.heap.size, 0, none⟩ 1 1 [.int .i64 z] hx rfl (fun j u h => ?_) (fun u hu => by simp at hu; subst hu; rfl) (by unfold maxLen; omega) (by omega) (Nat.le_trans hb hA.size) ?_
  · rw [addr_add, Nat.zero_add, cell_of_row _ _ _ _ _ _ (heap_alloc_new w _)]
    simpa using h
  · intro v' w' ho' hg _
    have hval : ∃ a' cap', v' = .slice a' (xs.length + 1) cap' := by
      rcases ho'.2 with ⟨e, h0⟩ | ⟨g, cap, cur, e, _⟩
      · exact ⟨none, 0, by rw [e, h0]⟩
      · exact ⟨_, _, e⟩
    obtain ⟨a', cap', rfl⟩ := hval
    refine h a' _ cap' w' rfl ?_ ⟨hg.os.trans hgA.os, hg.tape.trans hgA.tape, hg.output.trans hgA.output, Nat.le_trans hgA.size hg.size, fun i hi hr => (hg.block i (Nat.lt_of_lt_of_le hi hgA.size) hr).trans (hgA.block i hi hr)⟩
    unfold IOwn
    rw [List.length_append, List.map_append]
    exact ho'
theorem IOwn.nil (w : World) (base : Nat) : IOwn w base (.slice none 0 0) [] := ⟨rfl, .inl ⟨rfl, rfl⟩⟩
theorem IOwn.empty (w : World) : IOwn (w.alloc (.cells #[] 3)) w.heap.size (.slice (some ⟨w.heap.size, 0, none⟩) 0 0) [] :=
  ⟨rfl, .inr ⟨w.heap.size, 0, #[], rfl, Nat.le_refl _, heap_alloc_new w _, Nat.le_refl _, by unfold maxLen; omega, by simp, by simp⟩⟩

end Go.Proofs.YtphbinkkgmlnmaaGreatDoor
namespace Go.Proofs.YtphbinkkgmlnmaaGreatDoor
open Go.RowKit
open Plain

theorem sealF_no {l : List PlaceV} {k : Nat} (h : k < l.length) (hn : ¬ ((l[k]).r.kind = 3 ∧ fitsP (l[k]).r (ofB (l.take k) (l[k]).r.batch) = true)) : sealF (l.take (k + 1)) = sealF (l.take k) := by rw [sealF_succ l k h, if_neg hn]
theorem sealF_yes {l : List PlaceV} {k : Nat} (h : k < l.length) (h3 : (l[k]).r.kind = 3) (hf : fitsP (l[k]).r (ofB (l.take k) (l[k]).r.batch) = true) : sealF (l.take (k + 1)) = sealF (l.take k) ++ [(l[k]).r.batch] := by rw [sealF_succ l k h, if_pos ⟨h3, hf⟩]
theorem sealF_len (l : List PlaceV) : ∀ k, (sealF (l.take k)).length ≤ k := by
  intro k
  induction k with
  | zero => exact Nat.le_refl _
  | succ k ih =>
    by_cases h : k < l.length
    · rw [sealF_succ l k h]
      split
      · rw [List.length_append, List.length_singleton]; omega
      · omega
    · rw [List.take_of_length_le (by omega)]
      rw [List.take_of_length_le (by omega)] at ih
      omega

end Go.Proofs.YtphbinkkgmlnmaaGreatDoor
namespace Go.Proofs.YtphbinkkgmlnmaaGreatDoor
open Go.RowKit Go.Maps
open Plain

/-- Nothing waits at first. -/
theorem WSx.start (w : World) : WSx ((w.alloc (.map #[] 0)).alloc (.cells #[.map (some w.heap.size), .slice none 0 0] 62)) w.heap.size (w.heap.size + 1) [] := by
  have hm : (w.alloc (.map #[] 0)).ownsMap Tryz.prog 3 rowElem w.heap.size 0 (.map []) := World.ownsMap_made w _ _ _
  refine ⟨w.heap.size, .slice none 0 0, fun _ => .slice none 0 0, 0, .map [], ?_, by omega, Nat.le_refl _, hm.alloc _, Nat.le_refl _, fun _ => rfl, fun _ => Shape.Own.nil plSh 37 _ _, Shape.Own.nil plSh 37 _ _, fun _ _ _ => .inl rfl, fun _ => .inl rfl⟩
  have h := heap_alloc_new (w.alloc (.map #[] 0)) (.cells #[.map (some w.heap.size), .slice none 0 0] 62)
  rw [World.size_alloc] at h
  exact h
theorem STab.lt {w : World} (h : STab w) : 0 < w.heap.size := by
  have h0 := h.at 0 (by omega)
  rcases Nat.lt_or_ge 0 w.heap.size with h' | h'
  · exact h'
  · simp [World.cell?, Array.getElem?_eq_none h'] at h0
theorem iown_heap {w : World} {base g : Nat} {v : Value} {zs : List Int} (h : IOwn w base v zs) (hg : v.ownBlock = some g) : ∃ cur, w.heap[g]? = some (.cells cur 3 (0, 0)) := by
  rcases h.2 with ⟨e, _⟩ | ⟨g', c, cur, e, _, hg', _⟩
  · rw [e] at hg; cases hg
  · rw [e] at hg
    cases hg
    exact ⟨cur, hg'⟩
theorem own_keepT {w w' : World} {base base' L : Nat} {v : Value} {zs : List Int} (h : IOwn w base v zs) (hk : KeepT base' L w w') : IOwn w' base v zs := by
  refine ⟨h.1, ?_⟩
  rcases h.2 with h1 | ⟨g, c, cur, e, hbg, hg, h1⟩
  · exact .inl h1
  · exact .inr ⟨g, c, cur, e, hbg, hk.2.1 g _ _ _ hg (by decide) (by decide), h1⟩

set_option maxRecDepth 100000 in
set_option maxHeartbeats 4000000 in
theorem implSealed_any (w : World) (ht : STab w) (a : Option Addr) (n cap : Nat) (xs : List PlaceV) (hr : plSh.Row w a n xs) (hf : PFits xs) (hn : n ≤ 1048576) :
    Calls Tryz.prog 10 #[.slice a n cap] w fun e w' => (∃ a' n' cap', e = .returned (.slice a' n' cap') ∧ IOwn w' w.heap.size (.slice a' n' cap') (sealF xs)) ∧ Below w.heap.size w w' := by
  have hlen := hr.len
  have HR := hide hr
  have HF := hide hf
  have HW0 := hide (WSx.start w)
  have HB0 := hide (al2 w (.map #[] 0) (.cells #[.map (some w.heap.size), .slice none 0 0] 62))
  have hmm := @run_makeMap Tryz.prog
  have HT := hide ht
  have HG : Hid (0 < w.heap.size) := hide ht.lt
  clear hr hf ht
  go_enter Tryz.func10, Tryz.ntmps10
  go_wp2
  go_loopw [4, 13] (fun v i wr => ∃ (k : Nat) (a' : Option Addr) (n' c' : Nat), k ≤ n ∧ v = .slice a' n' c' ∧ i = .int .i64 k ∧ Hid (IOwn wr w.heap.size (.slice a' n' c') (sealF (xs.take k))) ∧ Hid (WSx wr w.heap.size (w.heap.size + 1) (xs.take k)) ∧ Hid (Below w.heap.size w wr)) (fun _ i _ => n - (intOf i).toNat)
  case atStart => exact ⟨0, none, 0, 0, by omega, rfl, rfl, hide (IOwn.nil _ _), HW0, HB0⟩
  case round =>
    clear HW0 HB0 hmm
    obtain ⟨k, a', n', c', hk, rfl, rfl, HO, HW, HB⟩ := hrel
    by_cases hlt : k < n
    · have hkf : k < xs.length := by omega
      obtain ⟨b, off, rfl, hbw, e0, e1, e2, e3, e4, e5, e6, e7, e8⟩ := pl_cells (HR.out.later HB.out) k hkf
      have hsl := sealF_len xs k
      have HNO := hide (sealF_no (l := xs) (k := k) hkf)
      have HYES := hide (sealF_yes (l := xs) (k := k) hkf)
      have HTK : Hid (xs.take (k + 1) = xs.take k ++ [xs[k]]) := hide (take_snoc xs k hkf)
      have hfz := HF.out (xs[k]) (List.getElem_mem hkf)
      obtain ⟨z, hz⟩ : ∃ z, xs[k] = z := ⟨_, rfl⟩
      rw [hz] at e0 e1 e2 e3 e4 e5 e6 e7 e8 HNO HYES HTK hfz
      have hlk : (xs.take k).length ≤ 1048576 := by rw [List.length_take]; omega
      obtain ⟨pre, hpre⟩ : ∃ pre, xs.take k = pre := ⟨_, rfl⟩
      rw [hpre] at HNO HYES HTK hlk HO HW hsl
      clear hz hpre
      have HBP : Hid (Below wr.heap.size wr (wr.alloc (.cells #[.int .i64 z.seg, .int .i64 z.pos, .int .i64 z.len, .int .i64 z.r.kind, .int .i64 z.r.batch, .string z.r.key, .string z.r.val, .int .i64 z.r.cnt, .int .i64 z.r.sum] 37))) := hide (al1 wr _)
      have HTA := hide (take_any (wr.alloc (.cells #[.int .i64 z.seg, .int .i64 z.pos, .int .i64 z.len, .int .i64 z.r.kind, .int .i64 z.r.batch, .string z.r.key, .string z.r.val, .int .i64 z.r.cnt, .int .i64 z.r.sum] 37)) (HT.out.later (HB.out.trans (HBP.out.mono HB.out.size))) w.heap.size (w.heap.size + 1) HG.out pre z wr HBP.out HW.out (Nat.le_trans HB.out.size HBP.out.size) hfz.2.2 hlk)
      have HP9 : Hid (Blk9 37 (wr.alloc (.cells #[.int .i64 z.seg, .int .i64 z.pos, .int .i64 z.len, .int .i64 z.r.kind, .int .i64 z.r.batch, .string z.r.key, .string z.r.val, .int .i64 z.r.cnt, .int .i64 z.r.sum] 37)) wr.heap.size z) := hide (Blk9.new 37 wr z)
      have HBA := hide (HB.out.trans (HBP.out.mono HB.out.size))
      have HOA := hide (HO.out.later HBP.out (Nat.le_refl _))
      clear hfz HW HO HB
      go_wp2_with fail
      refine HTA.out.mono ?_
      rintro e w2 ⟨⟨ta, tc, rfl, hto⟩, hws, hkt⟩
      have HW2 := hide hws
      have HB2 := hide (HBA.out.trans hkt.1)
      have HO2 := hide (own_keepT HOA.out hkt)
      have HP2 : Hid (Blk9 37 w2 wr.heap.size z) := hide ((hkt.2.2 _ (Nat.le_refl _) HP9.out.lt).trans HP9.out)
      obtain ⟨y0, y1, y2, y3, y4, y5, y6, y7, y8⟩ := cells9 HP2.out
      rw [← HTK.out] at HW2
      obtain ⟨tb, htb⟩ : ∃ tb, takeB pre z = tb := ⟨_, rfl⟩
      rw [htb]
      clear hto hws hkt HTA HBA HOA HP9 HBP
      have HT3 : Hid (z.r.kind = 3 → fitsP z.r (ofB pre z.r.batch) = tb) := hide (fun h => by rw [← htb]; unfold takeB; rw [if_pos h])
      clear htb HTK
      cases tb with
      | true =>
        by_cases h3 : z.r.kind = 3
        · have t3 := ieq _ _ h3
          have HE := hide (HYES.out h3 (HT3.out h3))
          have hw2 : w.heap.size ≤ w2.heap.size := HB2.out.size
          clear h3 HNO HYES HT3
          go_wp2_with (at_builtin; refine wpList_app_int rfl _ _ rfl z.r.batch HO2.out hw2 (by omega) rfl rfl rfl ?_; intro a4 n4 cap4 w4 hn4 ho4 hg4; clear hn4)
          have HB4 := hide (HB2.out.grown hg4 hw2 (fun g hg => (HO2.out.blk g hg).1))
          have HW4 := hide (HW2.out.grown hg4 (fun r e => by
            obtain ⟨cur, hc⟩ := iown_heap HO2.out e
            exact ⟨_, _, _, hc, by decide, by decide⟩))
          have HO4 := hide ho4
          clear ho4 hg4 HO2 HB2 HW2
          go_roundw
          case rel => exact ⟨k + 1, a4, n4, cap4, by omega, rfl, by go_num, by rw [HE.out]; exact HO4, HW4, HB4⟩
          case measure => first | (simp [intOf]; done) | (simp [intOf]; omega)
        · have t3 := ine _ _ h3
          have HE := hide (HNO.out (fun q => h3 q.1))
          clear h3 HNO HYES HT3
          go_wp2
          go_roundw
          case rel => exact ⟨k + 1, a', n', c', by omega, rfl, by go_num, by rw [HE.out]; exact HO2, HW2, HB2⟩
          case measure => first | (simp [intOf]; done) | (simp [intOf]; omega)
      | false =>
        have HE := hide (HNO.out (fun q => by have := HT3.out q.1; rw [q.2] at this; cases this))
        clear HNO HYES HT3
        go_wp2
        go_roundw
        case rel => exact ⟨k + 1, a', n', c', by omega, rfl, by go_num, by rw [HE.out]; exact HO2, HW2, HB2⟩
        case measure => first | (simp [intOf]; done) | (simp [intOf]; omega)
    · obtain rfl : k = n := by omega
      have HT : Hid (xs.take k = xs) := hide (List.take_of_length_le (by omega))
      go_wp2
      go_ret
      exact ⟨⟨a', n', c', rfl, by have h := HO.out; rw [HT.out] at h; exact h⟩, HB.out⟩

end Go.Proofs.YtphbinkkgmlnmaaGreatDoor
