/-
  impl.Sealed.
-/
import Derived.Test.YtphbinkkgmlnmaaDoorTakeS
import Derived.Test.YtphbinkkgmlnmaaDoorG16
namespace Go.Proofs.YtphbinkkgmlnmaaDoor
open Go.RowKit Go.Maps
open Plain

/-- Nothing waits at first. -/
theorem WSx.start (w : World) : WSx ((w.alloc (.map #[] 0)).alloc (.cells #[.map (some w.heap.size), .slice none 0 0] 46)) w.heap.size (w.heap.size + 1) [] := by
  have hm : (w.alloc (.map #[] 0)).ownsMap Tryd.prog 3 rowElem w.heap.size 0 (.map []) := World.ownsMap_made w _ _ _
  refine ⟨w.heap.size, .slice none 0 0, fun _ => .slice none 0 0, 0, .map [], ?_, by omega, Nat.le_refl _, hm.alloc _, Nat.le_refl _, fun _ => rfl, fun _ => Shape.Own.nil plSh 40 _ _, Shape.Own.nil plSh 40 _ _, fun _ _ _ => .inl rfl, fun _ => .inl rfl⟩
  have h := heap_alloc_new (w.alloc (.map #[] 0)) (.cells #[.map (some w.heap.size), .slice none 0 0] 46)
  rw [World.size_alloc] at h
  exact h
theorem STab.lt {w : World} (h : STab w) : 0 < w.heap.size := by
  have h0 := h.at 0 (by omega)
  rcases Nat.lt_or_ge 0 w.heap.size with h' | h'
  · exact h'
  · simp [World.cell?, Array.getElem?_eq_none h'] at h0
theorem iown_heap {w : World} {base g : Nat} {v : Value} {zs : List Int} (h : IOwn w base v zs) (hg : v.ownBlock = some g) : ∃ cur, w.heap[g]? = some (.cells cur 3 (0, 0)) := by
  rcases h.2 with ⟨e, _⟩ | ⟨g', c, cur, e, _, hg', _⟩
  · rw [e] at hg; cases hg
  · rw [e] at hg
    cases hg
    exact ⟨cur, hg'⟩
theorem own_keepT {w w' : World} {base base' L : Nat} {v : Value} {zs : List Int} (h : IOwn w base v zs) (hk : KeepT base' L w w') : IOwn w' base v zs := by
  refine ⟨h.1, ?_⟩
  rcases h.2 with h1 | ⟨g, c, cur, e, hbg, hg, h1⟩
  · exact .inl h1
  · exact .inr ⟨g, c, cur, e, hbg, hk.2.1 g _ _ _ hg (by decide) (by decide), h1⟩

set_option maxRecDepth 100000 in
set_option maxHeartbeats 4000000 in
theorem implSealed_any (w : World) (ht : STab w) (a : Option Addr) (n cap : Nat) (xs : List PlaceV) (hr : plSh.Row w a n xs) (hf : PFits xs) (hn : n ≤ 1048576) :
    Calls Tryd.prog 7 #[.slice a n cap] w fun e w' => (∃ a' n' cap', e = .returned (.slice a' n' cap') ∧ IOwn w' w.heap.size (.slice a' n' cap') (sealF xs)) ∧ Below w.heap.size w w' := by
  have hlen := hr.len
  have HR := hide hr
  have HF := hide hf
  have HW0 := hide (WSx.start w)
  have HB0 := hide (al2 w (.map #[] 0) (.cells #[.map (some w.heap.size), .slice none 0 0] 46))
  have hmm := @run_makeMap Tryd.prog
  have HT := hide ht
  have HG : Hid (0 < w.heap.size) := hide ht.lt
  clear hr hf ht
  go_enter Tryd.func7, Tryd.ntmps7
  go_wp2
  go_loopw [4, 13] (fun v i wr => ∃ (k : Nat) (a' : Option Addr) (n' c' : Nat), k ≤ n ∧ v = .slice a' n' c' ∧ i = .int .i64 k ∧ Hid (IOwn wr w.heap.size (.slice a' n' c') (sealF (xs.take k))) ∧ Hid (WSx wr w.heap.size (w.heap.size + 1) (xs.take k)) ∧ Hid (Below w.heap.size w wr)) (fun _ i _ => n - (intOf i).toNat)
  case atStart => exact ⟨0, none, 0, 0, by omega, rfl, rfl, hide (IOwn.nil _ _), HW0, HB0⟩
  case round =>
    clear HW0 HB0 hmm
    obtain ⟨k, a', n', c', hk, rfl, rfl, HO, HW, HB⟩ := hrel
    by_cases hlt : k < n
    · have hkf : k < xs.length := by omega
      obtain ⟨b, off, rfl, hbw, e0, e1, e2, e3, e4, e5, e6, e7, e8⟩ := pl_cells (HR.out.later HB.out) k hkf
      have hsl := sealF_len xs k
      have HNO := hide (sealF_no (l := xs) (k := k) hkf)
      have HYES := hide (sealF_yes (l := xs) (k := k) hkf)
      have HTK : Hid (xs.take (k + 1) = xs.take k ++ [xs[k]]) := hide (take_snoc xs k hkf)
      have hfz := HF.out (xs[k]) (List.getElem_mem hkf)
      obtain ⟨z, hz⟩ : ∃ z, xs[k] = z := ⟨_, rfl⟩
      rw [hz] at e0 e1 e2 e3 e4 e5 e6 e7 e8 HNO HYES HTK hfz
      have hlk : (xs.take k).length ≤ 1048576 := by rw [List.length_take]; omega
      obtain ⟨pre, hpre⟩ : ∃ pre, xs.take k = pre := ⟨_, rfl⟩
      rw [hpre] at HNO HYES HTK hlk HO HW hsl
      clear hz hpre
      have HBP : Hid (Below wr.heap.size wr (wr.alloc (.cells #[.int .i64 z.seg, .int .i64 z.pos, .int .i64 z.len, .int .i64 z.r.kind, .int .i64 z.r.batch, .string z.r.key, .string z.r.val, .int .i64 z.r.cnt, .int .i64 z.r.sum] 40))) := hide (al1 wr _)
      have HTA := hide (take_any (wr.alloc (.cells #[.int .i64 z.seg, .int .i64 z.pos, .int .i64 z.len, .int .i64 z.r.kind, .int .i64 z.r.batch, .string z.r.key, .string z.r.val, .int .i64 z.r.cnt, .int .i64 z.r.sum] 40)) (HT.out.later (HB.out.trans (HBP.out.mono HB.out.size))) w.heap.size (w.heap.size + 1) HG.out pre z wr HBP.out HW.out (Nat.le_trans HB.out.size HBP.out.size) hfz.2.2 hlk)
      have HP9 : Hid (Blk9 40 (wr.alloc (.cells #[.int .i64 z.seg, .int .i64 z.pos, .int .i64 z.len, .int .i64 z.r.kind, .int .i64 z.r.batch, .string z.r.key, .string z.r.val, .int .i64 z.r.cnt, .int .i64 z.r.sum] 40)) wr.heap.size z) := hide (Blk9.new 40 wr z)
      have HBA := hide (HB.out.trans (HBP.out.mono HB.out.size))
      have HOA := hide (HO.out.later HBP.out (Nat.le_refl _))
      clear hfz HW HO HB
      go_wp2_with fail
      refine HTA.out.mono ?_
      rintro e w2 ⟨⟨ta, tc, rfl, hto⟩, hws, hkt⟩
      have HW2 := hide hws
      have HB2 := hide (HBA.out.trans hkt.1)
      have HO2 := hide (own_keepT HOA.out hkt)
      have HP2 : Hid (Blk9 40 w2 wr.heap.size z) := hide ((hkt.2.2 _ (Nat.le_refl _) HP9.out.lt).trans HP9.out)
      obtain ⟨y0, y1, y2, y3, y4, y5, y6, y7, y8⟩ := cells9 HP2.out
      rw [← HTK.out] at HW2
      obtain ⟨tb, htb⟩ : ∃ tb, takeB pre z = tb := ⟨_, rfl⟩
      rw [htb]
      clear hto hws hkt HTA HBA HOA HP9 HBP
      have HT3 : Hid (z.r.kind = 3 → fitsP z.r (ofB pre z.r.batch) = tb) := hide (fun h => by rw [← htb]; unfold takeB; rw [if_pos h])
      clear htb HTK
      cases tb with
      | true =>
        by_cases h3 : z.r.kind = 3
        · have t3 := ieq _ _ h3
          have HE := hide (HYES.out h3 (HT3.out h3))
          have hw2 : w.heap.size ≤ w2.heap.size := HB2.out.size
          clear h3 HNO HYES HT3
          go_wp2_with (at_builtin; refine wpList_app_int rfl _ _ rfl z.r.batch HO2.out hw2 (by omega) rfl rfl rfl ?_; intro a4 n4 cap4 w4 hn4 ho4 hg4; clear hn4)
          have HB4 := hide (HB2.out.grown hg4 hw2 (fun g hg => (HO2.out.blk g hg).1))
          have HW4 := hide (HW2.out.grown hg4 (fun r e => by
            obtain ⟨cur, hc⟩ := iown_heap HO2.out e
            exact ⟨_, _, _, hc, by decide, by decide⟩))
          have HO4 := hide ho4
          clear ho4 hg4 HO2 HB2 HW2
          go_roundw
          case rel => exact ⟨k + 1, a4, n4, cap4, by omega, rfl, by go_num, by rw [HE.out]; exact HO4, HW4, HB4⟩
          case measure => first | (simp [intOf]; done) | (simp [intOf]; omega)
        · have t3 := ine _ _ h3
          have HE := hide (HNO.out (fun q => h3 q.1))
          clear h3 HNO HYES HT3
          go_wp2
          go_roundw
          case rel => exact ⟨k + 1, a', n', c', by omega, rfl, by go_num, by rw [HE.out]; exact HO2, HW2, HB2⟩
          case measure => first | (simp [intOf]; done) | (simp [intOf]; omega)
      | false =>
        have HE := hide (HNO.out (fun q => by have := HT3.out q.1; rw [q.2] at this; cases this))
        clear HNO HYES HT3
        go_wp2
        go_roundw
        case rel => exact ⟨k + 1, a', n', c', by omega, rfl, by go_num, by rw [HE.out]; exact HO2, HW2, HB2⟩
        case measure => first | (simp [intOf]; done) | (simp [intOf]; omega)
    · obtain rfl : k = n := by omega
      have HT : Hid (xs.take k = xs) := hide (List.take_of_length_le (by omega))
      go_wp2
      go_ret
      exact ⟨⟨a', n', c', rfl, by have h := HO.out; rw [HT.out] at h; exact h⟩, HB.out⟩

end Go.Proofs.YtphbinkkgmlnmaaDoor
