/-
  spec.l9Put; impl.entryOf and impl.dirBehind; slices.Clone at entries. A group in a block of the call's own, read and written. spec.l9Kept.
-/
import Derived.Test.YtphbinkkgmlnmaaGreatDoorG15
import Derived.Test.YtphbinkkgmlnmaaGreatDoorG13
import Derived.Test.YtphbinkkgmlnmaaGreatDoorMDirPutS
import Derived.Test.YtphbinkkgmlnmaaGreatDoorMDirDropS
import Derived.Test.YtphbinkkgmlnmaaGreatDoorMDirPutI
import Derived.Shelf.SlicesE.Clone
namespace Go.Proofs.YtphbinkkgmlnmaaGreatDoor
open Go.RowKit Go.Shelf
open Plain

/-- slices.Clone at entries. -/
theorem cloneE_any (w : World) (a : Option Addr) (n cap : Nat) (xs : List EntV) (ha : a = none ∨ ∃ g, a = some ⟨g, 0, none⟩) (hr : entSh.Row w a n xs) (hn : n ≤ 1048576) :
    Calls Tryz.prog 25 #[.slice a n cap] w fun e w' => (∃ a' cap', e = .returned (.slice a' n cap') ∧ entSh.Own 59 w' w.heap.size (.slice a' n cap') xs) ∧ Below w.heap.size w w' := by
  have hl := hr.len
  rcases ha with rfl | ⟨g, rfl⟩
  · have hx : xs = [] := by
      cases xs with
      | nil => rfl
      | cons x r =>
        obtain ⟨b, off, e, _⟩ := hr.cells 0 (by simp)
        cases e
    subst hx
    obtain rfl : n = 0 := hl.symm
    refine (AnyE.slices_Clone_nil Tryz.laysClone 0 cap w).mono ?_
    rintro e w' ⟨rfl, rfl⟩
    exact ⟨⟨none, 0, rfl, Shape.Own.nil entSh 59 _ _⟩, Below.refl _ _⟩
  · obtain ⟨i0, hi, hz0, hz1, hz2⟩ := info_parts Tryz.infoEnt
    have hcon := AnyE.slices_Clone Tryz.laysClone i0 _ 5 48 hi hz0 hz1 hz2 rfl (by decide) Tryz.sizeOf59 g 0 n cap (entSh.flat xs) w (by rw [entSh.flat_length, hl]; rfl) (by unfold maxLen; omega) (by omega) (fun j u hj => by have h := hr.src j u hj; rw [addr_add'] at h; exact h) (entSh.flat_one xs)
    refine Calls.mono hcon ?_
    rintro e w' ⟨v', rfl, ho, -, hb⟩
    have hv : ∃ a' cap', v' = .slice a' n cap' := by
      rcases ho.2 with ⟨e, h0⟩ | ⟨g, cap, cur, e, _⟩
      · exact ⟨none, 0, by rw [e, h0]⟩
      · exact ⟨_, _, e⟩
    obtain ⟨a', cap', rfl⟩ := hv
    refine ⟨⟨a', cap', rfl, ?_⟩, hb⟩
    unfold Shape.Own
    rw [hl]
    exact ho

theorem putP_del {dir : List EntV} {p : PlaceV} (h : p.r.kind = 2) : putP dir p = dropE dir p.r.key := if_pos h
theorem putP_put {dir : List EntV} {p : PlaceV} (h : ¬ p.r.kind = 2) : putP dir p = putE dir (entOf p) := if_neg h

set_option maxRecDepth 100000 in
set_option maxHeartbeats 2000000 in
theorem specPutP_any (w : World) (a : Option Addr) (n cap : Nat) (xs : List EntV) (p : PlaceV) (hr : entSh.Row w a n xs) (hn : n ≤ 4194304) :
    Calls Tryz.prog 31 #[.slice a n cap, .agg #[.int .i64 p.seg, .int .i64 p.pos, .int .i64 p.len, .int .i64 p.r.kind, .int .i64 p.r.batch, .string p.r.key, .string p.r.val, .int .i64 p.r.cnt, .int .i64 p.r.sum]] w fun e w' => (∃ a' n' cap', e = .returned (.slice a' n' cap') ∧ entSh.Own 59 w' w.heap.size (.slice a' n' cap') (putP xs p)) ∧ Below w.heap.size w w' := by
  have HB0 := hide (al1 w (.cells #[.int .i64 p.seg, .int .i64 p.pos, .int .i64 p.len, .int .i64 p.r.kind, .int .i64 p.r.batch, .string p.r.key, .string p.r.val, .int .i64 p.r.cnt, .int .i64 p.r.sum] 37))
  by_cases h2 : p.r.kind = 2
  · have t2 := ieq _ _ h2
    rw [putP_del h2]
    have HD := hide (specDrop_any (w.alloc (.cells #[.int .i64 p.seg, .int .i64 p.pos, .int .i64 p.len, .int .i64 p.r.kind, .int .i64 p.r.batch, .string p.r.key, .string p.r.val, .int .i64 p.r.cnt, .int .i64 p.r.sum] 37)) a n cap xs p.r.key (hr.later HB0.out) hn)
    clear hr h2
    go_enter Tryz.func31, Tryz.ntmps31
    go_wp2_with fail
    refine HD.out.mono ?_
    rintro e w1 ⟨⟨a', n', c', rfl, ho⟩, hb⟩
    have HO := hide (ho.mono HB0.out.size)
    have HB := hide (HB0.out.trans (hb.mono HB0.out.size))
    clear ho hb HD
    go_wp2
    go_ret
    exact ⟨⟨a', n', c', rfl, HO.out⟩, HB.out⟩
  · have t2 := ine _ _ h2
    rw [putP_put h2]
    have HD := hide (fun W (hb : Below (w.alloc (.cells #[.int .i64 p.seg, .int .i64 p.pos, .int .i64 p.len, .int .i64 p.r.kind, .int .i64 p.r.batch, .string p.r.key, .string p.r.val, .int .i64 p.r.cnt, .int .i64 p.r.sum] 37)).heap.size (w.alloc (.cells #[.int .i64 p.seg, .int .i64 p.pos, .int .i64 p.len, .int .i64 p.r.kind, .int .i64 p.r.batch, .string p.r.key, .string p.r.val, .int .i64 p.r.cnt, .int .i64 p.r.sum] 37)) W) => specPut_any W a n cap xs (entOf p) ((hr.later HB0.out).later hb) hn)
    clear hr h2
    go_enter Tryz.func31, Tryz.ntmps31
    go_wp2_with fail
    refine (HD.out _ (Below.refl _ _)).mono ?_
    rintro e w1 ⟨⟨a', n', c', rfl, ho⟩, hb⟩
    have HO := hide (ho.mono HB0.out.size)
    have HB := hide (HB0.out.trans (hb.mono HB0.out.size))
    clear ho hb HD
    go_wp2
    go_ret
    exact ⟨⟨a', n', c', rfl, HO.out⟩, HB.out⟩

set_option maxRecDepth 100000 in
set_option maxHeartbeats 1000000 in
theorem entryOf_any (p : PlaceV) : Ans 48 #[.agg #[.int .i64 p.seg, .int .i64 p.pos, .int .i64 p.len, .int .i64 p.r.kind, .int .i64 p.r.batch, .string p.r.key, .string p.r.val, .int .i64 p.r.cnt, .int .i64 p.r.sum]] (.agg #[.string p.r.key, .int .i64 p.seg, .int .i64 p.pos, .int .i64 p.len, .int .i64 p.r.batch]) := by
  intro w
  go_enter Tryz.func48, Tryz.ntmps48
  go_wp2
  refine bodyPost_ret (v := .agg #[.string p.r.key, .int .i64 p.seg, .int .i64 p.pos, .int .i64 p.len, .int .i64 p.r.batch]) (by simp [results, Tryz.results48, go_sem]) rfl ⟨rfl, ?_⟩
  first | exact al1 _ _ | exact al2 _ _ _ | exact al3 _ _ _ _

set_option maxRecDepth 100000 in
set_option maxHeartbeats 4000000 in
theorem implBehind_any (w : World) (a b : Option Addr) (n cap m cap' : Nat) (xs : List EntV) (own : List PlaceV) (ho : entSh.Row w a n xs) (hr : plSh.Row w b m own) (hn : n + m ≤ 4194304) :
    Calls Tryz.prog 27 #[.slice a n cap, .slice b m cap'] w fun e w' => (∃ a' n' c', e = .returned (.slice a' n' c') ∧ entSh.Row w' a' n' (behindP xs own) ∧ (own = [] ∧ a' = a ∧ n' = n ∧ c' = cap ∨ entSh.Own 59 w' w.heap.size (.slice a' n' c') (behindP xs own))) ∧ Below w.heap.size w w' := by
  have hlen := hr.len
  have hxl := ho.len
  have HR := hide hr
  have HO := hide ho
  clear hr ho
  go_enter Tryz.func27, Tryz.ntmps27
  go_wp2
  go_loopw [0, 9] (fun v i wr => ∃ (k : Nat) (a' : Option Addr) (n' c' : Nat), k ≤ m ∧ v = .slice a' n' c' ∧ i = .int .i64 k ∧ Hid (entSh.Row wr a' n' (behindP xs (own.take k))) ∧ Hid (k = 0 ∧ a' = a ∧ n' = n ∧ c' = cap ∨ entSh.Own 59 wr w.heap.size (.slice a' n' c') (behindP xs (own.take k))) ∧ Hid (Below w.heap.size w wr)) (fun _ i _ => m - (nI i).toNat)
  case atStart => exact ⟨0, a, n, cap, by omega, rfl, rfl, HO, hide (.inl ⟨rfl, rfl, rfl, rfl⟩), hide (Below.refl _ _)⟩
  case round =>
    clear HO
    obtain ⟨k, a', n', c', hk, rfl, rfl, HX, HC, HB⟩ := hrel
    by_cases hlt : k < m
    · have hkf : k < own.length := by omega
      obtain ⟨bb, off, rfl, hbw, e0, e1, e2, e3, e4, e5, e6, e7, e8⟩ := pl_cells (HR.out.later HB.out) k hkf
      have HE : Hid (behindP xs (own.take (k + 1)) = putP (behindP xs (own.take k)) (own[k])) := hide (behindP_succ xs own k hkf)
      have hbl : (behindP xs (own.take k)).length ≤ 4194304 := by
        have := behindP_len (own.take k) xs
        rw [List.length_take] at this
        omega
      have hn' : n' ≤ 4194304 := by rw [← HX.out.len]; exact hbl
      obtain ⟨z, hz⟩ : ∃ z, own[k] = z := ⟨_, rfl⟩
      obtain ⟨ys, hys⟩ : ∃ ys, behindP xs (own.take k) = ys := ⟨_, rfl⟩
      rw [hz] at e0 e1 e2 e3 e4 e5 e6 e7 e8 HE
      rw [hys] at HE HX
      have HA := hide (al1 wr (.cells #[.int .i64 z.seg, .int .i64 z.pos, .int .i64 z.len, .int .i64 z.r.kind, .int .i64 z.r.batch, .string z.r.key, .string z.r.val, .int .i64 z.r.cnt, .int .i64 z.r.sum] 37))
      have HBA := hide (HB.out.trans (HA.out.mono HB.out.size))
      have HXA := hide (HX.out.later HA.out)
      clear hz hys hbl HC HX HB
      by_cases h2 : z.r.kind = 2
      · have t2 := ieq _ _ h2
        have HE2 : Hid (behindP xs (own.take (k + 1)) = dropE ys z.r.key) := hide (by rw [HE.out, putP_del h2])
        have HD := hide (implDrop_any (wr.alloc (.cells #[.int .i64 z.seg, .int .i64 z.pos, .int .i64 z.len, .int .i64 z.r.kind, .int .i64 z.r.batch, .string z.r.key, .string z.r.val, .int .i64 z.r.cnt, .int .i64 z.r.sum] 37)) a' n' c' ys z.r.key HXA.out (by omega))
        clear h2 HE
        go_wp2_with fail
        refine HD.out.mono ?_
        rintro e w2 ⟨⟨g, rfl, ho2⟩, hb2⟩
        have HO2 := hide (ho2.mono HBA.out.size)
        have HB2 := hide (HBA.out.trans (hb2.mono HBA.out.size))
        clear ho2 hb2 HD
        rw [← HE2.out] at HO2 ⊢
        go_wp2
        go_roundw
        case rel => exact ⟨k + 1, _, _, _, by omega, rfl, by go_num, hide HO2.out.row, hide (.inr HO2.out), HB2⟩
        case measure => first | (simp [nI]; done) | (simp [nI]; omega)
      · have t2 := ine _ _ h2
        have HE2 : Hid (behindP xs (own.take (k + 1)) = putE ys (entOf z)) := hide (by rw [HE.out, putP_put h2])
        have HEN := hide (entryOf_any z)
        have HP := hide (fun W (hb : Below (wr.alloc (.cells #[.int .i64 z.seg, .int .i64 z.pos, .int .i64 z.len, .int .i64 z.r.kind, .int .i64 z.r.batch, .string z.r.key, .string z.r.val, .int .i64 z.r.cnt, .int .i64 z.r.sum] 37)).heap.size (wr.alloc (.cells #[.int .i64 z.seg, .int .i64 z.pos, .int .i64 z.len, .int .i64 z.r.kind, .int .i64 z.r.batch, .string z.r.key, .string z.r.val, .int .i64 z.r.cnt, .int .i64 z.r.sum] 37)) W) => implPut_any W a' n' c' ys (entOf z) (HXA.out.later hb) hn')
        clear h2 HE
        go_wp2_with fail
        refine (HEN.out _).mono ?_
        rintro e w2 ⟨rfl, hb2⟩
        have HPP := hide (HP.out w2 hb2)
        have HB2 := hide (HBA.out.trans (hb2.mono HBA.out.size))
        clear hb2 HP HEN
        go_wp2_with fail
        refine HPP.out.mono ?_
        rintro e w3 ⟨⟨a3, c3, rfl, ho3⟩, hb3⟩
        have HO3 := hide (ho3.mono HB2.out.size)
        have HB3 := hide (HB2.out.trans (hb3.mono HB2.out.size))
        clear ho3 hb3 HPP
        rw [← HE2.out] at HO3 ⊢
        go_wp2
        go_roundw
        case rel => exact ⟨k + 1, _, _, _, by omega, rfl, by go_num, hide HO3.out.row, hide (.inr HO3.out), HB3⟩
        case measure => first | (simp [nI]; done) | (simp [nI]; omega)
    · obtain rfl : k = m := by omega
      have HT : Hid (own.take k = own) := hide (List.take_of_length_le (by omega))
      rw [HT.out] at HX HC
      go_wp2
      go_ret
      refine ⟨⟨a', n', c', rfl, HX.out, ?_⟩, HB.out⟩
      rcases HC.out with ⟨h0, h1, h2, h3⟩ | h0
      · exact .inl ⟨List.eq_nil_of_length_eq_zero (by omega), h1, h2, h3⟩
      · exact .inr h0

end Go.Proofs.YtphbinkkgmlnmaaGreatDoor
namespace Go.Proofs.YtphbinkkgmlnmaaGreatDoor
open Go.RowKit
open Plain

/-- Block B is a group of the call's own: its directory in a row of the call's own. -/
def GBox (w : World) (base B : Nat) (x : GroupV) : Prop := ∃ a n c, w.heap[B]? = some (.cells #[.slice a n c, .int .i64 x.last, .int .i64 x.code] 26 (0, 0)) ∧ entSh.Own 59 w base (.slice a n c) x.dir
theorem cells3 {w : World} {B : Nat} {x0 x1 x2 : Value} {ty : TypeId} (h : w.heap[B]? = some (.cells #[x0, x1, x2] ty (0, 0))) :
    w.cell? ⟨B, 0, none⟩ = some x0 ∧ w.cell? ⟨B, 1, none⟩ = some x1 ∧ w.cell? ⟨B, 2, none⟩ = some x2 ∧ w.frozen? ⟨B, 0, none⟩ = false ∧ w.frozen? ⟨B, 1, none⟩ = false ∧ w.frozen? ⟨B, 2, none⟩ = false := by
  have hf : ∀ j, w.frozen? ⟨B, j, none⟩ = false := fun j => by simp [World.frozen?, h]
  refine ⟨?_, ?_, ?_, hf 0, hf 1, hf 2⟩ <;> rw [cell_of_row w B _ _ _ _ h] <;> rfl
theorem ent_off {w : World} {base B : Nat} {cs : Array Value} {T : TypeId} {fr : Nat × Nat} {v : Value} {xs : List EntV} (ho : entSh.Own 59 w base v xs) (hb : w.heap[B]? = some (.cells cs T fr)) (hT : T ≠ 59) : v.ownBlock ≠ some B := by
  intro e
  rcases ho.2 with ⟨e1, _⟩ | ⟨g', c, cur, e1, _, hg', _⟩
  · rw [e1] at e; cases e
  · rw [e1] at e
    cases e
    rw [hb] at hg'
    cases hg'
    exact hT rfl
theorem GBox.new {w : World} {base : Nat} {a : Option Addr} {n c : Nat} {x : GroupV} (h : entSh.Own 59 w base (.slice a n c) x.dir) : GBox (w.alloc (.cells #[.slice a n c, .int .i64 x.last, .int .i64 x.code] 26)) base w.heap.size x :=
  ⟨a, n, c, heap_alloc_new w _, h.later (al1 _ _) (Nat.le_refl _)⟩
theorem set3 {w : World} {B : Nat} {x0 x1 x2 y0 y1 y2 : Value} {T : TypeId} (h : w.heap[B]? = some (.cells #[x0, x1, x2] T (0, 0))) : (((w.setCell ⟨B, 0, none⟩ y0).setCell ⟨B, 1, none⟩ y1).setCell ⟨B, 2, none⟩ y2).heap[B]? = some (.cells #[y0, y1, y2] T (0, 0)) := by simp [World.setCell, Array.getElem?_modify, h]
theorem set3_own {w : World} {base B : Nat} {y0 y1 y2 v : Value} {xs : List EntV} (h : entSh.Own 59 w base v xs) (hne : v.ownBlock ≠ some B) : entSh.Own 59 (((w.setCell ⟨B, 0, none⟩ y0).setCell ⟨B, 1, none⟩ y1).setCell ⟨B, 2, none⟩ y2) base v xs := ((h.setNe ⟨B, 0, none⟩ _ hne).setNe ⟨B, 1, none⟩ _ hne).setNe ⟨B, 2, none⟩ _ hne
theorem GBox.set {w : World} {base B : Nat} {x0 x1 x2 : Value} {a : Option Addr} {n c : Nat} {x : GroupV} (hb : w.heap[B]? = some (.cells #[x0, x1, x2] 26 (0, 0))) (h : entSh.Own 59 w base (.slice a n c) x.dir) : GBox (((w.setCell ⟨B, 0, none⟩ (.slice a n c)).setCell ⟨B, 1, none⟩ (.int .i64 x.last)).setCell ⟨B, 2, none⟩ (.int .i64 x.code)) base B x :=
  ⟨a, n, c, set3 hb, set3_own h (ent_off h hb (by decide))⟩
theorem box0_set {w : World} {B : Nat} {x y z u : Value} {T : TypeId} (h : w.heap[B]? = some (.cells #[x, y, z] T (0, 0))) : (w.setCell ⟨B, 0, none⟩ u).heap[B]? = some (.cells #[u, y, z] T (0, 0)) := by simp [World.setCell, Array.getElem?_modify, h]
theorem box2_set {w : World} {B : Nat} {x y z u : Value} {T : TypeId} (h : w.heap[B]? = some (.cells #[x, y, z] T (0, 0))) : (w.setCell ⟨B, 2, none⟩ u).heap[B]? = some (.cells #[x, y, u] T (0, 0)) := by simp [World.setCell, Array.getElem?_modify, h]
theorem stepG_seal {pre : List PlaceV} {x : GroupV} {p : PlaceV} (hc : x.code = 0) (h3 : p.r.kind = 3) : stepG pre x p = if fitsP p.r (ofB pre p.r.batch) = true then fitG x (ofB pre p.r.batch) (max x.last p.r.batch) else ⟨x.dir, max x.last p.r.batch, 0⟩ := by unfold stepG; rw [if_pos hc, if_pos h3]
theorem stepG_mark {pre : List PlaceV} {x : GroupV} {p : PlaceV} (hc : x.code = 0) (h5 : p.r.kind = 5) : stepG pre x p = if fitsP p.r (keptP pre) = true then fitG x (keptP pre) (max x.last p.r.batch) else ⟨x.dir, max x.last p.r.batch, 1⟩ := by unfold stepG; rw [if_pos hc, if_neg (by rw [h5]; decide), if_pos h5]
theorem stepG_rest {pre : List PlaceV} {x : GroupV} {p : PlaceV} (hc : x.code = 0) (h3 : ¬ p.r.kind = 3) (h5 : ¬ p.r.kind = 5) : stepG pre x p = ⟨x.dir, max x.last p.r.batch, 0⟩ := by unfold stepG; rw [if_pos hc, if_neg h3, if_neg h5]

end Go.Proofs.YtphbinkkgmlnmaaGreatDoor
namespace Go.Proofs.YtphbinkkgmlnmaaGreatDoor
open Go.RowKit
open Plain

set_option maxRecDepth 100000 in
set_option maxHeartbeats 4000000 in
theorem specKept_any (w : World) (a : Option Addr) (n cap : Nat) (xs : List PlaceV) (hr : plSh.Row w a n xs) (hn : n ≤ 1048576) (e : Nat) (he : e ≤ n):
    Calls Tryz.prog 30 #[.slice a n cap, .int .i64 (e : Int)] w fun x w' => (∃ a' n' cap', x = .returned (.slice a' n' cap') ∧ plSh.Own 37 w' w.heap.size (.slice a' n' cap') (keptP (xs.take e))) ∧ Below w.heap.size w w' := by
  have hlen := hr.len
  have HR := hide hr
  have HO0 := hide (Shape.Own.empty plSh 37 w)
  have HB0 := hide (al1 w (.cells #[] 37))
  clear hr
  go_enter Tryz.func30, Tryz.ntmps30
  go_wp2
  go_loopw [5, 6] (fun v i wr => ∃ (k : Nat) (a' : Option Addr) (n' c' : Nat), k ≤ e ∧ v = .slice a' n' c' ∧ i = .int .i64 k ∧ Hid (plSh.Own 37 wr w.heap.size (.slice a' n' c') (keptP (xs.take k))) ∧ Hid (Below w.heap.size w wr)) (fun _ i _ => e - (intOf i).toNat)
  case atStart => exact ⟨0, _, 0, 0, by omega, rfl, rfl, HO0, HB0⟩
  case round =>
    clear HO0 HB0
    obtain ⟨k, a', n', c', hk, rfl, rfl, HO, HB⟩ := hrel
    by_cases hlt : k < e
    · have hkf : k < xs.length := by omega
      have hkn : k < n := by omega
      obtain ⟨bb, off, rfl, hbw, e0, e1, e2, e3, e4, e5, e6, e7, e8⟩ := pl_cells (HR.out.later HB.out) k hkf
      have HSZ := hide HB.out.size
      have HE : Hid (keptP (xs.take (k + 1)) = kpStep (keptP (xs.take k)) (xs[k])) := hide (by rw [take_snoc xs k hkf, keptP_snoc])
      have hl : (keptP (xs.take k)).length ≤ 1048576 := by
        have := keptP_len (xs.take k)
        rw [List.length_take] at this
        omega
      obtain ⟨z, hz⟩ : ∃ z, xs[k] = z := ⟨_, rfl⟩
      rw [hz] at e0 e1 e2 e3 e4 e5 e6 e7 e8 HE
      clear hz
      have hwn : bb < wr.heap.size := hbw
      have HBA := hide (HB.out.alloc HB.out.size (.cells #[.int .i64 z.r.kind, .int .i64 z.r.batch, .string z.r.key, .string z.r.val, .int .i64 z.r.cnt, .int .i64 z.r.sum] 35))
      have HOA := hide (HO.out.later (al1 wr (.cells #[.int .i64 z.r.kind, .int .i64 z.r.batch, .string z.r.key, .string z.r.val, .int .i64 z.r.cnt, .int .i64 z.r.sum] 35)) (Nat.le_refl _))
      by_cases h5 : z.r.kind = 5
      · have t5 := ieq _ _ h5
        have t4 := ine z.r.kind 4 (by omega)
        have HE2 : Hid (keptP (xs.take (k + 1)) = []) := hide (by rw [HE.out]; unfold kpStep; rw [if_pos h5])
        have HON := hide (Shape.Own.empty plSh 37 wr)
        have HBN := hide (HB.out.alloc HB.out.size (.cells #[] 37))
        have HON2 := hide (HON.out.mono HSZ.out)
        clear h5 HE HO HB HOA HBA HON
        go_wp2
        go_roundw
        case rel => exact ⟨k + 1, _, _, _, by omega, rfl, by go_num, by rw [HE2.out]; exact HON2, HBN⟩
        case measure => first | (simp [intOf]; done) | (simp [intOf]; omega)
      · have t5 := ine _ _ h5
        by_cases h4 : z.r.kind = 4
        · have t4 := ieq _ _ h4
          have HE2 : Hid (keptP (xs.take (k + 1)) = keptP (xs.take k) ++ [z]) := hide (by rw [HE.out]; unfold kpStep; rw [if_neg h5, if_pos h4])
          clear h5 h4 HE HOA HBA
          go_wp2_with (at_builtin; refine wpList_app_pl rfl _ _ rfl z HO.out HB.out.size (by omega) rfl rfl rfl ?_; intro a3 n3 cap3 w3 hn3 ho3 hb3; clear hn3)
          have HO3 := hide ho3
          have HB3 := hide (HB.out.trans hb3)
          clear ho3 hb3 HO HB
          go_roundw
          case rel => exact ⟨k + 1, a3, n3, cap3, by omega, rfl, by go_num, by rw [HE2.out]; exact HO3, HB3⟩
          case measure => first | (simp [intOf]; done) | (simp [intOf]; omega)
        · have t4 := ine _ _ h4
          have HE2 : Hid (keptP (xs.take (k + 1)) = keptP (xs.take k)) := hide (by rw [HE.out]; unfold kpStep; rw [if_neg h5, if_neg h4])
          clear h5 h4 HE HOA HBA
          go_wp2
          go_roundw
          case rel => exact ⟨k + 1, _, _, _, by omega, rfl, by go_num, by rw [HE2.out]; exact HO, HB⟩
          case measure => first | (simp [intOf]; done) | (simp [intOf]; omega)
    · obtain rfl : k = e := by omega
      go_wp2
      go_ret
      exact ⟨⟨a', n', c', rfl, HO.out⟩, HB.out⟩

end Go.Proofs.YtphbinkkgmlnmaaGreatDoor
