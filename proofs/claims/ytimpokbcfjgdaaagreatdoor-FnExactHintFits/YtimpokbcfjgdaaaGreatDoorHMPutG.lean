/-
  spec.l9Put; impl.entryOf and impl.dirBehind; slices.Clone at entries.
-/
import Derived.Test.YtimpokbcfjgdaaaGreatDoorHG19
import Derived.Test.YtimpokbcfjgdaaaGreatDoorHG21
import Derived.Test.YtimpokbcfjgdaaaGreatDoorHMDirPutI
import Derived.Shelf.SlicesE.Clone
namespace Go.Proofs.YtimpokbcfjgdaaaGreatDoor
open Go.RowKit Go.Shelf
open Plain

/-- slices.Clone at entries. -/
theorem cloneE_any (w : World) (a : Option Addr) (n cap : Nat) (xs : List EntV) (ha : a = none ∨ ∃ g, a = some ⟨g, 0, none⟩) (hr : entSh.Row w a n xs) (hn : n ≤ 1048576) :
    Calls Tryz.prog 85 #[.slice a n cap] w fun e w' => (∃ a' cap', e = .returned (.slice a' n cap') ∧ entSh.Own 71 w' w.heap.size (.slice a' n cap') xs) ∧ Below w.heap.size w w' := by
  have hl := hr.len
  rcases ha with rfl | ⟨g, rfl⟩
  · have hx : xs = [] := by
      cases xs with
      | nil => rfl
      | cons x r =>
        obtain ⟨b, off, e, _⟩ := hr.cells 0 (by simp)
        cases e
    subst hx
    obtain rfl : n = 0 := hl.symm
    refine (AnyE.slices_Clone_nil Tryz.laysClone 0 cap w).mono ?_
    rintro e w' ⟨rfl, rfl⟩
    exact ⟨⟨none, 0, rfl, Shape.Own.nil entSh 71 _ _⟩, Below.refl _ _⟩
  · obtain ⟨i0, hi, hz0, hz1, hz2⟩ := info_parts Tryz.infoEnt
    have hcon := AnyE.slices_Clone Tryz.laysClone i0 _ 5 48 hi hz0 hz1 hz2 rfl (by decide) Tryz.sizeOf71 g 0 n cap (entSh.flat xs) w (by rw [entSh.flat_length, hl]; rfl) (by unfold maxLen; omega) (by omega) (fun j u hj => by have h := hr.src j u hj; rw [addr_add'] at h; exact h) (entSh.flat_one xs)
    refine Calls.mono hcon ?_
    rintro e w' ⟨v', rfl, ho, -, hb⟩
    have hv : ∃ a' cap', v' = .slice a' n cap' := by
      rcases ho.2 with ⟨e, h0⟩ | ⟨g, cap, cur, e, _⟩
      · exact ⟨none, 0, by rw [e, h0]⟩
      · exact ⟨_, _, e⟩
    obtain ⟨a', cap', rfl⟩ := hv
    refine ⟨⟨a', cap', rfl, ?_⟩, hb⟩
    unfold Shape.Own
    rw [hl]
    exact ho

theorem putP_del {dir : List EntV} {p : PlaceV} (h : p.r.kind = 2) : putP dir p = dropE dir p.r.key := if_pos h
theorem putP_put {dir : List EntV} {p : PlaceV} (h : ¬ p.r.kind = 2) : putP dir p = putE dir (entOf p) := if_neg h

set_option maxRecDepth 100000 in
set_option maxHeartbeats 2000000 in
theorem specPutP_any (w : World) (a : Option Addr) (n cap : Nat) (xs : List EntV) (p : PlaceV) (hr : entSh.Row w a n xs) (hn : n ≤ 4194304) :
    Calls Tryz.prog 55 #[.slice a n cap, .agg #[.int .i64 p.seg, .int .i64 p.pos, .int .i64 p.len, .int .i64 p.r.kind, .int .i64 p.r.batch, .string p.r.key, .string p.r.val, .int .i64 p.r.cnt, .int .i64 p.r.sum]] w fun e w' => (∃ a' n' cap', e = .returned (.slice a' n' cap') ∧ entSh.Own 71 w' w.heap.size (.slice a' n' cap') (putP xs p)) ∧ Below w.heap.size w w' := by
  have HB0 := hide (al1 w (.cells #[.int .i64 p.seg, .int .i64 p.pos, .int .i64 p.len, .int .i64 p.r.kind, .int .i64 p.r.batch, .string p.r.key, .string p.r.val, .int .i64 p.r.cnt, .int .i64 p.r.sum] 45))
  by_cases h2 : p.r.kind = 2
  · have t2 := ieq _ _ h2
    rw [putP_del h2]
    have HD := hide (specDrop_any (w.alloc (.cells #[.int .i64 p.seg, .int .i64 p.pos, .int .i64 p.len, .int .i64 p.r.kind, .int .i64 p.r.batch, .string p.r.key, .string p.r.val, .int .i64 p.r.cnt, .int .i64 p.r.sum] 45)) a n cap xs p.r.key (hr.later HB0.out) hn)
    clear hr h2
    go_enter Tryz.func55, Tryz.ntmps55
    go_wp2_with fail
    refine HD.out.mono ?_
    rintro e w1 ⟨⟨a', n', c', rfl, ho⟩, hb⟩
    have HO := hide (ho.mono HB0.out.size)
    have HB := hide (HB0.out.trans (hb.mono HB0.out.size))
    clear ho hb HD
    go_wp2
    go_ret
    exact ⟨⟨a', n', c', rfl, HO.out⟩, HB.out⟩
  · have t2 := ine _ _ h2
    rw [putP_put h2]
    have HD := hide (fun W (hb : Below (w.alloc (.cells #[.int .i64 p.seg, .int .i64 p.pos, .int .i64 p.len, .int .i64 p.r.kind, .int .i64 p.r.batch, .string p.r.key, .string p.r.val, .int .i64 p.r.cnt, .int .i64 p.r.sum] 45)).heap.size (w.alloc (.cells #[.int .i64 p.seg, .int .i64 p.pos, .int .i64 p.len, .int .i64 p.r.kind, .int .i64 p.r.batch, .string p.r.key, .string p.r.val, .int .i64 p.r.cnt, .int .i64 p.r.sum] 45)) W) => specPut_any W a n cap xs (entOf p) ((hr.later HB0.out).later hb) hn)
    clear hr h2
    go_enter Tryz.func55, Tryz.ntmps55
    go_wp2_with fail
    refine (HD.out _ (Below.refl _ _)).mono ?_
    rintro e w1 ⟨⟨a', n', c', rfl, ho⟩, hb⟩
    have HO := hide (ho.mono HB0.out.size)
    have HB := hide (HB0.out.trans (hb.mono HB0.out.size))
    clear ho hb HD
    go_wp2
    go_ret
    exact ⟨⟨a', n', c', rfl, HO.out⟩, HB.out⟩

set_option maxRecDepth 100000 in
set_option maxHeartbeats 1000000 in
theorem entryOf_any (p : PlaceV) : Ans 84 #[.agg #[.int .i64 p.seg, .int .i64 p.pos, .int .i64 p.len, .int .i64 p.r.kind, .int .i64 p.r.batch, .string p.r.key, .string p.r.val, .int .i64 p.r.cnt, .int .i64 p.r.sum]] (.agg #[.string p.r.key, .int .i64 p.seg, .int .i64 p.pos, .int .i64 p.len, .int .i64 p.r.batch]) := by
  intro w
  go_enter Tryz.func84, Tryz.ntmps84
  go_wp2
  refine bodyPost_ret (v := .agg #[.string p.r.key, .int .i64 p.seg, .int .i64 p.pos, .int .i64 p.len, .int .i64 p.r.batch]) (by simp [results, Tryz.results84, go_sem]) rfl ⟨rfl, ?_⟩
  first | exact al1 _ _ | exact al2 _ _ _ | exact al3 _ _ _ _

set_option maxRecDepth 100000 in
set_option maxHeartbeats 4000000 in
theorem implBehind_any (w : World) (a b : Option Addr) (n cap m cap' : Nat) (xs : List EntV) (own : List PlaceV) (ho : entSh.Row w a n xs) (hr : plSh.Row w b m own) (hn : n + m ≤ 4194304) :
    Calls Tryz.prog 87 #[.slice a n cap, .slice b m cap'] w fun e w' => (∃ a' n' c', e = .returned (.slice a' n' c') ∧ entSh.Row w' a' n' (behindP xs own) ∧ (own = [] ∧ a' = a ∧ n' = n ∧ c' = cap ∨ entSh.Own 71 w' w.heap.size (.slice a' n' c') (behindP xs own))) ∧ Below w.heap.size w w' := by
  have hlen := hr.len
  have hxl := ho.len
  have HR := hide hr
  have HO := hide ho
  clear hr ho
  go_enter Tryz.func87, Tryz.ntmps87
  go_wp2
  go_loopw [0, 9] (fun v i wr => ∃ (k : Nat) (a' : Option Addr) (n' c' : Nat), k ≤ m ∧ v = .slice a' n' c' ∧ i = .int .i64 k ∧ Hid (entSh.Row wr a' n' (behindP xs (own.take k))) ∧ Hid (k = 0 ∧ a' = a ∧ n' = n ∧ c' = cap ∨ entSh.Own 71 wr w.heap.size (.slice a' n' c') (behindP xs (own.take k))) ∧ Hid (Below w.heap.size w wr)) (fun _ i _ => m - (nI i).toNat)
  case atStart => exact ⟨0, a, n, cap, by omega, rfl, rfl, HO, hide (.inl ⟨rfl, rfl, rfl, rfl⟩), hide (Below.refl _ _)⟩
  case round =>
    clear HO
    obtain ⟨k, a', n', c', hk, rfl, rfl, HX, HC, HB⟩ := hrel
    by_cases hlt : k < m
    · have hkf : k < own.length := by omega
      obtain ⟨bb, off, rfl, hbw, e0, e1, e2, e3, e4, e5, e6, e7, e8⟩ := pl_cells (HR.out.later HB.out) k hkf
      have HE : Hid (behindP xs (own.take (k + 1)) = putP (behindP xs (own.take k)) (own[k])) := hide (behindP_succ xs own k hkf)
      have hbl : (behindP xs (own.take k)).length ≤ 4194304 := by
        have := behindP_len (own.take k) xs
        rw [List.length_take] at this
        omega
      have hn' : n' ≤ 4194304 := by rw [← HX.out.len]; exact hbl
      obtain ⟨z, hz⟩ : ∃ z, own[k] = z := ⟨_, rfl⟩
      obtain ⟨ys, hys⟩ : ∃ ys, behindP xs (own.take k) = ys := ⟨_, rfl⟩
      rw [hz] at e0 e1 e2 e3 e4 e5 e6 e7 e8 HE
      rw [hys] at HE HX
      have HA := hide (al1 wr (.cells #[.int .i64 z.seg, .int .i64 z.pos, .int .i64 z.len, .int .i64 z.r.kind, .int .i64 z.r.batch, .string z.r.key, .string z.r.val, .int .i64 z.r.cnt, .int .i64 z.r.sum] 45))
      have HBA := hide (HB.out.trans (HA.out.mono HB.out.size))
      have HXA := hide (HX.out.later HA.out)
      clear hz hys hbl HC HX HB
      by_cases h2 : z.r.kind = 2
      · have t2 := ieq _ _ h2
        have HE2 : Hid (behindP xs (own.take (k + 1)) = dropE ys z.r.key) := hide (by rw [HE.out, putP_del h2])
        have HD := hide (implDrop_any (wr.alloc (.cells #[.int .i64 z.seg, .int .i64 z.pos, .int .i64 z.len, .int .i64 z.r.kind, .int .i64 z.r.batch, .string z.r.key, .string z.r.val, .int .i64 z.r.cnt, .int .i64 z.r.sum] 45)) a' n' c' ys z.r.key HXA.out (by omega))
        clear h2 HE
        go_wp2_with fail
        refine HD.out.mono ?_
        rintro e w2 ⟨⟨g, rfl, ho2⟩, hb2⟩
        have HO2 := hide (ho2.mono HBA.out.size)
        have HB2 := hide (HBA.out.trans (hb2.mono HBA.out.size))
        clear ho2 hb2 HD
        rw [← HE2.out] at HO2 ⊢
        go_wp2
        go_roundw
        case rel => exact ⟨k + 1, _, _, _, by omega, rfl, by go_num, hide HO2.out.row, hide (.inr HO2.out), HB2⟩
        case measure => first | (simp [nI]; done) | (simp [nI]; omega)
      · have t2 := ine _ _ h2
        have HE2 : Hid (behindP xs (own.take (k + 1)) = putE ys (entOf z)) := hide (by rw [HE.out, putP_put h2])
        have HEN := hide (entryOf_any z)
        have HP := hide (fun W (hb : Below (wr.alloc (.cells #[.int .i64 z.seg, .int .i64 z.pos, .int .i64 z.len, .int .i64 z.r.kind, .int .i64 z.r.batch, .string z.r.key, .string z.r.val, .int .i64 z.r.cnt, .int .i64 z.r.sum] 45)).heap.size (wr.alloc (.cells #[.int .i64 z.seg, .int .i64 z.pos, .int .i64 z.len, .int .i64 z.r.kind, .int .i64 z.r.batch, .string z.r.key, .string z.r.val, .int .i64 z.r.cnt, .int .i64 z.r.sum] 45)) W) => implPut_any W a' n' c' ys (entOf z) (HXA.out.later hb) hn')
        clear h2 HE
        go_wp2_with fail
        refine (HEN.out _).mono ?_
        rintro e w2 ⟨rfl, hb2⟩
        have HPP := hide (HP.out w2 hb2)
        have HB2 := hide (HBA.out.trans (hb2.mono HBA.out.size))
        clear hb2 HP HEN
        go_wp2_with fail
        refine HPP.out.mono ?_
        rintro e w3 ⟨⟨a3, c3, rfl, ho3⟩, hb3⟩
        have HO3 := hide (ho3.mono HB2.out.size)
        have HB3 := hide (HB2.out.trans (hb3.mono HB2.out.size))
        clear ho3 hb3 HPP
        rw [← HE2.out] at HO3 ⊢
        go_wp2
        go_roundw
        case rel => exact ⟨k + 1, _, _, _, by omega, rfl, by go_num, hide HO3.out.row, hide (.inr HO3.out), HB3⟩
        case measure => first | (simp [nI]; done) | (simp [nI]; omega)
    · obtain rfl : k = m := by omega
      have HT : Hid (own.take k = own) := hide (List.take_of_length_le (by omega))
      rw [HT.out] at HX HC
      go_wp2
      go_ret
      refine ⟨⟨a', n', c', rfl, HX.out, ?_⟩, HB.out⟩
      rcases HC.out with ⟨h0, h1, h2, h3⟩ | h0
      · exact .inl ⟨List.eq_nil_of_length_eq_zero (by omega), h1, h2, h3⟩
      · exact .inr h0

end Go.Proofs.YtimpokbcfjgdaaaGreatDoor
