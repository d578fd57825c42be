/-
  spec.l9Of.
-/
import Derived.Test.YtphbinkkgmlnmaaGreatDoorG13
namespace Go.Proofs.YtphbinkkgmlnmaaGreatDoor
open Go.RowKit
open Plain

theorem ofStep_no (b : Int) (out : List PlaceV) (p : PlaceV) (h : ¬ p.r.batch = b) : ofStep b out p = out := by unfold ofStep; rw [if_neg h]
theorem ofStep_seal (b : Int) (out : List PlaceV) (p : PlaceV) (h : p.r.batch = b) (h3 : p.r.kind = 3) : ofStep b out p = [] := by unfold ofStep; rw [if_pos h, if_pos h3]
theorem ofStep_put (b : Int) (out : List PlaceV) (p : PlaceV) (h : p.r.batch = b) (hk : p.r.kind = 1 ∨ p.r.kind = 2) : ofStep b out p = out ++ [p] := by unfold ofStep; rw [if_pos h, if_neg (by rcases hk with e | e <;> rw [e] <;> decide), if_pos hk]
theorem ofStep_other (b : Int) (out : List PlaceV) (p : PlaceV) (h3 : ¬ p.r.kind = 3) (h1 : ¬ p.r.kind = 1) (h2 : ¬ p.r.kind = 2) : ofStep b out p = out := by
  unfold ofStep
  split
  · rw [if_neg (fun q : p.r.kind = 1 ∨ p.r.kind = 2 => q.elim h1 h2)]
  · rfl

set_option maxRecDepth 100000 in
set_option maxHeartbeats 4000000 in
theorem specOf_any (w : World) (a : Option Addr) (n cap : Nat) (xs : List PlaceV) (hr : plSh.Row w a n xs) (hn : n ≤ 1048576) (e : Nat) (he : e ≤ n) (b : Int) :
    Calls Tryz.prog 28 #[.slice a n cap, .int .i64 (e : Int), .int .i64 b] w fun x w' => (∃ a' n' cap', x = .returned (.slice a' n' cap') ∧ plSh.Own 37 w' w.heap.size (.slice a' n' cap') (ofB (xs.take e) b)) ∧ Below w.heap.size w w' := by
  have hlen := hr.len
  have HR := hide hr
  have HO0 := hide (Shape.Own.empty plSh 37 w)
  have HB0 := hide (al1 w (.cells #[] 37))
  clear hr
  go_enter Tryz.func28, Tryz.ntmps28
  go_wp2
  go_loopw [7, 8] (fun v i wr => ∃ (k : Nat) (a' : Option Addr) (n' c' : Nat), k ≤ e ∧ v = .slice a' n' c' ∧ i = .int .i64 k ∧ Hid (plSh.Own 37 wr w.heap.size (.slice a' n' c') (ofB (xs.take k) b)) ∧ Hid (Below w.heap.size w wr)) (fun _ i _ => e - (intOf i).toNat)
  case atStart => exact ⟨0, _, 0, 0, by omega, rfl, rfl, HO0, HB0⟩
  case round =>
    clear HO0 HB0
    obtain ⟨k, a', n', c', hk, rfl, rfl, HO, HB⟩ := hrel
    by_cases hlt : k < e
    · have hkf : k < xs.length := by omega
      have hkn : k < n := by omega
      obtain ⟨bb, off, rfl, hbw, e0, e1, e2, e3, e4, e5, e6, e7, e8⟩ := pl_cells (HR.out.later HB.out) k hkf
      have HSZ := hide HB.out.size
      have HE : Hid (ofB (xs.take (k + 1)) b = ofStep b (ofB (xs.take k) b) (xs[k])) := hide (by rw [take_snoc xs k hkf, ofB_snoc])
      have hl : (ofB (xs.take k) b).length ≤ 1048576 := by
        have := ofB_len (xs.take k) b
        rw [List.length_take] at this
        omega
      obtain ⟨z, hz⟩ : ∃ z, xs[k] = z := ⟨_, rfl⟩
      rw [hz] at e0 e1 e2 e3 e4 e5 e6 e7 e8 HE
      clear hz
      have hwn : bb < wr.heap.size := hbw
      have HBA := hide (HB.out.alloc HB.out.size (.cells #[.int .i64 z.r.kind, .int .i64 z.r.batch, .string z.r.key, .string z.r.val, .int .i64 z.r.cnt, .int .i64 z.r.sum] 35))
      have HOA := hide (HO.out.later (al1 wr (.cells #[.int .i64 z.r.kind, .int .i64 z.r.batch, .string z.r.key, .string z.r.val, .int .i64 z.r.cnt, .int .i64 z.r.sum] 35)) (Nat.le_refl _))
      by_cases hb : z.r.batch = b
      · have t0 := ieq _ _ hb
        by_cases h3 : z.r.kind = 3
        · have t3 := ieq _ _ h3
          have t1 := ine z.r.kind 1 (by omega)
          have t2 := ine z.r.kind 2 (by omega)
          have HE2 : Hid (ofB (xs.take (k + 1)) b = []) := hide (by rw [HE.out, ofStep_seal _ _ _ hb h3])
          have HON : Hid (plSh.Own 37 ((wr.alloc (.cells #[.int .i64 z.r.kind, .int .i64 z.r.batch, .string z.r.key, .string z.r.val, .int .i64 z.r.cnt, .int .i64 z.r.sum] 35)).alloc (.cells #[] 37)) w.heap.size (.slice (some ⟨wr.heap.size + 1, 0, none⟩) 0 0) []) := hide (by
            have h := Shape.Own.empty plSh 37 (wr.alloc (.cells #[.int .i64 z.r.kind, .int .i64 z.r.batch, .string z.r.key, .string z.r.val, .int .i64 z.r.cnt, .int .i64 z.r.sum] 35))
            rw [World.size_alloc] at h
            exact h.mono (Nat.le_trans HSZ.out (Nat.le_succ _)))
          have HBN := hide (HBA.out.alloc HBA.out.size (.cells #[] 37))
          clear hb h3 HE HO HB HOA HBA
          go_wp2
          go_roundw
          case rel => exact ⟨k + 1, _, _, _, by omega, rfl, by go_num, by rw [HE2.out]; exact HON, HBN⟩
          case measure => first | (simp [intOf]; done) | (simp [intOf]; omega)
        · have t3 := ine _ _ h3
          by_cases h1 : z.r.kind = 1
          · have t1 := ieq _ _ h1
            have HE2 : Hid (ofB (xs.take (k + 1)) b = ofB (xs.take k) b ++ [z]) := hide (by rw [HE.out, ofStep_put _ _ _ hb (.inl h1)])
            clear hb h3 h1 HE
            go_wp2_with (at_builtin; refine wpList_app_pl rfl _ _ rfl z HOA.out HBA.out.size (by omega) rfl rfl (World.size_alloc _ _) ?_; intro a3 n3 cap3 w3 hn3 ho3 hb3; clear hn3)
            have HO3 := hide ho3
            have HB3 := hide (HBA.out.trans hb3)
            clear ho3 hb3 HO HB HOA HBA
            go_roundw
            case rel => exact ⟨k + 1, a3, n3, cap3, by omega, rfl, by go_num, by rw [HE2.out]; exact HO3, HB3⟩
            case measure => first | (simp [intOf]; done) | (simp [intOf]; omega)
          · have t1 := ine _ _ h1
            by_cases h2 : z.r.kind = 2
            · have t2 := ieq _ _ h2
              have HE2 : Hid (ofB (xs.take (k + 1)) b = ofB (xs.take k) b ++ [z]) := hide (by rw [HE.out, ofStep_put _ _ _ hb (.inr h2)])
              clear hb h3 h1 h2 HE
              go_wp2_with (at_builtin; refine wpList_app_pl rfl _ _ rfl z HOA.out HBA.out.size (by omega) rfl rfl (World.size_alloc _ _) ?_; intro a3 n3 cap3 w3 hn3 ho3 hb3; clear hn3)
              have HO3 := hide ho3
              have HB3 := hide (HBA.out.trans hb3)
              clear ho3 hb3 HO HB HOA HBA
              go_roundw
              case rel => exact ⟨k + 1, a3, n3, cap3, by omega, rfl, by go_num, by rw [HE2.out]; exact HO3, HB3⟩
              case measure => first | (simp [intOf]; done) | (simp [intOf]; omega)
            · have t2 := ine _ _ h2
              have HE2 : Hid (ofB (xs.take (k + 1)) b = ofB (xs.take k) b) := hide (by rw [HE.out, ofStep_other _ _ _ h3 h1 h2])
              clear hb h3 h1 h2 HE
              go_wp2
              go_roundw
              case rel => exact ⟨k + 1, _, _, _, by omega, rfl, by go_num, by rw [HE2.out]; exact HOA, HBA⟩
              case measure => first | (simp [intOf]; done) | (simp [intOf]; omega)
      · have t0 := ine _ _ hb
        have HE2 : Hid (ofB (xs.take (k + 1)) b = ofB (xs.take k) b) := hide (by rw [HE.out, ofStep_no _ _ _ hb])
        clear hb HE
        go_wp2
        go_roundw
        case rel => exact ⟨k + 1, _, _, _, by omega, rfl, by go_num, by rw [HE2.out]; exact HOA, HBA⟩
        case measure => first | (simp [intOf]; done) | (simp [intOf]; omega)
    · obtain rfl : k = e := by omega
      go_wp2
      go_ret
      exact ⟨⟨a', n', c', rfl, HO.out⟩, HB.out⟩

end Go.Proofs.YtphbinkkgmlnmaaGreatDoor
