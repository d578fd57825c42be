/-
  spec.SameDisk: the same fields, and the same files in their order.
-/
import Derived.Test.YtnckdfidehbcaaaEqDisk
import Derived.Laws.StructEq
namespace Go.Proofs.Ytnckdfidehbcaaa
open Go.RowKit
open Plain

theorem file_neq (f g : FileV) (w : World) : (binOp .neq 65 (.agg #[.string f.name, .string f.text, .int .i64 f.safe]) (.agg #[.string g.name, .string g.text, .int .i64 g.safe])).run Try.prog w = .ok (.bool (!eqFB f g)) w := by
  have hS : Try.prog.underlying 65 = some (.struct (Try.prog.fieldsOf 65)) := by kernel_rfl
  have hp : Try.prog.stoodInHeld 65 = false := by kernel_rfl
  have u3 := Try.underlying3
  have a3 := Try.isAgg3
  have z3 := Try.sizeOf3
  have u9 := Try.underlying9
  have a9 := Try.isAgg9
  have z9 := Try.sizeOf9
  rw [run_neq_struct, show (10000 : Nat) = 9999 + 1 from rfl, run_equalIn_agg w 9999 65 _ _ hS hp]
  simp only [Program.fieldsOf, Try.underlying65]
  by_cases h1 : f.name = g.name
  · have t1 := str_eq _ _ h1
    by_cases h2 : f.text = g.text
    · have t2 := str_eq _ _ h2
      by_cases h3 : f.safe = g.safe
      · have h : f = g := FileV.ext' h1 h2 h3
        rw [eqFB_yes h]
        subst h
        go_simp
        try simp
      · have h : eqFB f g = false := eqFB_no (fun h => h3 (by rw [h]))
        rw [h]
        have t3 : (f.safe == g.safe) = false := by simpa using h3
        go_simp
    · have t2 := str_ne _ _ h2
      have h : eqFB f g = false := eqFB_no (fun h => h2 (by rw [h]))
      rw [h]
      go_simp
  · have t1 := str_ne _ _ h1
    have h : eqFB f g = false := eqFB_no (fun h => h1 (by rw [h]))
    rw [h]
    go_simp
theorem file_guard : Try.prog.eqGuardType Try.prog.depth 65 = false := by kernel_rfl
attribute [local go_sem] file_neq file_guard

set_option maxRecDepth 100000 in
set_option maxHeartbeats 4000000 in
theorem specSame_any (w : World) (a b : Option Addr) (n m cap cap' : Nat) (fs gs : List FileV) (ha : FRow w 0 a n fs) (hb : FRow w 0 b m gs) (hn : n ≤ 1099511627776) (hm : m ≤ 1099511627776) (c u c' u' : Int) (d d' : Bool) :
    Calls Try.prog 15 #[.agg #[.slice a n cap, .int .i64 c, .int .i64 u, .bool d], .agg #[.slice b m cap', .int .i64 c', .int .i64 u', .bool d']] w fun e w' => e = .returned (.bool (eqDB fs gs c c' u u' d d')) ∧ Below w.heap.size w w' := by
  have hfn := ha.len
  have hgm := hb.len
  obtain ⟨W, hW⟩ : ∃ W, W = (w.alloc (.cells #[.slice a n cap, .int .i64 c, .int .i64 u, .bool d] 44)).alloc (.cells #[.slice b m cap', .int .i64 c', .int .i64 u', .bool d'] 44) := ⟨_, rfl⟩
  have hA := alloc2 w (.cells #[.slice a n cap, .int .i64 c, .int .i64 u, .bool d] 44) (.cells #[.slice b m cap', .int .i64 c', .int .i64 u', .bool d'] 44)
  rw [← hW] at hA
  have HS := hide hA.1
  have HB0 := hide hA.2.1
  have HC0 := hide hA.2.2.1
  have HC1 := hide hA.2.2.2
  clear hA
  have HA := hide (ha.later HB0.out (Nat.le_refl _))
  have HG := hide (hb.later HB0.out (Nat.le_refl _))
  clear ha hb
  have d0 := cells4 HC0.out
  have d1 := cells4 HC1.out
  obtain ⟨a0, a1, a2, a3, -, -, -, -⟩ := d0
  obtain ⟨b0, b1, b2, b3, -, -, -, -⟩ := d1
  by_cases hnm : n = m
  · subst hnm
    by_cases h2 : c = c'
    · have t2 : (c != c') = false := by simpa using h2
      by_cases h3 : u = u'
      · have t3 : (u != u') = false := by simpa using h3
        by_cases h4 : d = d'
        · subst h4
          have HV : Hid (eqDB fs gs c c' u u' d d = eqFsB fs gs) := hide (by simp [eqDB, h2, h3])
          clear h2 h3
          have HCL : Hid (∀ wr, Below W.heap.size W wr → wr.cell? ⟨w.heap.size, 0, none⟩ = some (.slice a n cap) ∧ wr.cell? ⟨w.heap.size + 1, 0, none⟩ = some (.slice b n cap')) := hide (fun wr h => by
            have hs := HS.out
            exact ⟨(cells4 ((h.block _ (by omega)).trans HC0.out)).1, (cells4 ((h.block _ (by omega)).trans HC1.out)).1⟩)
          clear HC0 HC1
          go_enter Try.func15, Try.ntmps15
          cases d
          all_goals
            go_wp2
            rw [← hW]
            go_wp2
            clear hW a0 a1 a2 a3 b0 b1 b2 b3 t2 t3
            go_loopw [5] (fun i wr => ∃ k : Nat, k ≤ n ∧ i = .int .i64 k ∧ Hid (fs.take k = gs.take k) ∧ Hid (Below W.heap.size W wr)) (fun i _ => n - (intOf i).toNat)
            case atStart => exact ⟨0, by omega, rfl, hide (by simp), hide (Below.refl _ _)⟩
            case round =>
              obtain ⟨k, hk, rfl, HE, HB⟩ := hrel
              obtain ⟨y0, z0⟩ := HCL.out wr HB.out
              by_cases hlt : k < n
              · have h1 : k < fs.length := by omega
                have h2 : k < gs.length := by omega
                obtain ⟨b1, o1, rfl, -, hb1, e1, e2, e3⟩ := (HA.out.later HB.out (Nat.le_refl _)).cells k h1
                obtain ⟨b2, o2, rfl, -, hb2, g1, g2, g3⟩ := (HG.out.later HB.out (Nat.le_refl _)).cells k h2
                have hk2 : (k : Int) < (n : Int) := by omega
                have HE2 : Hid (fs.take (k + 1) = gs.take (k + 1) ↔ fs[k] = gs[k]) := hide (by
                  rw [List.take_succ_eq_append_getElem h1, List.take_succ_eq_append_getElem h2, HE.out]
                  constructor
                  · intro h
                    simpa using List.append_cancel_left h
                  · intro h
                    rw [h])
                have HN : Hid (¬ fs[k] = gs[k] → eqFsB fs gs = false) := hide (fun he => eqFsB_no (fun h => he (HE2.out.1 (by rw [h]))))
                by_cases p1 : fs[k].name.toList = gs[k].name.toList
                · by_cases p2 : fs[k].text.toList = gs[k].text.toList
                  · by_cases p3 : fs[k].safe = gs[k].safe
                    · have HE3 := hide (HE2.out.2 (FileV.ext' (toList_inj p1) (toList_inj p2) p3))
                      clear HE2 HE HN
                      go_wp2
                      go_region
                      go_wp2
                      go_roundw
                      case rel => exact ⟨k + 1, by omega, by go_num, HE3, hide HB.out.drew⟩
                      case measure => first | (simp [intOf]; done) | (simp [intOf]; omega)
                    · have HF := hide (HN.out (fun h => p3 (by rw [h])))
                      clear HE2 HE HN
                      go_wp2
                      go_region
                      go_wp2
                      go_ret
                      exact ⟨by rw [HV.out, HF.out]; rfl, HB0.out.trans (HB.out.drew.mono HB0.out.size)⟩
                  · have HF := hide (HN.out (fun h => p2 (by rw [h])))
                    clear HE2 HE HN
                    go_wp2
                    go_region
                    go_wp2
                    go_ret
                    exact ⟨by rw [HV.out, HF.out]; rfl, HB0.out.trans (HB.out.drew.mono HB0.out.size)⟩
                · have HF := hide (HN.out (fun h => p1 (by rw [h])))
                  clear HE2 HE HN
                  go_wp2
                  go_region
                  go_wp2
                  go_ret
                  exact ⟨by rw [HV.out, HF.out]; rfl, HB0.out.trans (HB.out.drew.mono HB0.out.size)⟩
              · obtain rfl : k = n := by omega
                have HD : Hid (eqFsB fs gs = true) := hide (by
                  have h := HE.out
                  rw [List.take_of_length_le (by omega), List.take_of_length_le (by omega)] at h
                  exact eqFsB_yes h)
                clear HE
                go_wp2
                go_ret
                exact ⟨by rw [HV.out, HD.out]; rfl, HB0.out.trans (HB.out.mono HB0.out.size)⟩
        · have HV : Hid (eqDB fs gs c c' u u' d d' = false) := hide (by simp [eqDB, h4])
          clear h2 h3 HC0 HC1
          go_enter Try.func15, Try.ntmps15
          cases d <;> cases d' <;> first
            | exact absurd rfl h4
            | (go_wp2
               rw [← hW]
               go_wp2
               go_ret
               exact ⟨by rw [HV.out]; rfl, HB0.out⟩)
      · have t3 : (u != u') = true := by simpa using h3
        have HV : Hid (eqDB fs gs c c' u u' d d' = false) := hide (by simp [eqDB, h3])
        clear h2 h3 HC0 HC1
        go_enter Try.func15, Try.ntmps15
        go_wp2
        rw [← hW]
        go_wp2
        go_ret
        exact ⟨by rw [HV.out]; rfl, HB0.out⟩
    · have t2 : (c != c') = true := by simpa using h2
      have HV : Hid (eqDB fs gs c c' u u' d d' = false) := hide (by simp [eqDB, h2])
      clear h2 HC0 HC1
      go_enter Try.func15, Try.ntmps15
      go_wp2
      rw [← hW]
      go_wp2
      go_ret
      exact ⟨by rw [HV.out]; rfl, HB0.out⟩
  · have t1 : ((n : Int) != (m : Int)) = true := by simp; omega
    have HV : Hid (eqDB fs gs c c' u u' d d' = false) := hide (by
      have h : ¬ fs = gs := fun h => hnm (by rw [← hfn, ← hgm, h])
      simp [eqDB, eqFsB_no h])
    clear HC0 HC1
    go_enter Try.func15, Try.ntmps15
    go_wp2
    rw [← hW]
    go_wp2
    go_ret
    exact ⟨by rw [HV.out]; rfl, HB0.out⟩

end Go.Proofs.Ytnckdfidehbcaaa
