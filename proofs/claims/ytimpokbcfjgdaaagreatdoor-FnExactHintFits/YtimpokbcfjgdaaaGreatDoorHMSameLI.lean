/-
  impl.sameList at entries.
-/
import Derived.Test.YtimpokbcfjgdaaaGreatDoorHG04
import Derived.Laws.StructEq
import Derived.BigQuiet
import Derived.Deep.QuietTactic
namespace Go.Proofs.YtimpokbcfjgdaaaGreatDoor
open Go.RowKit
open Plain

theorem ent_neq (f g : EntV) (w : World) : (binOp .neq 71 (.agg #[.string f.key, .int .i64 f.seg, .int .i64 f.pos, .int .i64 f.len, .int .i64 f.bat]) (.agg #[.string g.key, .int .i64 g.seg, .int .i64 g.pos, .int .i64 g.len, .int .i64 g.bat])).run Tryz.prog w = .ok (.bool (!eqE f g)) w := by
  have hS : Tryz.prog.underlying 71 = some (.struct (Tryz.prog.fieldsOf 71)) := by kernel_rfl
  have hp : Tryz.prog.stoodInHeld 71 = false := by kernel_rfl
  have u3 := Tryz.underlying3
  have a3 := Tryz.isAgg3
  have z3 := Tryz.sizeOf3
  have u9 := Tryz.underlying9
  have a9 := Tryz.isAgg9
  have z9 := Tryz.sizeOf9
  rw [run_neq_struct, show (10000 : Nat) = 9999 + 1 from rfl, run_equalIn_agg w 9999 71 _ _ hS hp]
  simp only [Program.fieldsOf, Tryz.underlying71]
  by_cases h1 : f.key = g.key
  · have t1 := str_eq _ _ h1
    by_cases h2 : f.seg = g.seg
    · have t2 : (f.seg == g.seg) = true := by simpa using h2
      by_cases h3 : f.pos = g.pos
      · have t3 : (f.pos == g.pos) = true := by simpa using h3
        by_cases h4 : f.len = g.len
        · have t4 : (f.len == g.len) = true := by simpa using h4
          by_cases h5 : f.bat = g.bat
          · have h : f = g := EntV.ext' h1 h2 h3 h4 h5
            rw [(eqE_iff _ _).2 h]
            subst h
            clear t2 t3 t4 h1 h2 h3 h4 h5
            go_simp
            try simp
          · rw [eqE_no (fun h => h5 (by rw [h]))]
            have t5 : (f.bat == g.bat) = false := by simpa using h5
            go_simp
        · rw [eqE_no (fun h => h4 (by rw [h]))]
          have t4 : (f.len == g.len) = false := by simpa using h4
          go_simp
      · rw [eqE_no (fun h => h3 (by rw [h]))]
        have t3 : (f.pos == g.pos) = false := by simpa using h3
        go_simp
    · rw [eqE_no (fun h => h2 (by rw [h]))]
      have t2 : (f.seg == g.seg) = false := by simpa using h2
      go_simp
  · rw [eqE_no (fun h => h1 (by rw [h]))]
    have t1 := str_ne _ _ h1
    go_simp
theorem ent_guard : Tryz.prog.eqGuardType Tryz.prog.depth 71 = false := by kernel_rfl

/-- Are two lists of entries the same? -/
def sameE : List EntV → List EntV → Bool
  | [], [] => true
  | f :: r, g :: t => eqE f g && sameE r t
  | [], _ :: _ => false
  | _ :: _, [] => false
theorem sameE_iff : ∀ fs gs : List EntV, sameE fs gs = true ↔ fs = gs
  | [], [] => ⟨fun _ => rfl, fun _ => rfl⟩
  | f :: r, g :: t => by
    unfold sameE
    rw [Bool.and_eq_true, eqE_iff, sameE_iff r t, List.cons.injEq]
  | [], _ :: _ => ⟨fun h => (Bool.noConfusion h), fun h => (by cases h)⟩
  | _ :: _, [] => ⟨fun h => (Bool.noConfusion h), fun h => (by cases h)⟩
theorem sameE_no {fs gs : List EntV} (h : ¬ fs = gs) : sameE fs gs = false := Bool.eq_false_iff.2 (fun e => h ((sameE_iff fs gs).1 e))

attribute [local go_sem] ent_neq ent_guard

set_option maxRecDepth 100000 in
set_option maxHeartbeats 4000000 in
theorem sameLE_any (w : World) (a b : Option Addr) (n m cap cap' : Nat) (fs gs : List EntV) (ha : entSh.Row w a n fs) (hb : entSh.Row w b m gs) (hn : n ≤ 1099511627776) (hm : m ≤ 1099511627776) :
    Calls Tryz.prog 49 #[.slice a n cap, .slice b m cap'] w fun e w' => e = .returned (.bool (sameE fs gs)) ∧ Below w.heap.size w w' := by
  have hfn := ha.len
  have hgm := hb.len
  have HA := hide ha
  have HG := hide hb
  clear ha hb
  by_cases hnm : n = m
  · subst hnm
    go_enter Tryz.func49, Tryz.ntmps49
    go_wp2
    go_loopw [14] (fun i wr => ∃ k : Nat, k ≤ n ∧ i = .int .i64 k ∧ Hid (fs.take k = gs.take k) ∧ Hid (Below w.heap.size w wr)) (fun i _ => n - (intOf i).toNat)
    case atStart => exact ⟨0, by omega, rfl, hide (by simp), hide (Below.refl _ _)⟩
    case round =>
      obtain ⟨k, hk, rfl, HE, HB⟩ := hrel
      by_cases hlt : k < n
      · have h1 : k < fs.length := by omega
        have h2 : k < gs.length := by omega
        obtain ⟨b1, o1, rfl, hb1, e0, e1, e2, e3, e4⟩ := ent_cells (HA.out.later HB.out) k h1
        obtain ⟨b2, o2, rfl, hb2, g0, g1, g2, g3, g4⟩ := ent_cells (HG.out.later HB.out) k h2
        have hk2 : (k : Int) < (n : Int) := by omega
        have HE2 : Hid (fs.take (k + 1) = gs.take (k + 1) ↔ fs[k] = gs[k]) := hide (by
          rw [List.take_succ_eq_append_getElem h1, List.take_succ_eq_append_getElem h2, HE.out]
          constructor
          · intro h
            simpa using List.append_cancel_left h
          · intro h
            rw [h])
        obtain ⟨z, hz⟩ : ∃ z, fs[k] = z := ⟨_, rfl⟩
        obtain ⟨y, hy⟩ : ∃ y, gs[k] = y := ⟨_, rfl⟩
        rw [hz] at e0 e1 e2 e3 e4 HE2
        rw [hy] at g0 g1 g2 g3 g4 HE2
        have hne := ent_neq z y
        clear hz hy
        obtain ⟨W2, hW2⟩ : ∃ W2, W2 = wr.alloc (.cells #[.string z.key, .int .i64 z.seg, .int .i64 z.pos, .int .i64 z.len, .int .i64 z.bat] 71) := ⟨_, rfl⟩
        have hbx : Blk5 W2 wr.heap.size z := by rw [hW2]; exact Blk5.new wr z
        have HB2 : Hid (∀ q, Below w.heap.size w (W2.drewN q)) := hide (fun _ => by
          have h : Below w.heap.size w W2 := by rw [hW2]; exact HB.out.alloc HB.out.size _
          exact ⟨h.os, h.tape, h.output, h.size, h.block⟩)
        have hal := al1 wr (.cells #[.string z.key, .int .i64 z.seg, .int .i64 z.pos, .int .i64 z.len, .int .i64 z.bat] 71)
        have G0 := (hal.cell (p := ⟨b2, o2 + k * 5, none⟩) hb2).trans g0
        have G1 := (hal.cell (p := ⟨b2, o2 + k * 5 + 1, none⟩) hb2).trans g1
        have G2 := (hal.cell (p := ⟨b2, o2 + k * 5 + 2, none⟩) hb2).trans g2
        have G3 := (hal.cell (p := ⟨b2, o2 + k * 5 + 3, none⟩) hb2).trans g3
        have G4 := (hal.cell (p := ⟨b2, o2 + k * 5 + 4, none⟩) hb2).trans g4
        rw [← hW2] at G0 G1 G2 G3 G4
        have hk3 : (k : Int) < (n : Int) := hk2
        go_wp2_with fail
        rw [← hW2]
        clear hW2 hal e0 e1 e2 e3 e4 g0 g1 g2 g3 g4 hb1 hb2
        obtain ⟨y0, y1, y2, y3, y4, -⟩ := cells5 hbx
        clear hbx
        cases hxy : eqE z y with
        | true =>
          rw [hxy] at hne
          have HE3 := hide (HE2.out.2 ((eqE_iff _ _).1 hxy))
          clear HE2 HE HB
          go_quiet (fail)
          go_wp2
          go_roundw
          case rel => exact ⟨k + 1, by omega, by go_num, HE3, hide (HB2.out _)⟩
          case measure => first | (simp [intOf]; done) | (simp [intOf]; omega)
        | false =>
          rw [hxy] at hne
          have HF := hide (sameE_no (fs := fs) (gs := gs) (fun h => by
            have := HE2.out.1 (by rw [h])
            rw [(eqE_iff z y).2 this] at hxy
            cases hxy))
          clear HE2 HE HB
          go_quiet (fail)
          go_wp2
          go_ret
          exact ⟨by rw [HF.out]; rfl, HB2.out _⟩
      · obtain rfl : k = n := by omega
        have HV : Hid (sameE fs gs = true) := hide ((sameE_iff _ _).2 (by
          have h := HE.out
          rw [List.take_of_length_le (by omega), List.take_of_length_le (by omega)] at h
          exact h))
        clear HE
        go_wp2
        go_ret
        exact ⟨by rw [HV.out]; rfl, HB.out⟩
  · have HF := hide (sameE_no (fs := fs) (gs := gs) (fun h => hnm (by rw [← hfn, ← hgm, h])))
    have t0 : ((n : Int) != (m : Int)) = true := by simp; omega
    go_enter Tryz.func49, Tryz.ntmps49
    go_wp2
    go_ret
    exact ⟨by rw [HF.out]; rfl, Below.refl _ _⟩

end Go.Proofs.YtimpokbcfjgdaaaGreatDoor
