/-
  What the laws' eqFile, eqFileS and eqDisk answer: are they the same, field by field?
-/
import Derived.Test.YtnckdfidehbcaaaFiles
import Derived.Deep.RegionHeld
namespace Go.Proofs.Ytnckdfidehbcaaa
open Go.RowKit
open Plain

theorem FileV.ext' {f g : FileV} (h1 : f.name = g.name) (h2 : f.text = g.text) (h3 : f.safe = g.safe) : f = g := by
  cases f; cases g; simp_all
def eqFB (f g : FileV) : Bool := decide (f.name = g.name ∧ f.text = g.text ∧ f.safe = g.safe)
theorem eqFB_iff (f g : FileV) : eqFB f g = true ↔ f = g := by
  unfold eqFB
  rw [decide_eq_true_iff]
  exact ⟨fun h => FileV.ext' h.1 h.2.1 h.2.2, fun h => by subst h; exact ⟨rfl, rfl, rfl⟩⟩
theorem eqFB_yes {f g : FileV} (h : f = g) : eqFB f g = true := (eqFB_iff f g).2 h
theorem eqFB_no {f g : FileV} (h : ¬ f = g) : eqFB f g = false := Bool.eq_false_iff.2 (fun e => h ((eqFB_iff f g).1 e))
def eqFsB : List FileV → List FileV → Bool
  | [], [] => true
  | f :: r, g :: t => eqFB f g && eqFsB r t
  | [], _ :: _ => false
  | _ :: _, [] => false
theorem eqFsB_iff : ∀ fs gs : List FileV, eqFsB fs gs = true ↔ fs = gs
  | [], [] => ⟨fun _ => rfl, fun _ => rfl⟩
  | f :: r, g :: t => by
    unfold eqFsB
    rw [Bool.and_eq_true, eqFB_iff, eqFsB_iff r t, List.cons.injEq]
  | [], _ :: _ => ⟨fun h => (Bool.noConfusion h), fun h => (by cases h)⟩
  | _ :: _, [] => ⟨fun h => (Bool.noConfusion h), fun h => (by cases h)⟩
theorem eqFsB_yes {fs gs : List FileV} (h : fs = gs) : eqFsB fs gs = true := (eqFsB_iff fs gs).2 h
theorem eqFsB_no {fs gs : List FileV} (h : ¬ fs = gs) : eqFsB fs gs = false := Bool.eq_false_iff.2 (fun e => h ((eqFsB_iff fs gs).1 e))
theorem toList_inj {a b : ByteArray} (h : a.toList = b.toList) : a = b := by
  rw [ByteArray.toList_eq, ByteArray.toList_eq] at h
  cases a; cases b
  simp at h
  subst h
  rfl
theorem str_eq (a b : ByteArray) (h : a = b) : (a.toList == b.toList) = true := by subst h; simp
theorem str_ne (a b : ByteArray) (h : ¬ a = b) : (a.toList == b.toList) = false := by
  simp
  intro e
  exact h (toList_inj e)

set_option maxHeartbeats 400000 in
theorem eqFile_any (f g : FileV) (w : World) :
    Calls Try.prog 54 #[.agg #[.string f.name, .string f.text, .int .i64 f.safe], .agg #[.string g.name, .string g.text, .int .i64 g.safe]] w fun e w' => e = .returned (.bool (eqFB f g)) ∧ Below w.heap.size w w' := by
  have HB : Hid (∀ o0 o1 : Obj, Below w.heap.size w ((w.alloc o0).alloc o1)) := hide (fun o0 o1 => (alloc2 w o0 o1).2.1)
  by_cases h1 : f.name = g.name
  · have k1 := str_eq _ _ h1
    by_cases h2 : f.text = g.text
    · have k2 := str_eq _ _ h2
      by_cases h3 : f.safe = g.safe
      · have HD : Hid (eqFB f g = true) := hide (eqFB_yes (FileV.ext' h1 h2 h3))
        have k3 : (f.safe == g.safe) = true := by simpa using h3
        have k4 : (f.safe != g.safe) = false := by simpa using h3
        clear h1 h2 h3
        go_enter Try.func54, Try.ntmps54
        go_wp2
        go_ret
        exact ⟨by rw [HD.out]; rfl, HB.out _ _⟩
      · have HD : Hid (eqFB f g = false) := hide (eqFB_no (fun h => h3 (by rw [h])))
        have k3 : (f.safe == g.safe) = false := by simpa using h3
        have k4 : (f.safe != g.safe) = true := by simpa using h3
        clear h1 h2 h3
        go_enter Try.func54, Try.ntmps54
        go_wp2
        go_ret
        exact ⟨by rw [HD.out]; rfl, HB.out _ _⟩
    · have k2 := str_ne _ _ h2
      have HD : Hid (eqFB f g = false) := hide (eqFB_no (fun h => h2 (by rw [h])))
      clear h1 h2
      go_enter Try.func54, Try.ntmps54
      go_wp2
      go_ret
      exact ⟨by rw [HD.out]; rfl, HB.out _ _⟩
  · have k1 := str_ne _ _ h1
    have HD : Hid (eqFB f g = false) := hide (eqFB_no (fun h => h1 (by rw [h])))
    clear h1
    go_enter Try.func54, Try.ntmps54
    go_wp2
    go_ret
    exact ⟨by rw [HD.out]; rfl, HB.out _ _⟩

/-- Three cells: a file. -/
def At3 (w : World) (b o : Nat) (f : FileV) : Prop := w.cell? ⟨b, o, none⟩ = some (.string f.name) ∧ w.cell? ⟨b, o + 1, none⟩ = some (.string f.text) ∧ w.cell? ⟨b, o + 2, none⟩ = some (.int .i64 f.safe)
theorem At3.later {w w' : World} {b o K : Nat} {f : FileV} (h : At3 w b o f) (hb : Below K w w') (hK : b < K) : At3 w' b o f :=
  ⟨by rw [hb.cell (p := ⟨b, _, none⟩) hK]; exact h.1, by rw [hb.cell (p := ⟨b, _, none⟩) hK]; exact h.2.1, by rw [hb.cell (p := ⟨b, _, none⟩) hK]; exact h.2.2⟩

set_option maxRecDepth 100000 in
set_option maxHeartbeats 1000000 in
theorem eqFileS_any (w : World) (a b : Option Addr) (n m cap cap' : Nat) (fs gs : List FileV) (ha : FRow w 0 a n fs) (hb : FRow w 0 b m gs) (hn : n ≤ 1099511627776) (hm : m ≤ 1099511627776) :
    Calls Try.prog 38 #[.slice a n cap, .slice b m cap'] w fun e w' => e = .returned (.bool (eqFsB fs gs)) ∧ Below w.heap.size w w' := by
  have hfn := ha.len
  have hgm := hb.len
  have HA := hide ha
  have HG := hide hb
  clear ha hb
  by_cases hnm : n = m
  · subst hnm
    go_enter Try.func38, Try.ntmps38
    go_wp2
    go_loopw [5] (fun i wr => ∃ k : Nat, k ≤ n ∧ i = .int .i64 k ∧ Hid (fs.take k = gs.take k) ∧ Hid (Below w.heap.size w wr)) (fun i _ => n - (intOf i).toNat)
    case atStart => exact ⟨0, by omega, rfl, hide (by simp), hide (Below.refl _ _)⟩
    case round =>
      obtain ⟨k, hk, rfl, HE, HB⟩ := hrel
      by_cases hlt : k < n
      · have h1 : k < fs.length := by omega
        have h2 : k < gs.length := by omega
        obtain ⟨b1, o1, rfl, -, hb1, e1, e2, e3⟩ := (HA.out.later HB.out (Nat.le_refl _)).cells k h1
        obtain ⟨b2, o2, rfl, -, hb2, g1, g2, g3⟩ := (HG.out.later HB.out (Nat.le_refl _)).cells k h2
        have HS0 : Hid (wr.drew.cell? ⟨b1, o1 + k * 3, none⟩ = some (.string (fs[k]).name) ∧ wr.drew.cell? ⟨b1, o1 + k * 3 + 1, none⟩ = some (.string (fs[k]).text) ∧ wr.drew.cell? ⟨b1, o1 + k * 3 + 2, none⟩ = some (.int .i64 (fs[k]).safe) ∧ wr.drew.cell? ⟨b2, o2 + k * 3, none⟩ = some (.string (gs[k]).name) ∧ wr.drew.cell? ⟨b2, o2 + k * 3 + 1, none⟩ = some (.string (gs[k]).text) ∧ wr.drew.cell? ⟨b2, o2 + k * 3 + 2, none⟩ = some (.int .i64 (gs[k]).safe)) := hide ⟨e1, e2, e3, g1, g2, g3⟩
        have HSL : Hid (∀ w4, Below wr.drew.heap.size wr.drew w4 → w4.cell? ⟨b1, o1 + k * 3, none⟩ = some (.string (fs[k]).name) ∧ w4.cell? ⟨b1, o1 + k * 3 + 1, none⟩ = some (.string (fs[k]).text) ∧ w4.cell? ⟨b1, o1 + k * 3 + 2, none⟩ = some (.int .i64 (fs[k]).safe) ∧ w4.cell? ⟨b2, o2 + k * 3, none⟩ = some (.string (gs[k]).name) ∧ w4.cell? ⟨b2, o2 + k * 3 + 1, none⟩ = some (.string (gs[k]).text) ∧ w4.cell? ⟨b2, o2 + k * 3 + 2, none⟩ = some (.int .i64 (gs[k]).safe)) := hide (fun w4 h4 => by
          refine ⟨?_, ?_, ?_, ?_, ?_, ?_⟩ <;> (rw [h4.cell (by assumption)]; assumption))
        have HE2 : Hid (fs.take (k + 1) = gs.take (k + 1) ↔ fs[k] = gs[k]) := hide (by
          rw [List.take_succ_eq_append_getElem h1, List.take_succ_eq_append_getElem h2, HE.out]
          constructor
          · intro h
            simpa using List.append_cancel_left h
          · intro h
            rw [h])
        have hk2 : (k : Int) < (n : Int) := by omega
        go_wp2
        clear e1 e2 e3 g1 g2 g3
        go_region_held (fun w' => w'.cell? ⟨b1, o1 + k * 3, none⟩ = some (.string (fs[k]).name) ∧ w'.cell? ⟨b1, o1 + k * 3 + 1, none⟩ = some (.string (fs[k]).text) ∧ w'.cell? ⟨b1, o1 + k * 3 + 2, none⟩ = some (.int .i64 (fs[k]).safe) ∧ w'.cell? ⟨b2, o2 + k * 3, none⟩ = some (.string (gs[k]).name) ∧ w'.cell? ⟨b2, o2 + k * 3 + 1, none⟩ = some (.string (gs[k]).text) ∧ w'.cell? ⟨b2, o2 + k * 3 + 2, none⟩ = some (.int .i64 (gs[k]).safe)) (first | exact HS0.out | assumption) ((go_at_call 54; refine (eqFile_any (fs[k]) (gs[k]) _).mono ?_; rintro e w4 ⟨rfl, hb4⟩; have hS4 := HSL.out w4 hb4))
        have HB4 := hide (HB.out.drew.trans (hb4.mono HB.out.size))
        clear hb4 hS4 HS0 HSL
        by_cases he : fs[k] = gs[k]
        · have hd : eqFB fs[k] gs[k] = true := eqFB_yes he
          have HE3 := hide (HE2.out.2 he)
          rw [hd]
          clear he hd HE2 HE
          go_wp2
          go_roundw
          case rel => exact ⟨k + 1, by omega, by go_num, HE3, HB4⟩
          case measure => first | (simp [intOf]; done) | (simp [intOf]; omega)
        · have hd : eqFB fs[k] gs[k] = false := eqFB_no he
          have HD : Hid (eqFsB fs gs = false) := hide (eqFsB_no (fun h => he (HE2.out.1 (by rw [h]))))
          rw [hd]
          clear he hd HE2 HE
          go_wp2
          go_ret
          exact ⟨by rw [HD.out]; rfl, HB4.out⟩
      · obtain rfl : k = n := by omega
        have HD : Hid (eqFsB fs gs = true) := hide (by
          have h := HE.out
          rw [List.take_of_length_le (by omega), List.take_of_length_le (by omega)] at h
          exact eqFsB_yes h)
        clear HE
        go_wp2
        go_ret
        exact ⟨by rw [HD.out]; rfl, HB.out⟩
  · have HD : Hid (eqFsB fs gs = false) := hide (eqFsB_no (fun h => hnm (by rw [← hfn, ← hgm, h])))
    go_enter Try.func38, Try.ntmps38
    go_wp2
    go_ret
    exact ⟨by rw [HD.out]; rfl, Below.refl _ _⟩

def eqDB (fs gs : List FileV) (c c' u u' : Int) (d d' : Bool) : Bool := eqFsB fs gs && decide (c = c' ∧ u = u' ∧ d = d')
theorem eqDB_iff (fs gs : List FileV) (c c' u u' : Int) (d d' : Bool) : eqDB fs gs c c' u u' d d' = true ↔ (fs = gs ∧ c = c' ∧ u = u' ∧ d = d') := by unfold eqDB; rw [Bool.and_eq_true, eqFsB_iff, decide_eq_true_iff]
set_option maxRecDepth 100000 in
set_option maxHeartbeats 1000000 in
theorem eqDisk_any (w : World) (a b : Option Addr) (n m cap cap' : Nat) (fs gs : List FileV) (ha : FRow w 0 a n fs) (hb : FRow w 0 b m gs) (hn : n ≤ 1099511627776) (hm : m ≤ 1099511627776) (c u c' u' : Int) (d d' : Bool) :
    Calls Try.prog 18 #[.agg #[.slice a n cap, .int .i64 c, .int .i64 u, .bool d], .agg #[.slice b m cap', .int .i64 c', .int .i64 u', .bool d']] w fun e w' => e = .returned (.bool (eqDB fs gs c c' u u' d d')) ∧ Below w.heap.size w w' := by
  obtain ⟨W, hW⟩ : ∃ W, W = (w.alloc (.cells #[.slice a n cap, .int .i64 c, .int .i64 u, .bool d] 44)).alloc (.cells #[.slice b m cap', .int .i64 c', .int .i64 u', .bool d'] 44) := ⟨_, rfl⟩
  have hA := alloc2 w (.cells #[.slice a n cap, .int .i64 c, .int .i64 u, .bool d] 44) (.cells #[.slice b m cap', .int .i64 c', .int .i64 u', .bool d'] 44)
  rw [← hW] at hA
  have HS := hide hA.1
  have HB0 := hide hA.2.1
  have HC0 := hide hA.2.2.1
  have HC1 := hide hA.2.2.2
  clear hA
  have HA := hide (ha.later HB0.out (Nat.le_refl _))
  have HG := hide (hb.later HB0.out (Nat.le_refl _))
  clear ha hb
  go_enter Try.func18, Try.ntmps18
  go_wp2_with fail
  rw [← hW]
  clear hW
  refine (eqFileS_any W a b n m cap cap' fs gs HA.out HG.out hn hm).mono ?_
  rintro e w2 ⟨rfl, hb2⟩
  have d0 := cells4 ((hb2.block _ (by have := HS.out; omega)).trans HC0.out)
  have d1 := cells4 ((hb2.block _ (by have := HS.out; omega)).trans HC1.out)
  have HB2 := hide (HB0.out.trans (hb2.mono HB0.out.size))
  clear hb2 HC0 HC1 HS HB0 HA HG
  obtain ⟨a0, a1, a2, a3, -, -, -, -⟩ := d0
  obtain ⟨b0, b1, b2, b3, -, -, -, -⟩ := d1
  by_cases h1 : fs = gs
  · have t1 : eqFsB fs gs = true := eqFsB_yes h1
    rw [t1]
    by_cases h2 : c = c'
    · have t2 : (c != c') = false := by simpa using h2
      by_cases h3 : u = u'
      · have t3 : (u != u') = false := by simpa using h3
        cases d <;> cases d'
        · have HD : Hid (eqDB fs gs c c' u u' false false = true) := hide (by simp [eqDB, t1, h2, h3])
          clear t1 h1 h2 h3
          go_wp2
          go_ret
          exact ⟨by rw [HD.out]; rfl, HB2.out⟩
        · have HD : Hid (eqDB fs gs c c' u u' false true = false) := hide (by simp [eqDB, t1, h2, h3])
          clear t1 h1 h2 h3
          go_wp2
          go_ret
          exact ⟨by rw [HD.out]; rfl, HB2.out⟩
        · have HD : Hid (eqDB fs gs c c' u u' true false = false) := hide (by simp [eqDB, t1, h2, h3])
          clear t1 h1 h2 h3
          go_wp2
          go_ret
          exact ⟨by rw [HD.out]; rfl, HB2.out⟩
        · have HD : Hid (eqDB fs gs c c' u u' true true = true) := hide (by simp [eqDB, t1, h2, h3])
          clear t1 h1 h2 h3
          go_wp2
          go_ret
          exact ⟨by rw [HD.out]; rfl, HB2.out⟩
      · have t3 : (u != u') = true := by simpa using h3
        have HD : Hid (eqDB fs gs c c' u u' d d' = false) := hide (by simp [eqDB, h3])
        clear t1 h1 h2 h3
        go_wp2
        go_ret
        exact ⟨by rw [HD.out]; rfl, HB2.out⟩
    · have t2 : (c != c') = true := by simpa using h2
      have HD : Hid (eqDB fs gs c c' u u' d d' = false) := hide (by simp [eqDB, h2])
      clear t1 h1 h2
      go_wp2
      go_ret
      exact ⟨by rw [HD.out]; rfl, HB2.out⟩
  · have t1 : eqFsB fs gs = false := eqFsB_no h1
    have HD : Hid (eqDB fs gs c c' u u' d d' = false) := hide (by simp [eqDB, t1])
    rw [t1]
    clear t1 h1
    go_wp2
    go_ret
    exact ⟨by rw [HD.out]; rfl, HB2.out⟩

end Go.Proofs.Ytnckdfidehbcaaa
