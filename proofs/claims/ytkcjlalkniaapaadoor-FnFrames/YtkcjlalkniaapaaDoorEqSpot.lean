/-
  What the laws' eqSpot and eqSpotS answer: are they the same, field by field?
-/
import Derived.Test.YtkcjlalkniaapaaDoorBC
import Derived.Test.YtkcjlalkniaapaaDoorLawRecBase
import Derived.Deep.RegionHeld3
namespace Go.Proofs.YtkcjlalkniaapaaDoor
open Go.RowKit
open Plain

def eqSp (p q : SpotV) : Bool := decide (p.pos = q.pos ∧ p.len = q.len ∧ eqN p.r.kind p.r.batch p.r.key p.r.val p.r.cnt p.r.sum q.r.kind q.r.batch q.r.key q.r.val q.r.cnt q.r.sum = true)
theorem eqSp_iff (p q : SpotV) : eqSp p q = true ↔ p = q := by
  unfold eqSp
  rw [decide_eq_true_iff]
  obtain ⟨a, b, r⟩ := p
  obtain ⟨c, d, t⟩ := q
  constructor
  · rintro ⟨h1, h2, h3⟩
    have h4 := of_decide_eq_true h3
    simp only at h1 h2 h4
    have h5 : r = t := RecV.ext' h4.1 h4.2.1 h4.2.2.1 h4.2.2.2.1 h4.2.2.2.2.1 h4.2.2.2.2.2
    rw [h1, h2, h5]
  · intro h
    injection h with h1 h2 h3
    subst h1; subst h2; subst h3
    exact ⟨rfl, rfl, eqN_yes ⟨rfl, rfl, rfl, rfl, rfl, rfl⟩⟩

set_option maxRecDepth 100000 in
set_option maxHeartbeats 1000000 in
theorem eqSpot_any (p q : SpotV) : Ans 48 #[.agg #[.int .i64 (p.pos : Nat), .int .i64 (p.len : Nat), .int .i64 p.r.kind, .int .i64 p.r.batch, .string p.r.key, .string p.r.val, .int .i64 p.r.cnt, .int .i64 p.r.sum], .agg #[.int .i64 (q.pos : Nat), .int .i64 (q.len : Nat), .int .i64 q.r.kind, .int .i64 q.r.batch, .string q.r.key, .string q.r.val, .int .i64 q.r.cnt, .int .i64 q.r.sum]] (.bool (eqSp p q)) := by
  intro w
  by_cases h1 : p.pos = q.pos
  · have t1 : ((p.pos : Int) != (q.pos : Int)) = false := by simp; omega
    by_cases h2 : p.len = q.len
    · have t2 : ((p.len : Int) != (q.len : Int)) = false := by simp; omega
      have HE := hide (eqRec_any p.r.kind p.r.batch p.r.key p.r.val p.r.cnt p.r.sum q.r.kind q.r.batch q.r.key q.r.val q.r.cnt q.r.sum)
      have HV : Hid (eqSp p q = eqN p.r.kind p.r.batch p.r.key p.r.val p.r.cnt p.r.sum q.r.kind q.r.batch q.r.key q.r.val q.r.cnt q.r.sum) := hide (by
        unfold eqSp
        cases eqN p.r.kind p.r.batch p.r.key p.r.val p.r.cnt p.r.sum q.r.kind q.r.batch q.r.key q.r.val q.r.cnt q.r.sum <;> simp [h1, h2])
      clear h1 h2
      cases hz : eqN p.r.kind p.r.batch p.r.key p.r.val p.r.cnt p.r.sum q.r.kind q.r.batch q.r.key q.r.val q.r.cnt q.r.sum
      all_goals
        rw [hz] at HE HV
        clear hz
        go_enter Tryd.func48, Tryd.ntmps48
        go_wp2_with fail
        refine (HE.out _).mono ?_
        rintro e w1 ⟨rfl, hb1⟩
        have HB := hide ((al2 w _ _).trans (hb1.mono (al2 w _ _).size))
        clear hb1 HE
        go_wp2
        go_ret
        exact ⟨by rw [HV.out]; rfl, HB.out⟩
    · have t2 : ((p.len : Int) != (q.len : Int)) = true := by simp; omega
      have HV : Hid (eqSp p q = false) := hide (decide_eq_false (fun h => h2 h.2.1))
      clear h1 h2
      go_enter Tryd.func48, Tryd.ntmps48
      go_wp2
      go_ret
      exact ⟨by rw [HV.out]; rfl, al2 _ _ _⟩
  · have t1 : ((p.pos : Int) != (q.pos : Int)) = true := by simp; omega
    have HV : Hid (eqSp p q = false) := hide (decide_eq_false (fun h => h1 h.1))
    clear h1
    go_enter Tryd.func48, Tryd.ntmps48
    go_wp2
    go_ret
    exact ⟨by rw [HV.out]; rfl, al2 _ _ _⟩

theorem spot_cells {w : World} {a : Option Addr} {n : Nat} {xs : List SpotV} (h : spotSh.Row w a n xs) (i : Nat) (hi : i < xs.length) : ∃ b off, a = some ⟨b, off, none⟩ ∧ b < w.heap.size ∧
    w.cell? ⟨b, off + i * 8, none⟩ = some (.int .i64 ((xs[i]).pos : Nat)) ∧ w.cell? ⟨b, off + i * 8 + 1, none⟩ = some (.int .i64 ((xs[i]).len : Nat)) ∧ w.cell? ⟨b, off + i * 8 + 2, none⟩ = some (.int .i64 (xs[i]).r.kind) ∧ w.cell? ⟨b, off + i * 8 + 3, none⟩ = some (.int .i64 (xs[i]).r.batch) ∧ w.cell? ⟨b, off + i * 8 + 4, none⟩ = some (.string (xs[i]).r.key) ∧ w.cell? ⟨b, off + i * 8 + 5, none⟩ = some (.string (xs[i]).r.val) ∧ w.cell? ⟨b, off + i * 8 + 6, none⟩ = some (.int .i64 (xs[i]).r.cnt) ∧ w.cell? ⟨b, off + i * 8 + 7, none⟩ = some (.int .i64 (xs[i]).r.sum) := by
  obtain ⟨b, off, h1, h2, h3⟩ := h.cells i hi
  exact ⟨b, off, h1, h2, h3 0 (by decide), h3 1 (by decide), h3 2 (by decide), h3 3 (by decide), h3 4 (by decide), h3 5 (by decide), h3 6 (by decide), h3 7 (by decide)⟩

set_option maxRecDepth 100000 in
set_option maxHeartbeats 4000000 in
theorem eqSpotS_same (w : World) (a b : Option Addr) (n cap cap' : Nat) (xs : List SpotV) (ha : spotSh.Row w a n xs) (hb : spotSh.Row w b n xs) (hn : n ≤ 1048576) :
    Calls Tryd.prog 20 #[.slice a n cap, .slice b n cap'] w fun e w' => e = .returned (.bool true) ∧ Below w.heap.size w w' := by
  have HA := hide ha
  have HB := hide hb
  have HLN := hide ha.len
  clear ha hb
  go_enter Tryd.func20, Tryd.ntmps20
  go_wp2
  go_loopw [5] (fun x wr => ∃ k : Nat, k ≤ n ∧ x = .int .i64 k ∧ Hid (Below w.heap.size w wr)) (fun x _ => n - (intOf x).toNat)
  case atStart => exact ⟨0, by omega, rfl, hide (Below.refl _ _)⟩
  case round =>
    obtain ⟨k, hk, rfl, HW⟩ := hrel
    by_cases hlt : k < n
    · have hkx : k < xs.length := by have := HLN.out; omega
      obtain ⟨b1, o1, rfl, hb1, c0, c1, c2, c3, c4, c5, c6, c7⟩ := spot_cells (HA.out.later HW.out) k hkx
      obtain ⟨b2, o2, rfl, hb2, d0, d1, d2, d3, d4, d5, d6, d7⟩ := spot_cells (HB.out.later HW.out) k hkx
      have HE := hide (eqSpot_any (xs[k]) (xs[k]))
      rw [(eqSp_iff _ _).2 rfl] at HE
      have hk2 : (k : Int) < (n : Int) := by omega
      go_wp2_with fail
      go_region_with (go_at_call 48; refine (HE.out _).mono ?_; rintro e w1 ⟨rfl, hb1⟩)
      all_goals
        have HW1 := hide (HW.out.trans (((Below.refl _ _).drew.trans hb1).mono HW.out.size))
        clear hb1 HW HE c0 c1 c2 c3 c4 c5 c6 c7 d0 d1 d2 d3 d4 d5 d6 d7
        go_wp2
        go_roundw
        case rel => exact ⟨k + 1, by omega, by go_num, HW1⟩
        case measure => first | (simp [intOf]; done) | (simp [intOf]; omega)
    · obtain rfl : k = n := by omega
      go_wp2
      go_ret
      exact ⟨rfl, HW.out⟩

end Go.Proofs.YtkcjlalkniaapaaDoor
