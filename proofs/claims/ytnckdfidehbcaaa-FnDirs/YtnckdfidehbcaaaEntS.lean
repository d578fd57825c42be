/-
  What the laws' szEntryS, toEntryS and eqEntryS answer; a slice of entries that comes in as an argument.
-/
import Derived.Test.YtnckdfidehbcaaaRowPutC
import Derived.Test.YtnckdfidehbcaaaEntLaw
import Derived.Deep.RegionHeld3
namespace Go.Proofs.Ytnckdfidehbcaaa
open Go.RowKit Go.Deep
open Plain

def szEs : List EntV → Nat
  | [] => 0
  | r :: l => r.key.size + szEs l
theorem szEs_append (l m : List EntV) : szEs (l ++ m) = szEs l + szEs m := by
  induction l with
  | nil => simp [szEs]
  | cons r l ih => rw [List.cons_append, szEs, szEs, ih]; omega
theorem szEs_take_succ (l : List EntV) (k : Nat) (h : k < l.length) : szEs (l.take (k + 1)) = szEs (l.take k) + (l[k]).key.size := by
  rw [List.take_succ_eq_append_getElem h, szEs_append]
  simp [szEs]
theorem szEs_take_le (l : List EntV) (k : Nat) : szEs (l.take k) ≤ szEs l := by
  have := szEs_append (l.take k) (l.drop k)
  rw [List.take_append_drop] at this
  omega
theorem szEs_mem (l : List EntV) (k : Nat) (h : k < l.length) : (l[k]).key.size ≤ szEs l := by
  have := szEs_take_succ l k h
  have := szEs_take_le l (k + 1)
  omega
/-- Every key of the entries can be. -/
def EFits (l : List EntV) : Prop := ∀ i, (h : i < l.length) → (l[i]).key.size ≤ maxLen

set_option maxRecDepth 100000 in
set_option maxHeartbeats 1000000 in
theorem szEntS_any (w : World) (a : Option Addr) (len cap : Nat) (fs : List EntV) (hr : entSh.Row w a len fs) (hf : EFits fs) (hl : len ≤ maxLen) (l : Int) (h0 : 0 ≤ l) (h1 : l ≤ 1048576) :
    Calls Try.prog 19 #[.slice a len cap, .int .i64 l] w fun e w' => e = .returned (.int .i64 (lessR l (len + szEs fs : Nat))) ∧ Below w.heap.size w w' := by
  unfold maxLen at hl
  have HR := hide hr
  have HF := hide hf
  have hlen := hr.len
  clear hr hf
  by_cases c1 : l - (len : Int) < 0
  · have HV := hide (lessR_no (l := l) (n := ((len + szEs fs : Nat) : Int)) (by omega))
    go_enter Try.func19, Try.ntmps19
    go_wp2
    go_ret
    exact ⟨by rw [HV.out]; rfl, Below.refl _ _⟩
  · go_enter Try.func19, Try.ntmps19
    go_wp2
    go_loopw [1, 5] (fun v i wr => ∃ k : Nat, k ≤ len ∧ i = .int .i64 k ∧ v = .int .i64 (l - (len : Int) - (szEs (fs.take k) : Int)) ∧ (szEs (fs.take k) : Int) ≤ l - (len : Int) ∧ Hid (Below w.heap.size w wr)) (fun _ i _ => len - (intOf i).toNat)
    case atStart => exact ⟨0, by omega, rfl, by simp [szEs], by simp [szEs]; omega, hide (Below.refl _ _)⟩
    case round =>
      obtain ⟨k, hk, rfl, rfl, hle, HB⟩ := hrel
      by_cases hlt : k < len
      · have hkf : k < fs.length := by omega
        obtain ⟨b, off, rfl, hbw, e1, e2, e3, e4, e5⟩ := ent_cells (HR.out.later HB.out) k hkf
        have hfit := HF.out k hkf
        have hst := szEs_take_succ fs k hkf
        have HLE := hide (szEs_take_le fs (k + 1))
        generalize szEs (fs.take k) = S at *
        go_wp2_with fail
        refine (szEnt_any (fs[k]) (l - (len : Int) - (S : Int)) (by omega) (by omega) hfit wr).mono ?_
        rintro e w2 ⟨rfl, hb2⟩
        have HB2 := hide (HB.out.trans (hb2.mono HB.out.size))
        clear hb2 e1 e2 e3 e4 e5 HB
        by_cases c2 : ((fs[k]).key.size : Int) ≤ l - (len : Int) - (S : Int)
        · rw [lessR_yes c2]
          have HS2 : Hid (l - (len : Int) - (S : Int) - ((fs[k]).key.size : Int) = l - (len : Int) - (szEs (fs.take (k + 1)) : Int)) := hide (by omega)
          have hle2 : (szEs (fs.take (k + 1)) : Int) ≤ l - (len : Int) := by omega
          clear hst HLE
          generalize (fs[k]).key.size = sf at *
          go_wp2
          go_roundw
          case rel => exact ⟨k + 1, by omega, by go_num, by rw [HS2.out], by omega, HB2⟩
          case measure => first | (simp [intOf]; done) | (simp [intOf]; omega)
        · rw [lessR_no (by omega)]
          have HV := hide (lessR_no (l := l) (n := ((len + szEs fs : Nat) : Int)) (by have := HLE.out; omega))
          clear hst HLE
          go_wp2
          go_ret
          exact ⟨by rw [HV.out]; rfl, HB2.out⟩
      · obtain rfl : k = len := by omega
        rw [List.take_of_length_le (by omega)] at hle ⊢
        have HV : Hid (lessR l ((k + szEs fs : Nat) : Int) = l - (k : Int) - (szEs fs : Int)) := hide (by rw [lessR_yes (by omega)]; omega)
        go_wp2
        go_ret
        exact ⟨by rw [HV.out]; rfl, HB.out⟩

set_option maxRecDepth 100000 in
set_option maxHeartbeats 1000000 in
theorem toEntS_any (w : World) (a : Option Addr) (len cap : Nat) (fs : List EntV) (hr : entSh.Row w a len fs) (hl : len ≤ 1048576) :
    Calls Try.prog 21 #[.slice a len cap] w fun e w' => e = .returned (.slice (some ⟨w.heap.size, 0, none⟩) len len) ∧ entSh.Own 26 w' w.heap.size (.slice (some ⟨w.heap.size, 0, none⟩) len len) fs ∧ Below w.heap.size w w' := by
  have HR := hide hr
  have hlen := hr.len
  clear hr
  obtain ⟨i0, hi, hz0, hz1, hz2⟩ := info_parts Try.infoEnt
  obtain ⟨w1, hmk, hown, hgrow⟩ := run_make_full (P := Try.prog) w w.heap.size 24 26 i0 _ 5 Try.underlying24 hi hz0 hz1 .i64 .i64 len (by rw [hz2]; omega) (by unfold maxLen; omega) (Nat.le_refl _)
  have HB1 := hide ((Below.refl w.heap.size w).grown hgrow (Nat.le_refl _) (by intro k h; cases h))
  have HO1 : Hid (entSh.Own 26 w1 w.heap.size (.slice (some ⟨w.heap.size, 0, none⟩) len len) (List.replicate len zeroE)) := hide (by
    unfold Shape.Own
    rw [List.length_replicate, entSh.flat_made]
    exact hown)
  clear hown hgrow hi hz0 hz1 hz2
  go_enter Try.func21, Try.ntmps21
  go_wp2
  go_loopw [4] (fun i wr => ∃ (k : Nat) (gs : List EntV), k ≤ len ∧ i = .int .i64 k ∧ Hid (gs.length = len ∧ gs.take k = fs.take k) ∧ Hid (entSh.Own 26 wr w.heap.size (.slice (some ⟨w.heap.size, 0, none⟩) len len) gs) ∧ Hid (Below w.heap.size w wr)) (fun i _ => len - (intOf i).toNat)
  case atStart => exact ⟨0, _, by omega, rfl, hide (by simp), HO1, HB1⟩
  case round =>
    clear hmk HO1 HB1
    obtain ⟨k, gs, hk, rfl, HG, HO, HB⟩ := hrel
    by_cases hlt : k < len
    · have hkf : k < fs.length := by omega
      obtain ⟨b, off, rfl, hbw, e1, e2, e3, e4, e5⟩ := ent_cells (HR.out.later HB.out) k hkf
      go_wp2_with fail
      refine (toEnt_any (fs[k]) wr).mono ?_
      rintro e w2 ⟨rfl, hb2⟩
      have HO2 := hide (HO.out.later hb2 (Nat.le_refl _))
      have HB2 := hide (HB.out.trans (hb2.mono HB.out.size))
      have HP := hide (HO2.out.put k (fs[k]) hlt)
      have f1 := HO2.out.frz (k * 5)
      have f2 := HO2.out.frz (k * 5 + 1)
      have f3 := HO2.out.frz (k * 5 + 2)
      have f4 := HO2.out.frz (k * 5 + 3)
      have f5 := HO2.out.frz (k * 5 + 4)
      obtain ⟨b', o', q0, -, q1, q2, q3, q4, q5⟩ := ent_cells HO2.out.row k (by rw [HO2.out.len]; omega)
      simp only [Option.some.injEq, Addr.mk.injEq] at q0
      obtain ⟨rfl, rfl, -⟩ := q0
      rw [Nat.zero_add] at q1 q2 q3 q4 q5
      clear hb2 e1 e2 e3 e4 e5 HB HO
      have HG2 : Hid ((gs.set k (fs[k])).length = len ∧ (gs.set k (fs[k])).take (k + 1) = fs.take (k + 1)) := hide ⟨by rw [List.length_set]; exact HG.out.1, take_set_succ' gs fs k hkf (by have := HG.out.1; omega) HG.out.2⟩
      have HB3 := hide (HB2.out.grown HP.out.2 HB2.out.size (by intro j h; injection h with h; omega))
      clear HB2 HG
      go_wp2
      go_roundw
      case rel => exact ⟨k + 1, gs.set k (fs[k]), by omega, by go_num, HG2, hide HP.out.1, HB3⟩
      case measure => first | (simp [intOf]; done) | (simp [intOf]; omega)
    · obtain rfl : k = len := by omega
      have HE : Hid (gs = fs) := hide (by
        have h := HG.out
        rw [List.take_of_length_le (by omega), List.take_of_length_le (by omega)] at h
        exact h.2)
      clear HG
      go_wp2
      go_ret
      exact ⟨rfl, by rw [← HE.out]; exact HO.out, HB.out⟩

set_option maxRecDepth 100000 in
set_option maxHeartbeats 4000000 in
theorem eqEntS_same (w : World) (a b : Option Addr) (n cap cap' : Nat) (xs : List EntV) (ha : entSh.Row w a n xs) (hb : entSh.Row w b n xs) (hn : n ≤ 1099511627776) :
    Calls Try.prog 22 #[.slice a n cap, .slice b n cap'] w fun e w' => e = .returned (.bool true) ∧ Below w.heap.size w w' := by
  have HA := hide ha
  have HB := hide hb
  have HLN := hide ha.len
  clear ha hb
  go_enter Try.func22, Try.ntmps22
  go_wp2
  go_loopw [5] (fun x wr => ∃ k : Nat, k ≤ n ∧ x = .int .i64 k ∧ Hid (Below w.heap.size w wr)) (fun x _ => n - (intOf x).toNat)
  case atStart => exact ⟨0, by omega, rfl, hide (Below.refl _ _)⟩
  case round =>
    obtain ⟨k, hk, rfl, HW⟩ := hrel
    by_cases hlt : k < n
    · have hkx : k < xs.length := by have := HLN.out; omega
      obtain ⟨b1, o1, rfl, hb1, c0, c1, c2, c3, c4⟩ := ent_cells (HA.out.later HW.out) k hkx
      obtain ⟨b2, o2, rfl, hb2, d0, d1, d2, d3, d4⟩ := ent_cells (HB.out.later HW.out) k hkx
      have HE := hide (eqEnt_any (xs[k]) (xs[k]))
      rw [(eqE_iff _ _).2 rfl] at HE
      have hk2 : (k : Int) < (n : Int) := by omega
      go_wp2_with fail
      go_region_with (go_at_call 41; refine (HE.out _).mono ?_; rintro e w1 ⟨rfl, hb1⟩)
      all_goals
        have HW1 := hide (HW.out.trans (((Below.refl _ _).drew.trans hb1).mono HW.out.size))
        clear hb1 HW HE c0 c1 c2 c3 c4 d0 d1 d2 d3 d4
        go_wp2
        go_roundw
        case rel => exact ⟨k + 1, by omega, by go_num, HW1⟩
        case measure => first | (simp [intOf]; done) | (simp [intOf]; omega)
    · obtain rfl : k = n := by omega
      go_wp2
      go_ret
      exact ⟨rfl, HW.out⟩

theorem list_ofE {Q : Nat → EntV → Prop} : ∀ n, (∀ i, i < n → ∃ f, Q i f) → ∃ fs : List EntV, fs.length = n ∧ ∀ i, (h : i < fs.length) → Q i (fs[i])
  | 0, _ => ⟨[], rfl, fun i h => by simp at h⟩
  | n + 1, h => by
    obtain ⟨fs, hl, hq⟩ := list_ofE n (fun i hi => h i (by omega))
    obtain ⟨f, hf⟩ := h n (by omega)
    refine ⟨fs ++ [f], by simp [hl], fun i hi => ?_⟩
    rcases Nat.lt_or_ge i fs.length with h' | h'
    · rw [List.getElem_append_left h']; exact hq i h'
    · have e : i = n := by simp at hi; omega
      subst e
      rw [List.getElem_append_right h']
      simpa using hf

section
variable {H : Type} {enc : TypeId × Value → H} {w : World} {base : Nat} {spare : Nat → Bool} {held : Bool}
set_option maxRecDepth 100000 in
/-- The entries themselves. -/
theorem open_ents {fuel : Nat} {cs : List Value} {x : DataW H × List MemPlace} (h : DataW.trod enc Try.prog w base spare held fuel 47 cs = some x) :
    ∃ (a : Option Addr) (n cap : Nat) (fs : List EntV), cs = [.slice a n cap] ∧ entSh.Row w a n fs ∧ EFits fs ∧ n ≤ maxLen := by
  rcases open_slice Try.underlying47 h with ⟨rfl, _⟩ | ⟨a, len, cap, m, n, D, Pl, rfl, hb, hl, hm, hmm, _, hx⟩
  · exact ⟨none, 0, 0, [], rfl, ⟨rfl, fun i hi => by simp at hi⟩, fun i hi => by simp at hi, by omega⟩
  · have hlm : len ≤ m := by rw [hmm]; split <;> omega
    rw [cellsLE] at hx
    obtain ⟨fs, hfl, hfs⟩ := list_ofE (Q := fun i f => (∃ b off, a = ⟨b, off, none⟩ ∧ b < w.heap.size ∧ ∀ j, j < 5 → w.cell? ⟨b, off + i * 5 + j, none⟩ = (entSh.cells f)[j]?) ∧ f.key.size ≤ maxLen) len (fun i hi => by
      obtain ⟨cs', h1, h2⟩ := hx i (by omega)
      obtain ⟨f, rfl, f1⟩ := open_ent h2
      obtain ⟨_, _, hcell⟩ := World.cells?_some h1
      refine ⟨f, ?_, f1⟩
      obtain ⟨b, off, spot⟩ := a
      have hs : spot = none := by
        obtain ⟨cs0, h01, h02⟩ := hx 0 (by omega)
        obtain ⟨f0, rfl, -⟩ := open_ent h02
        obtain ⟨_, _, hc0⟩ := World.cells?_some h01
        have hk : w.cell? (((⟨b, off, spot⟩ : Addr).add (0 * 5)).add 0) = some (.string f0.key) := hc0 0 (by omega)
        simpa [Addr.add] using World.cell?_spot hk
      subst hs
      have e : ∀ j k, ((⟨b, off, none⟩ : Addr).add j).add k = ⟨b, off + j + k, none⟩ := fun j k => by
        have e1 : ∀ o q, (⟨b, o, none⟩ : Addr).add q = ⟨b, o + q, none⟩ := fun o q => by unfold Addr.add; split <;> simp_all
        rw [e1, e1]
      refine ⟨b, off, rfl, ?_, fun j hj => ?_⟩
      · have k0 : w.cell? (((⟨b, off, none⟩ : Addr).add (i * 5)).add 0) = some (.string f.key) := hcell 0 (by omega)
        rw [e] at k0
        rcases Nat.lt_or_ge b w.heap.size with h' | h'
        · exact h'
        · simp [World.cell?, Array.getElem?_eq_none h'] at k0
      · have k0 := hcell j hj
        rw [e] at k0
        exact k0)
    refine ⟨some a, len, cap, fs, rfl, ⟨hfl, fun i hi => ?_⟩, fun i hi => (hfs i hi).2, Nat.le_trans hl hm⟩
    obtain ⟨b, off, rfl, h1, h2⟩ := (hfs i hi).1
    exact ⟨b, off, rfl, h1, h2⟩
end

end Go.Proofs.Ytnckdfidehbcaaa
