/-
  What the laws' markEntryS and heldEntryS do: they number the fields of a row of entries, and look whether the numbers stand.
-/
import Derived.Test.YtimpokbcfjgdaaaDoorMEntS
import Derived.Test.YtimpokbcfjgdaaaDoorG02
import Derived.Deep.RegionHeld
namespace Go.Proofs.YtimpokbcfjgdaaaDoor
open Go.RowKit
open Plain

/-- n entries, numbered from k on. -/
def mkE (k : Nat) : EntV := ⟨mt k, (k + 1 : Nat), (k + 2 : Nat), (k + 3 : Nat), (k + 4 : Nat)⟩
def markE : Nat → Nat → List EntV
  | 0, _ => []
  | n + 1, k => mkE k :: markE n (k + 5)
theorem markE_length (n : Nat) : ∀ k, (markE n k).length = n := by
  induction n with
  | zero => intro k; rfl
  | succ n ih => intro k; simp [markE, ih]
theorem markE_get (n : Nat) : ∀ k i, i < n → (markE n k)[i]? = some (mkE (k + 5 * i)) := by
  induction n with
  | zero => intro k i h; omega
  | succ n ih =>
    intro k i h
    cases i with
    | zero => simp [markE]
    | succ i =>
      rw [markE, List.getElem?_cons_succ, ih (k + 5) i (by omega)]
      congr 2
      omega
theorem markE_take (n k i : Nat) (h : i < n) : (markE n k).take (i + 1) = (markE n k).take i ++ [mkE (k + 5 * i)] := by
  have hi : i < (markE n k).length := by rw [markE_length]; exact h
  rw [List.take_succ_eq_append_getElem hi]
  have := markE_get n k i h
  rw [List.getElem?_eq_getElem hi] at this
  simp at this
  rw [this]
/-- A cell of a row of the call's own: it is there, and can be written. -/
theorem own_cell5 {w : World} {base e g n cap : Nat} {xs : List Value} (h : w.ownsRow base e 5 (.slice (some ⟨g, 0, none⟩) n cap) n xs) (j : Nat) (hj : j < n * 5) : (∃ u, w.cell? ⟨g, j, none⟩ = some u) ∧ w.frozen? ⟨g, j, none⟩ = false := by
  refine ⟨?_, h.frozenAt j⟩
  rw [h.cellAt j hj]
  have : j < xs.length := by rw [h.1]; exact hj
  exact ⟨_, List.getElem?_eq_getElem this⟩
theorem marksE_set (gs : List EntV) (j t : Nat) (h : j < gs.length) : (((((entSh.flat gs).set (j * 5) (.string (mt t))).set (j * 5 + 1) (.int .i64 ((t : Int) + 1))).set (j * 5 + 2) (.int .i64 ((t : Int) + 1 + 1))).set (j * 5 + 3) (.int .i64 ((t : Int) + 1 + 1 + 1))).set (j * 5 + 4) (.int .i64 ((t : Int) + 1 + 1 + 1 + 1)) = entSh.flat (gs.set j (mkE t)) := by
  rw [← entSh.flat_set gs (mkE t) j h]
  have e : entSh.cells (mkE t) = [.string (mt t), .int .i64 ((t : Int) + 1), .int .i64 ((t : Int) + 1 + 1), .int .i64 ((t : Int) + 1 + 1 + 1), .int .i64 ((t : Int) + 1 + 1 + 1 + 1)] := by
    show [Value.string (mt t), .int .i64 ((t + 1 : Nat) : Int), .int .i64 ((t + 2 : Nat) : Int), .int .i64 ((t + 3 : Nat) : Int), .int .i64 ((t + 4 : Nat) : Int)] = _
    rw [show ((t + 1 : Nat) : Int) = (t : Int) + 1 from by omega, show ((t + 2 : Nat) : Int) = (t : Int) + 1 + 1 from by omega, show ((t + 3 : Nat) : Int) = (t : Int) + 1 + 1 + 1 from by omega, show ((t + 4 : Nat) : Int) = (t : Int) + 1 + 1 + 1 + 1 from by omega]
  rw [e]
  rfl

set_option maxRecDepth 100000 in
set_option maxHeartbeats 2000000 in
theorem markEntS_any (w : World) (base : Nat) (a : Option Addr) (n cap : Nat) (fs : List EntV) (ho : entSh.Own 41 w base (.slice a n cap) fs) (hn : n ≤ 1099511627776) (k : Nat) (hk0 : 0 < k) (hk : k ≤ 1099511627776) :
    Calls Tryd.prog 32 #[.slice a n cap, .int .i64 k] w fun e w' => e = .returned (.int .i64 (k + 5 * n : Nat)) ∧ entSh.Own 41 w' base (.slice a n cap) (markE n k) ∧ w.grownBy w' (Value.slice a n cap).ownBlock := by
  have HO := hide ho
  have hfn := ho.len
  clear ho
  go_enter Tryd.func32, Tryd.ntmps32
  go_wp2
  go_loopw [1, 5] (fun v i wr => ∃ (j : Nat) (gs : List EntV), j ≤ n ∧ i = .int .i64 j ∧ v = .int .i64 (k + 5 * j : Nat) ∧ Hid (gs.take j = (markE n k).take j) ∧ Hid (entSh.Own 41 wr base (.slice a n cap) gs) ∧ Hid (w.grownBy wr (Value.slice a n cap).ownBlock)) (fun _ i _ => n - (intOf i).toNat)
  case atStart => exact ⟨0, fs, by omega, rfl, by simp, hide (by simp), HO, hide (grown_refl _ _)⟩
  case round =>
    clear HO hfn
    obtain ⟨j, gs, hj, rfl, rfl, HE, HO, HG⟩ := hrel
    by_cases hlt : j < n
    · obtain ⟨g, rfl⟩ : ∃ g, a = some ⟨g, 0, none⟩ := by
        rcases HO.out.2 with ⟨e, h0⟩ | ⟨g, c, cur, e, _⟩
        · simp only [Value.slice.injEq] at e; have := HO.out.len; omega
        · simp only [Value.slice.injEq] at e
          exact ⟨g, e.1⟩
      have hgl := HO.out.len
      have h0 := HO.out
      unfold Shape.Own at h0
      rw [hgl] at h0
      have H0 : Hid (wr.ownsRow base 41 5 (.slice (some ⟨g, 0, none⟩) n cap) n (entSh.flat gs)) := hide h0
      clear h0
      generalize ht : k + 5 * j = t
      have htb : t ≤ 10995116277760 := by omega
      have ht0 : 0 < t := by omega
      have HT := hide ht
      clear ht
      have HM4 := hide (fun W => markText_any t W (by omega) (by omega))
      go_wp2_with fail
      refine (HM4.out _).mono ?_
      rintro e w2 ⟨rfl, hb2⟩
      have H5 := hide (own_later H0.out hb2 (Nat.le_refl _))
      have HG5 := hide (grown_chain HG.out (below_grown (Value.slice (some ⟨g, 0, none⟩) n cap).ownBlock hb2))
      clear hb2 H0 HG HM4
      obtain ⟨⟨x0, c0⟩, f0⟩ := own_cell5 H5.out (j * 5) (by omega)
      obtain ⟨⟨x1, c1⟩, f1⟩ := own_cell5 H5.out (j * 5 + 1) (by omega)
      obtain ⟨⟨x2, c2⟩, f2⟩ := own_cell5 H5.out (j * 5 + 2) (by omega)
      obtain ⟨⟨x3, c3⟩, f3⟩ := own_cell5 H5.out (j * 5 + 3) (by omega)
      obtain ⟨⟨x4, c4⟩, f4⟩ := own_cell5 H5.out (j * 5 + 4) (by omega)
      have S0 := hide (H5.out.stored (j * 5) (.string (mt t)))
      have S1 := hide (S0.out.1.stored (j * 5 + 1) (.int .i64 ((t : Int) + 1)))
      have S2 := hide (S1.out.1.stored (j * 5 + 2) (.int .i64 ((t : Int) + 1 + 1)))
      have S3 := hide (S2.out.1.stored (j * 5 + 3) (.int .i64 ((t : Int) + 1 + 1 + 1)))
      have S4 := hide (S3.out.1.stored (j * 5 + 4) (.int .i64 ((t : Int) + 1 + 1 + 1 + 1)))
      have H8 := hide S4.out.1
      have HG8 := hide (grown_chain HG5.out (grown_chain S0.out.2 (grown_chain S1.out.2 (grown_chain S2.out.2 (grown_chain S3.out.2 S4.out.2)))))
      clear S0 S1 S2 S3 S4 H5 HG5 HO
      have HO8 : Hid (entSh.Own 41 _ base (.slice (some ⟨g, 0, none⟩) n cap) (gs.set j (mkE t))) := hide (by
        unfold Shape.Own
        rw [List.length_set, hgl, ← marksE_set gs j t (by omega)]
        exact H8.out)
      have HE8 : Hid ((gs.set j (mkE t)).take (j + 1) = (markE n k).take (j + 1)) := hide (by
        rw [markE_take n k j hlt, HT.out, ← HE.out, List.take_succ_eq_append_getElem (by rw [List.length_set]; omega), List.take_set_of_le (Nat.le_refl _)]
        simp)
      have HV : Hid ((t : Int) + 1 + 1 + 1 + 1 + 1 = ((k + 5 * (j + 1) : Nat) : Int)) := hide (by have := HT.out; omega)
      clear H8 HE
      go_wp2
      go_roundw
      case rel => exact ⟨j + 1, gs.set j (mkE t), by omega, by go_num, by rw [HV.out], HE8, HO8, HG8⟩
      case measure => first | (simp [intOf]; done) | (simp [intOf]; omega)
    · obtain rfl : j = n := by omega
      have HM : Hid (gs = markE j k) := hide (by
        have h := HE.out
        rw [List.take_of_length_le (by rw [HO.out.len]; omega), List.take_of_length_le (by rw [markE_length]; omega)] at h
        exact h)
      go_wp2
      go_ret
      exact ⟨rfl, by rw [← HM.out]; exact HO.out, HG.out⟩

/-- The cells of the numbered entry j. -/
structure HeldE (b off j t : Nat) (W : World) : Prop where
  c0 : W.cell? ⟨b, off + j * 5, none⟩ = some (.string (mt t))
  c1 : W.cell? ⟨b, off + j * 5 + 1, none⟩ = some (.int .i64 ((t : Int) + 1))
  c2 : W.cell? ⟨b, off + j * 5 + 2, none⟩ = some (.int .i64 ((t : Int) + 1 + 1))
  c3 : W.cell? ⟨b, off + j * 5 + 3, none⟩ = some (.int .i64 ((t : Int) + 1 + 1 + 1))
  c4 : W.cell? ⟨b, off + j * 5 + 4, none⟩ = some (.int .i64 ((t : Int) + 1 + 1 + 1 + 1))
theorem HeldE.later {b off j t : Nat} {W W' : World} (h : HeldE b off j t W) (hb : Below W.heap.size W W') (hl : b < W.heap.size) : HeldE b off j t W' := by
  refine ⟨?_, ?_, ?_, ?_, ?_⟩ <;> rw [hb.cell (by exact hl)]
  · exact h.c0
  · exact h.c1
  · exact h.c2
  · exact h.c3
  · exact h.c4

set_option maxRecDepth 100000 in
set_option maxHeartbeats 4000000 in
theorem heldEntS_any (w : World) (a : Option Addr) (n cap : Nat) (hn : n ≤ 1099511627776) (k : Nat) (hk0 : 0 < k) (hk : k ≤ 1099511627776) (hr : entSh.Row w a n (markE n k)) :
    Calls Tryd.prog 33 #[.slice a n cap, .int .i64 k] w fun e w' => e = .returned (.int .i64 (k + 5 * n : Nat)) ∧ Below w.heap.size w w' := by
  have HR := hide hr
  clear hr
  go_enter Tryd.func33, Tryd.ntmps33
  go_wp2
  go_loopw [1, 5] (fun v i wr => ∃ (j : Nat), j ≤ n ∧ i = .int .i64 j ∧ v = .int .i64 (k + 5 * j : Nat) ∧ Hid (Below w.heap.size w wr)) (fun _ i _ => n - (intOf i).toNat)
  case atStart => exact ⟨0, by omega, rfl, by simp, hide (Below.refl _ _)⟩
  case round =>
    obtain ⟨j, hj, rfl, rfl, HB⟩ := hrel
    by_cases hlt : j < n
    · have hjl : j < (markE n k).length := by rw [markE_length]; exact hlt
      obtain ⟨b, off, rfl, hbw, e0, e1, e2, e3, e4⟩ := ent_cells (HR.out.later HB.out) j hjl
      have hm : (markE n k)[j] = mkE (k + 5 * j) := by
        have := markE_get n k j hlt
        rw [List.getElem?_eq_getElem hjl] at this
        simpa using this
      rw [hm] at e0 e1 e2 e3 e4
      clear hm
      generalize ht : k + 5 * j = t at e0 e1 e2 e3 e4 ⊢
      have ht0 : 0 < t := by omega
      have htb : t ≤ 10995116277760 := by omega
      have HS : Hid (HeldE b off j t wr) := hide ⟨e0, e1.trans (by show some (Value.int .i64 ((t + 1 : Nat) : Int)) = _; rfl), e2.trans (by show some (Value.int .i64 ((t + 2 : Nat) : Int)) = _; rfl), e3.trans (by show some (Value.int .i64 ((t + 3 : Nat) : Int)) = _; rfl), e4.trans (by show some (Value.int .i64 ((t + 4 : Nat) : Int)) = _; rfl)⟩
      have HM4 := hide (fun W => markText_any t W (by omega) (by omega))
      have HV : Hid ((t : Int) + 1 + 1 + 1 + 1 + 1 = ((k + 5 * (j + 1) : Nat) : Int)) := hide (by omega)
      have k1 := str_eq (mt t) (mt t) rfl
      have hj2 : (j : Int) < (n : Int) := by omega
      have HL : Hid (∀ W, Below wr.heap.size wr W → HeldE b off j t W) := hide (fun W h => HS.out.later h hbw)
      clear ht e0 e1 e2 e3 e4
      have S1 : wr.drew.cell? ⟨b, off + j * 5, none⟩ = some (.string (mt t)) := (HL.out wr.drew (Below.refl _ _).drew).c0
      go_wp2
      go_region_held (fun w' => w'.cell? ⟨b, off + j * 5, none⟩ = some (.string (mt t))) (assumption) ((go_at_call 47; refine (HM4.out _).mono ?_; rintro e w4 ⟨rfl, hb4⟩; have hS4 : w4.cell? ⟨b, off + j * 5, none⟩ = some (.string (mt t)) := (HL.out w4 ((Below.refl _ wr).drew.trans hb4)).c0))
      have HB4 := hide ((Below.refl wr.heap.size wr).drew.trans hb4)
      have hsz4 : wr.heap.size ≤ w4.heap.size := HB4.out.size
      obtain ⟨-, d1, d2, d3, d4⟩ := HL.out w4 HB4.out
      have HB5 := hide (HB.out.trans (HB4.out.mono HB.out.size))
      clear hb4 S1 hS4 HB4
      go_wp2
      go_roundw
      case rel => exact ⟨j + 1, by omega, by go_num, by rw [HV.out], HB5⟩
      case measure => first | (simp [intOf]; done) | (simp [intOf]; omega)
    · obtain rfl : j = n := by omega
      obtain ⟨t, ht⟩ : ∃ t, k + 5 * j = t := ⟨_, rfl⟩
      rw [ht]
      have HT := hide ht
      clear ht
      go_wp2
      go_ret
      exact ⟨by rw [HT.out]; rfl, HB.out⟩

end Go.Proofs.YtimpokbcfjgdaaaDoor
