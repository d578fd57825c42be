/-
  What the laws' markText, markSpotS and heldSpotS do: they number the fields of a row of spots, and look whether the numbers stand.
-/
import Derived.Test.YtkcjlalkniaapaaDoorRowPut
import Derived.Test.YtkcjlalkniaapaaDoorEqSpot
import Derived.Test.YtkcjlalkniaapaaDoorDecBase
import Derived.Deep.RegionHeld
namespace Go.Proofs.YtkcjlalkniaapaaDoor
open Go.RowKit
open Plain

/-- The text of a number. -/
def mt (k : Nat) : ByteArray := ⟨#[109]⟩ ++ ⟨(dd k).toArray⟩
set_option maxRecDepth 100000 in
set_option maxHeartbeats 400000 in
theorem markText_any (a : Nat) (w : World) (h0 : 0 < a) (h1 : a ≤ 9223372036854775807) :
    Calls Tryd.prog 49 #[.int .i64 a] w fun e w' => e = .returned (.string (mt a)) ∧ Below w.heap.size w w' := by
  have H20 := hide (dd_len20 a (by omega))
  go_enter Tryd.func49, Tryd.ntmps49
  go_wp2
  go_loopw [0, 3] (fun n o wr => ∃ (q : Nat) (l : List UInt8), q ≤ a ∧ n = .int .i64 q ∧ o = .string ⟨l.toArray⟩ ∧ Hid (dd a = dd q ++ l) ∧ Below w.heap.size w wr) (fun n _ _ => (intOf n).toNat)
  case atStart => exact ⟨a, [], by omega, rfl, rfl, hide (by simp), Below.refl _ _⟩
  case round =>
    obtain ⟨q, l, hq, rfl, rfl, HD, hB⟩ := hrel
    have hl : l.length ≤ 20 := by
      have e := congrArg List.length HD.out
      have := H20.out
      rw [List.length_append] at e
      omega
    have hsl : (ByteArray.mk l.toArray).size ≤ 20 := by simpa [ByteArray.size] using hl
    by_cases hz : q = 0
    · subst hz
      have HE : Hid (mt a = ⟨#[109]⟩ ++ ⟨l.toArray⟩) := hide (by unfold mt; rw [HD.out]; rfl)
      have hm : (ByteArray.mk #[109]).size ≤ 1 := by decide
      go_wp2
      go_ret
      exact ⟨by rw [HE.out]; rfl, hB⟩
    · have hq0 : (0 : Int) < (q : Int) := by omega
      have HS := hide (dd_step q hz)
      have hcv := cv_one wr
      have hsz : (strOfNums [(48 : Int) + (q : Int) % 10]).size ≤ 1 := by rw [strOfNums_size]; simp
      have HC : Hid (strOfNums [(48 : Int) + (q : Int) % 10] ++ ⟨l.toArray⟩ = ⟨(UInt8.ofNat (48 + q % 10) :: l).toArray⟩) := hide (str_cons (q % 10) (by omega) l)
      go_wp2
      go_roundw
      case rel => exact ⟨q / 10, UInt8.ofNat (48 + q % 10) :: l, by omega, by go_num, by rw [HC.out], hide (by rw [HD.out, HS.out]; simp), hB.alloc hB.size _⟩
      case measure => simp [intOf]; omega

/-- n spots, numbered from k on. -/
def mkS (k : Nat) : SpotV := ⟨k, k + 1, ⟨(k + 2 : Nat), (k + 3 : Nat), mt (k + 4), mt (k + 5), (k + 6 : Nat), (k + 7 : Nat)⟩⟩
def markS : Nat → Nat → List SpotV
  | 0, _ => []
  | n + 1, k => mkS k :: markS n (k + 8)
theorem markS_length (n : Nat) : ∀ k, (markS n k).length = n := by
  induction n with
  | zero => intro k; rfl
  | succ n ih => intro k; simp [markS, ih]
theorem markS_get (n : Nat) : ∀ k i, i < n → (markS n k)[i]? = some (mkS (k + 8 * i)) := by
  induction n with
  | zero => intro k i h; omega
  | succ n ih =>
    intro k i h
    cases i with
    | zero => simp [markS]
    | succ i =>
      rw [markS, List.getElem?_cons_succ, ih (k + 8) i (by omega)]
      congr 2
      omega
theorem markS_take (n k i : Nat) (h : i < n) : (markS n k).take (i + 1) = (markS n k).take i ++ [mkS (k + 8 * i)] := by
  have hi : i < (markS n k).length := by rw [markS_length]; exact h
  rw [List.take_succ_eq_append_getElem hi]
  have := markS_get n k i h
  rw [List.getElem?_eq_getElem hi] at this
  simp at this
  rw [this]

theorem own_later {w w' : World} {base e sz n K : Nat} {v : Value} {xs : List Value} (h : w.ownsRow base e sz v n xs) (hb : Below K w w') (hK : w.heap.size ≤ K) : w'.ownsRow base e sz v n xs := by
  refine ⟨h.1, ?_⟩
  rcases h.2 with h | ⟨g, c, cur, e, hbg, hg, h1⟩
  · exact .inl h
  · have hgl : g < w.heap.size := by
      rcases Nat.lt_or_ge g w.heap.size with h' | h'
      · exact h'
      · rw [Array.getElem?_eq_none h'] at hg; cases hg
    exact .inr ⟨g, c, cur, e, hbg, by rw [hb.block g (by omega)]; exact hg, h1⟩
theorem below_grown {w w' : World} (r : Option Nat) (h : Below w.heap.size w w') : w.grownBy w' r := ⟨h.os, h.tape, h.output, h.size, fun k hk _ => h.block k hk⟩
theorem grown_chain {a b c : World} {r : Option Nat} (h : a.grownBy b r) (k : b.grownBy c r) : a.grownBy c r :=
  ⟨k.os.trans h.os, k.tape.trans h.tape, k.output.trans h.output, Nat.le_trans h.size k.size, fun i hi hr => (k.block i (Nat.lt_of_lt_of_le hi h.size) hr).trans (h.block i hi hr)⟩
theorem grown_refl (w : World) (r : Option Nat) : w.grownBy w r := ⟨rfl, rfl, rfl, Nat.le_refl _, fun _ _ _ => rfl⟩
/-- A cell of a row of the call's own: it is there, and can be written. -/
theorem own_cell8 {w : World} {base e g n cap : Nat} {xs : List Value} (h : w.ownsRow base e 8 (.slice (some ⟨g, 0, none⟩) n cap) n xs) (j : Nat) (hj : j < n * 8) : (∃ u, w.cell? ⟨g, j, none⟩ = some u) ∧ w.frozen? ⟨g, j, none⟩ = false := by
  refine ⟨?_, h.frozenAt j⟩
  rw [h.cellAt j hj]
  have : j < xs.length := by rw [h.1]; exact hj
  exact ⟨_, List.getElem?_eq_getElem this⟩
theorem marks_set (gs : List SpotV) (j t : Nat) (h : j < gs.length) : ((((((((spotSh.flat gs).set (j * 8) (.int .i64 (t : Int))).set (j * 8 + 1) (.int .i64 ((t : Int) + 1))).set (j * 8 + 2) (.int .i64 ((t : Int) + 1 + 1))).set (j * 8 + 3) (.int .i64 ((t : Int) + 1 + 1 + 1))).set (j * 8 + 4) (.string (mt (t + 4)))).set (j * 8 + 5) (.string (mt (t + 5)))).set (j * 8 + 6) (.int .i64 ((t : Int) + 1 + 1 + 1 + 1 + 1 + 1))).set (j * 8 + 7) (.int .i64 ((t : Int) + 1 + 1 + 1 + 1 + 1 + 1 + 1)) = spotSh.flat (gs.set j (mkS t)) := by
  rw [← spotSh.flat_set gs (mkS t) j h]
  have e : spotSh.cells (mkS t) = [.int .i64 (t : Int), .int .i64 ((t : Int) + 1), .int .i64 ((t : Int) + 1 + 1), .int .i64 ((t : Int) + 1 + 1 + 1), .string (mt (t + 4)), .string (mt (t + 5)), .int .i64 ((t : Int) + 1 + 1 + 1 + 1 + 1 + 1), .int .i64 ((t : Int) + 1 + 1 + 1 + 1 + 1 + 1 + 1)] := by
    show [Value.int .i64 ((t : Nat) : Int), .int .i64 ((t + 1 : Nat) : Int), .int .i64 ((t + 2 : Nat) : Int), .int .i64 ((t + 3 : Nat) : Int), .string (mt (t + 4)), .string (mt (t + 5)), .int .i64 ((t + 6 : Nat) : Int), .int .i64 ((t + 7 : Nat) : Int)] = _
    rw [show ((t + 1 : Nat) : Int) = (t : Int) + 1 from by omega, show ((t + 2 : Nat) : Int) = (t : Int) + 1 + 1 from by omega, show ((t + 3 : Nat) : Int) = (t : Int) + 1 + 1 + 1 from by omega, show ((t + 6 : Nat) : Int) = (t : Int) + 1 + 1 + 1 + 1 + 1 + 1 from by omega, show ((t + 7 : Nat) : Int) = (t : Int) + 1 + 1 + 1 + 1 + 1 + 1 + 1 from by omega]
  rw [e]
  rfl

set_option maxRecDepth 100000 in
set_option maxHeartbeats 2000000 in
theorem markSpotS_any (w : World) (base : Nat) (a : Option Addr) (n cap : Nat) (fs : List SpotV) (ho : spotSh.Own 37 w base (.slice a n cap) fs) (hn : n ≤ 1099511627776) (k : Nat) (hk0 : 0 < k) (hk : k ≤ 1099511627776) :
    Calls Tryd.prog 21 #[.slice a n cap, .int .i64 k] w fun e w' => e = .returned (.int .i64 (k + 8 * n : Nat)) ∧ spotSh.Own 37 w' base (.slice a n cap) (markS n k) ∧ w.grownBy w' (Value.slice a n cap).ownBlock := by
  have HO := hide ho
  have hfn := ho.len
  clear ho
  go_enter Tryd.func21, Tryd.ntmps21
  go_wp2
  go_loopw [1, 5] (fun v i wr => ∃ (j : Nat) (gs : List SpotV), j ≤ n ∧ i = .int .i64 j ∧ v = .int .i64 (k + 8 * j : Nat) ∧ Hid (gs.take j = (markS n k).take j) ∧ Hid (spotSh.Own 37 wr base (.slice a n cap) gs) ∧ Hid (w.grownBy wr (Value.slice a n cap).ownBlock)) (fun _ i _ => n - (intOf i).toNat)
  case atStart => exact ⟨0, fs, by omega, rfl, by simp, hide (by simp), HO, hide (grown_refl _ _)⟩
  case round =>
    clear HO hfn
    obtain ⟨j, gs, hj, rfl, rfl, HE, HO, HG⟩ := hrel
    by_cases hlt : j < n
    · obtain ⟨g, rfl⟩ : ∃ g, a = some ⟨g, 0, none⟩ := by
        rcases HO.out.2 with ⟨e, h0⟩ | ⟨g, c, cur, e, _⟩
        · simp only [Value.slice.injEq] at e; have := HO.out.len; omega
        · simp only [Value.slice.injEq] at e
          exact ⟨g, e.1⟩
      have hgl := HO.out.len
      have h0 := HO.out
      unfold Shape.Own at h0
      rw [hgl] at h0
      have H0 : Hid (wr.ownsRow base 37 8 (.slice (some ⟨g, 0, none⟩) n cap) n (spotSh.flat gs)) := hide h0
      clear h0
      generalize ht : k + 8 * j = t
      have HTA : Hid ((t : Int) + 1 + 1 + 1 + 1 = ((t + 4 : Nat) : Int)) := hide (by omega)
      have HTB : Hid ((t : Int) + 1 + 1 + 1 + 1 + 1 = ((t + 5 : Nat) : Int)) := hide (by omega)
      have htb : t ≤ 10995116277760 := by omega
      have ht0 : 0 < t := by omega
      have HT := hide ht
      clear ht
      have HM4 : Hid (∀ W, Calls Tryd.prog 49 #[.int .i64 ((t : Int) + 1 + 1 + 1 + 1)] W fun e w' => e = .returned (.string (mt (t + 4))) ∧ Below W.heap.size W w') := hide (fun W => by rw [HTA.out]; exact markText_any (t + 4) W (by omega) (by omega))
      have HM5 : Hid (∀ W, Calls Tryd.prog 49 #[.int .i64 ((t : Int) + 1 + 1 + 1 + 1 + 1)] W fun e w' => e = .returned (.string (mt (t + 5))) ∧ Below W.heap.size W w') := hide (fun W => by rw [HTB.out]; exact markText_any (t + 5) W (by omega) (by omega))
      clear HTA HTB
      obtain ⟨⟨x0, c0⟩, f0⟩ := own_cell8 H0.out (j * 8) (by omega)
      obtain ⟨⟨x1, c1⟩, f1⟩ := own_cell8 H0.out (j * 8 + 1) (by omega)
      obtain ⟨⟨x2, c2⟩, f2⟩ := own_cell8 H0.out (j * 8 + 2) (by omega)
      obtain ⟨⟨x3, c3⟩, f3⟩ := own_cell8 H0.out (j * 8 + 3) (by omega)
      have S0 := hide (H0.out.stored (j * 8) (.int .i64 (t : Int)))
      have S1 := hide (S0.out.1.stored (j * 8 + 1) (.int .i64 ((t : Int) + 1)))
      have S2 := hide (S1.out.1.stored (j * 8 + 2) (.int .i64 ((t : Int) + 1 + 1)))
      have S3 := hide (S2.out.1.stored (j * 8 + 3) (.int .i64 ((t : Int) + 1 + 1 + 1)))
      have H4 := hide S3.out.1
      have HG4 := hide (grown_chain HG.out (grown_chain S0.out.2 (grown_chain S1.out.2 (grown_chain S2.out.2 S3.out.2))))
      clear S0 S1 S2 S3 H0 HG HO
      go_wp2_with fail
      refine (HM4.out _).mono ?_
      rintro e w2 ⟨rfl, hb2⟩
      have H5 := hide (own_later H4.out hb2 (Nat.le_refl _))
      have HG5 := hide (grown_chain HG4.out (below_grown (Value.slice (some ⟨g, 0, none⟩) n cap).ownBlock hb2))
      clear hb2 H4 HG4 c0 f0 c1 f1 c2 f2 c3 f3
      obtain ⟨⟨x4, c4⟩, f4⟩ := own_cell8 H5.out (j * 8 + 4) (by omega)
      have S4 := hide (H5.out.stored (j * 8 + 4) (.string (mt (t + 4))))
      have H6 := hide S4.out.1
      have HG6 := hide (grown_chain HG5.out S4.out.2)
      clear S4 H5 HG5
      go_wp2_with fail
      refine (HM5.out _).mono ?_
      rintro e w3 ⟨rfl, hb3⟩
      have H7 := hide (own_later H6.out hb3 (Nat.le_refl _))
      have HG7 := hide (grown_chain HG6.out (below_grown (Value.slice (some ⟨g, 0, none⟩) n cap).ownBlock hb3))
      clear hb3 H6 HG6 c4 f4
      obtain ⟨⟨x5, c5⟩, f5⟩ := own_cell8 H7.out (j * 8 + 5) (by omega)
      obtain ⟨⟨x6, c6⟩, f6⟩ := own_cell8 H7.out (j * 8 + 6) (by omega)
      obtain ⟨⟨x7, c7⟩, f7⟩ := own_cell8 H7.out (j * 8 + 7) (by omega)
      have S5 := hide (H7.out.stored (j * 8 + 5) (.string (mt (t + 5))))
      have S6 := hide (S5.out.1.stored (j * 8 + 6) (.int .i64 ((t : Int) + 1 + 1 + 1 + 1 + 1 + 1)))
      have S7 := hide (S6.out.1.stored (j * 8 + 7) (.int .i64 ((t : Int) + 1 + 1 + 1 + 1 + 1 + 1 + 1)))
      have HG8 := hide (grown_chain HG7.out (grown_chain S5.out.2 (grown_chain S6.out.2 S7.out.2)))
      have H8 := hide S7.out.1
      clear S5 S6 S7 H7 HG7
      have HO8 : Hid (spotSh.Own 37 _ base (.slice (some ⟨g, 0, none⟩) n cap) (gs.set j (mkS t))) := hide (by
        unfold Shape.Own
        rw [List.length_set, hgl, ← marks_set gs j t (by omega)]
        exact H8.out)
      have HE8 : Hid ((gs.set j (mkS t)).take (j + 1) = (markS n k).take (j + 1)) := hide (by
        rw [markS_take n k j hlt, HT.out, ← HE.out, List.take_succ_eq_append_getElem (by rw [List.length_set]; omega), List.take_set_of_le (Nat.le_refl _)]
        simp)
      have HV : Hid ((t : Int) + 1 + 1 + 1 + 1 + 1 + 1 + 1 + 1 = ((k + 8 * (j + 1) : Nat) : Int)) := hide (by have := HT.out; omega)
      clear H8 HE
      go_wp2
      go_roundw
      case rel => exact ⟨j + 1, gs.set j (mkS t), by omega, by go_num, by rw [HV.out], HE8, HO8, HG8⟩
      case measure => first | (simp [intOf]; done) | (simp [intOf]; omega)
    · obtain rfl : j = n := by omega
      have HM : Hid (gs = markS j k) := hide (by
        have h := HE.out
        rw [List.take_of_length_le (by rw [HO.out.len]; omega), List.take_of_length_le (by rw [markS_length]; omega)] at h
        exact h)
      go_wp2
      go_ret
      exact ⟨rfl, by rw [← HM.out]; exact HO.out, HG.out⟩

/-- The cells of the numbered spot j. -/
structure HeldS (b off j t : Nat) (W : World) : Prop where
  c0 : W.cell? ⟨b, off + j * 8, none⟩ = some (.int .i64 (t : Int))
  c1 : W.cell? ⟨b, off + j * 8 + 1, none⟩ = some (.int .i64 ((t : Int) + 1))
  c2 : W.cell? ⟨b, off + j * 8 + 2, none⟩ = some (.int .i64 ((t : Int) + 1 + 1))
  c3 : W.cell? ⟨b, off + j * 8 + 3, none⟩ = some (.int .i64 ((t : Int) + 1 + 1 + 1))
  c4 : W.cell? ⟨b, off + j * 8 + 4, none⟩ = some (.string (mt (t + 4)))
  c5 : W.cell? ⟨b, off + j * 8 + 5, none⟩ = some (.string (mt (t + 5)))
  c6 : W.cell? ⟨b, off + j * 8 + 6, none⟩ = some (.int .i64 ((t : Int) + 1 + 1 + 1 + 1 + 1 + 1))
  c7 : W.cell? ⟨b, off + j * 8 + 7, none⟩ = some (.int .i64 ((t : Int) + 1 + 1 + 1 + 1 + 1 + 1 + 1))
theorem HeldS.later {b off j t : Nat} {W W' : World} (h : HeldS b off j t W) (hb : Below W.heap.size W W') (hl : b < W.heap.size) : HeldS b off j t W' := by
  refine ⟨?_, ?_, ?_, ?_, ?_, ?_, ?_, ?_⟩ <;> rw [hb.cell (by exact hl)]
  · exact h.c0
  · exact h.c1
  · exact h.c2
  · exact h.c3
  · exact h.c4
  · exact h.c5
  · exact h.c6
  · exact h.c7

set_option maxRecDepth 100000 in
set_option maxHeartbeats 4000000 in
theorem heldSpotS_any (w : World) (a : Option Addr) (n cap : Nat) (hn : n ≤ 1099511627776) (k : Nat) (hk0 : 0 < k) (hk : k ≤ 1099511627776) (hr : spotSh.Row w a n (markS n k)) :
    Calls Tryd.prog 22 #[.slice a n cap, .int .i64 k] w fun e w' => e = .returned (.int .i64 (k + 8 * n : Nat)) ∧ Below w.heap.size w w' := by
  have HR := hide hr
  clear hr
  go_enter Tryd.func22, Tryd.ntmps22
  go_wp2
  go_loopw [1, 5] (fun v i wr => ∃ (j : Nat), j ≤ n ∧ i = .int .i64 j ∧ v = .int .i64 (k + 8 * j : Nat) ∧ Hid (Below w.heap.size w wr)) (fun _ i _ => n - (intOf i).toNat)
  case atStart => exact ⟨0, by omega, rfl, by simp, hide (Below.refl _ _)⟩
  case round =>
    obtain ⟨j, hj, rfl, rfl, HB⟩ := hrel
    by_cases hlt : j < n
    · have hjl : j < (markS n k).length := by rw [markS_length]; exact hlt
      obtain ⟨b, off, rfl, hbw, e0, e1, e2, e3, e4, e5, e6, e7⟩ := spot_cells (HR.out.later HB.out) j hjl
      have hm : (markS n k)[j] = mkS (k + 8 * j) := by
        have := markS_get n k j hlt
        rw [List.getElem?_eq_getElem hjl] at this
        simpa using this
      rw [hm] at e0 e1 e2 e3 e4 e5 e6 e7
      clear hm
      generalize ht : k + 8 * j = t at e0 e1 e2 e3 e4 e5 e6 e7 ⊢
      have ht0 : 0 < t := by omega
      have htb : t ≤ 10995116277760 := by omega
      have HS : Hid (HeldS b off j t wr) := hide ⟨e0, e1.trans (by show some (Value.int .i64 ((t + 1 : Nat) : Int)) = _; rfl), e2.trans (by show some (Value.int .i64 ((t + 2 : Nat) : Int)) = _; rfl), e3.trans (by show some (Value.int .i64 ((t + 3 : Nat) : Int)) = _; rfl), e4, e5, e6.trans (by show some (Value.int .i64 ((t + 6 : Nat) : Int)) = _; rfl), e7.trans (by show some (Value.int .i64 ((t + 7 : Nat) : Int)) = _; rfl)⟩
      have HTA : Hid ((t : Int) + 1 + 1 + 1 + 1 = ((t + 4 : Nat) : Int)) := hide (by omega)
      have HTB : Hid ((t : Int) + 1 + 1 + 1 + 1 + 1 = ((t + 5 : Nat) : Int)) := hide (by omega)
      have HM4 : Hid (∀ W, Calls Tryd.prog 49 #[.int .i64 ((t : Int) + 1 + 1 + 1 + 1)] W fun e w' => e = .returned (.string (mt (t + 4))) ∧ Below W.heap.size W w') := hide (fun W => by rw [HTA.out]; exact markText_any (t + 4) W (by omega) (by omega))
      have HM5 : Hid (∀ W, Calls Tryd.prog 49 #[.int .i64 ((t : Int) + 1 + 1 + 1 + 1 + 1)] W fun e w' => e = .returned (.string (mt (t + 5))) ∧ Below W.heap.size W w') := hide (fun W => by rw [HTB.out]; exact markText_any (t + 5) W (by omega) (by omega))
      have HV : Hid ((t : Int) + 1 + 1 + 1 + 1 + 1 + 1 + 1 + 1 = ((k + 8 * (j + 1) : Nat) : Int)) := hide (by omega)
      have k1 := str_eq (mt (t + 4)) (mt (t + 4)) rfl
      have k2 := str_eq (mt (t + 5)) (mt (t + 5)) rfl
      have hj2 : (j : Int) < (n : Int) := by omega
      have HL : Hid (∀ W, Below wr.heap.size wr W → HeldS b off j t W) := hide (fun W h => HS.out.later h hbw)
      clear ht HTA HTB e0 e1 e2 e3 e4 e5 e6 e7
      obtain ⟨d0, d1, d2, d3, d4, d5, d6, d7⟩ := HS.out
      have S1 : wr.drew.cell? ⟨b, off + j * 8 + 2 + 2, none⟩ = some (.string (mt (t + 4))) := (HL.out wr.drew (Below.refl _ _).drew).c4
      go_wp2
      go_region_held (fun w' => w'.cell? ⟨b, off + j * 8 + 2 + 2, none⟩ = some (.string (mt (t + 4)))) (assumption) ((go_at_call 49; refine (HM4.out _).mono ?_; rintro e w4 ⟨rfl, hb4⟩; have hS4 : w4.cell? ⟨b, off + j * 8 + 2 + 2, none⟩ = some (.string (mt (t + 4))) := (HL.out w4 ((Below.refl _ wr).drew.trans hb4)).c4))
      have HB4 := hide ((Below.refl wr.heap.size wr).drew.trans hb4)
      have hsz4 : wr.heap.size ≤ w4.heap.size := HB4.out.size
      clear hb4 S1 hS4 d0 d1 d2 d3 d4 d5 d6 d7
      have S2 : w4.drew.cell? ⟨b, off + j * 8 + 2 + 3, none⟩ = some (.string (mt (t + 5))) := (HL.out w4.drew HB4.out.drew).c5
      have S3 : w4.cell? ⟨b, off + j * 8 + 2 + 3, none⟩ = some (.string (mt (t + 5))) := S2
      go_wp2
      go_region_held (fun w' => w'.cell? ⟨b, off + j * 8 + 2 + 3, none⟩ = some (.string (mt (t + 5)))) (assumption) ((go_at_call 49; refine (HM5.out _).mono ?_; rintro e w5 ⟨rfl, hb5⟩; have hS5 : w5.cell? ⟨b, off + j * 8 + 2 + 3, none⟩ = some (.string (mt (t + 5))) := (HL.out w5 (HB4.out.drew.trans (hb5.mono hsz4))).c5))
      have HB5 := hide (HB.out.trans ((HB4.out.drew.trans (hb5.mono hsz4)).mono HB.out.size))
      obtain ⟨-, -, -, -, -, -, d6, d7⟩ := HL.out w5 (HB4.out.drew.trans (hb5.mono hsz4))
      clear hb5 S2 S3 hS5 HB4
      go_wp2
      go_roundw
      case rel => exact ⟨j + 1, by omega, by go_num, by rw [HV.out], HB5⟩
      case measure => first | (simp [intOf]; done) | (simp [intOf]; omega)
    · obtain rfl : j = n := by omega
      obtain ⟨t, ht⟩ : ∃ t, k + 8 * j = t := ⟨_, rfl⟩
      rw [ht]
      have HT := hide ht
      clear ht
      go_wp2
      go_ret
      exact ⟨by rw [HT.out]; rfl, HB.out⟩

end Go.Proofs.YtkcjlalkniaapaaDoor
