/-
  What the laws' markPlaceS does: it numbers the fields of a row of places. Rows that stand while another one is written.
-/
import Derived.Test.YtphbinkkgmlnmaaGreatDoorMPlaceLaw
import Derived.Test.YtphbinkkgmlnmaaGreatDoorG22
import Derived.Test.YtphbinkkgmlnmaaGreatDoorG17
namespace Go.Proofs.YtphbinkkgmlnmaaGreatDoor
open Go.RowKit
open Plain

/-- n places, numbered from k on. -/
def mkPl (k : Nat) : PlaceV := ⟨(k : Nat), (k + 1 : Nat), (k + 2 : Nat), ⟨(k + 3 : Nat), (k + 4 : Nat), mt (k + 5), mt (k + 6), (k + 7 : Nat), (k + 8 : Nat)⟩⟩
def markPl : Nat → Nat → List PlaceV
  | 0, _ => []
  | n + 1, k => mkPl k :: markPl n (k + 9)
theorem markPl_length (n : Nat) : ∀ k, (markPl n k).length = n := by
  induction n with
  | zero => intro k; rfl
  | succ n ih => intro k; simp [markPl, ih]
theorem markPl_get (n : Nat) : ∀ k i, i < n → (markPl n k)[i]? = some (mkPl (k + 9 * i)) := by
  induction n with
  | zero => intro k i h; omega
  | succ n ih =>
    intro k i h
    cases i with
    | zero => simp [markPl]
    | succ i =>
      rw [markPl, List.getElem?_cons_succ, ih (k + 9) i (by omega)]
      congr 2
      omega
theorem markPl_take (n k i : Nat) (h : i < n) : (markPl n k).take (i + 1) = (markPl n k).take i ++ [mkPl (k + 9 * i)] := by
  have hi : i < (markPl n k).length := by rw [markPl_length]; exact h
  rw [List.take_succ_eq_append_getElem hi]
  have := markPl_get n k i h
  rw [List.getElem?_eq_getElem hi] at this
  simp at this
  rw [this]

/-- A cell of a row of the call's own: it is there, and can be written. -/
theorem own_cell9 {w : World} {base e g n cap : Nat} {xs : List Value} (h : w.ownsRow base e 9 (.slice (some ⟨g, 0, none⟩) n cap) n xs) (j : Nat) (hj : j < n * 9) : (∃ u, w.cell? ⟨g, j, none⟩ = some u) ∧ w.frozen? ⟨g, j, none⟩ = false := by
  refine ⟨?_, h.frozenAt j⟩
  rw [h.cellAt j hj]
  have : j < xs.length := by rw [h.1]; exact hj
  exact ⟨_, List.getElem?_eq_getElem this⟩
theorem marks_setP (gs : List PlaceV) (j t : Nat) (h : j < gs.length) : (((((((((plSh.flat gs).set (j * 9) (.int .i64 (t : Int))).set (j * 9 + 1) (.int .i64 ((t : Int) + 1))).set (j * 9 + 2) (.int .i64 ((t : Int) + 1 + 1))).set (j * 9 + 3) (.int .i64 ((t : Int) + 1 + 1 + 1))).set (j * 9 + 4) (.int .i64 ((t : Int) + 1 + 1 + 1 + 1))).set (j * 9 + 5) (.string (mt (t + 5)))).set (j * 9 + 6) (.string (mt (t + 6)))).set (j * 9 + 7) (.int .i64 ((t : Int) + 1 + 1 + 1 + 1 + 1 + 1 + 1))).set (j * 9 + 8) (.int .i64 ((t : Int) + 1 + 1 + 1 + 1 + 1 + 1 + 1 + 1)) = plSh.flat (gs.set j (mkPl t)) := by
  rw [← plSh.flat_set gs (mkPl t) j h]
  have e : plSh.cells (mkPl t) = [.int .i64 (t : Int), .int .i64 ((t : Int) + 1), .int .i64 ((t : Int) + 1 + 1), .int .i64 ((t : Int) + 1 + 1 + 1), .int .i64 ((t : Int) + 1 + 1 + 1 + 1), .string (mt (t + 5)), .string (mt (t + 6)), .int .i64 ((t : Int) + 1 + 1 + 1 + 1 + 1 + 1 + 1), .int .i64 ((t : Int) + 1 + 1 + 1 + 1 + 1 + 1 + 1 + 1)] := by
    show [Value.int .i64 ((t : Nat) : Int), .int .i64 ((t + 1 : Nat) : Int), .int .i64 ((t + 2 : Nat) : Int), .int .i64 ((t + 3 : Nat) : Int), .int .i64 ((t + 4 : Nat) : Int), .string (mt (t + 5)), .string (mt (t + 6)), .int .i64 ((t + 7 : Nat) : Int), .int .i64 ((t + 8 : Nat) : Int)] = _
    rw [show ((t + 1 : Nat) : Int) = (t : Int) + 1 from by omega, show ((t + 2 : Nat) : Int) = (t : Int) + 1 + 1 from by omega, show ((t + 3 : Nat) : Int) = (t : Int) + 1 + 1 + 1 from by omega, show ((t + 4 : Nat) : Int) = (t : Int) + 1 + 1 + 1 + 1 from by omega, show ((t + 7 : Nat) : Int) = (t : Int) + 1 + 1 + 1 + 1 + 1 + 1 + 1 from by omega, show ((t + 8 : Nat) : Int) = (t : Int) + 1 + 1 + 1 + 1 + 1 + 1 + 1 + 1 from by omega]
  rw [e]
  rfl

set_option maxRecDepth 100000 in
set_option maxHeartbeats 2000000 in
theorem markPlaceS_any (w : World) (base : Nat) (a : Option Addr) (n cap : Nat) (fs : List PlaceV) (ho : plSh.Own 37 w base (.slice a n cap) fs) (hn : n ≤ 1099511627776) (k : Nat) (hk0 : 0 < k) (hk : k ≤ 1099511627776) :
    Calls Tryz.prog 19 #[.slice a n cap, .int .i64 k] w fun e w' => e = .returned (.int .i64 (k + 9 * n : Nat)) ∧ plSh.Own 37 w' base (.slice a n cap) (markPl n k) ∧ w.grownBy w' (Value.slice a n cap).ownBlock := by
  have HO := hide ho
  have hfn := ho.len
  clear ho
  go_enter Tryz.func19, Tryz.ntmps19
  go_wp2
  go_loopw [1, 5] (fun v i wr => ∃ (j : Nat) (gs : List PlaceV), j ≤ n ∧ i = .int .i64 j ∧ v = .int .i64 (k + 9 * j : Nat) ∧ Hid (gs.take j = (markPl n k).take j) ∧ Hid (plSh.Own 37 wr base (.slice a n cap) gs) ∧ Hid (w.grownBy wr (Value.slice a n cap).ownBlock)) (fun _ i _ => n - (intOf i).toNat)
  case atStart => exact ⟨0, fs, by omega, rfl, by simp, hide (by simp), HO, hide (grown_refl _ _)⟩
  case round =>
    clear HO hfn
    obtain ⟨j, gs, hj, rfl, rfl, HE, HO, HG⟩ := hrel
    by_cases hlt : j < n
    · obtain ⟨g, rfl⟩ : ∃ g, a = some ⟨g, 0, none⟩ := by
        rcases HO.out.2 with ⟨e, h0⟩ | ⟨g, c, cur, e, _⟩
        · simp only [Value.slice.injEq] at e; have := HO.out.len; omega
        · simp only [Value.slice.injEq] at e
          exact ⟨g, e.1⟩
      have hgl := HO.out.len
      have h0 := HO.out
      unfold Shape.Own at h0
      rw [hgl] at h0
      have H0 : Hid (wr.ownsRow base 37 9 (.slice (some ⟨g, 0, none⟩) n cap) n (plSh.flat gs)) := hide h0
      clear h0
      generalize ht : k + 9 * j = t
      have HTA : Hid ((t : Int) + 1 + 1 + 1 + 1 + 1 = ((t + 5 : Nat) : Int)) := hide (by omega)
      have HTB : Hid ((t : Int) + 1 + 1 + 1 + 1 + 1 + 1 = ((t + 6 : Nat) : Int)) := hide (by omega)
      have htb : t ≤ 10995116277760 := by omega
      have ht0 : 0 < t := by omega
      have HT := hide ht
      clear ht
      have HM4 : Hid (∀ W, Calls Tryz.prog 39 #[.int .i64 ((t : Int) + 1 + 1 + 1 + 1 + 1)] W fun e w' => e = .returned (.string (mt (t + 5))) ∧ Below W.heap.size W w') := hide (fun W => by rw [HTA.out]; exact markText_any (t + 5) W (by omega) (by omega))
      have HM5 : Hid (∀ W, Calls Tryz.prog 39 #[.int .i64 ((t : Int) + 1 + 1 + 1 + 1 + 1 + 1)] W fun e w' => e = .returned (.string (mt (t + 6))) ∧ Below W.heap.size W w') := hide (fun W => by rw [HTB.out]; exact markText_any (t + 6) W (by omega) (by omega))
      clear HTA HTB
      obtain ⟨⟨x0, c0⟩, f0⟩ := own_cell9 H0.out (j * 9) (by omega)
      obtain ⟨⟨x1, c1⟩, f1⟩ := own_cell9 H0.out (j * 9 + 1) (by omega)
      obtain ⟨⟨x2, c2⟩, f2⟩ := own_cell9 H0.out (j * 9 + 2) (by omega)
      obtain ⟨⟨x3, c3⟩, f3⟩ := own_cell9 H0.out (j * 9 + 3) (by omega)
      obtain ⟨⟨xx, cx⟩, fx⟩ := own_cell9 H0.out (j * 9 + 4) (by omega)
      have S0 := hide (H0.out.stored (j * 9) (.int .i64 (t : Int)))
      have S1 := hide (S0.out.1.stored (j * 9 + 1) (.int .i64 ((t : Int) + 1)))
      have S2 := hide (S1.out.1.stored (j * 9 + 2) (.int .i64 ((t : Int) + 1 + 1)))
      have S3 := hide (S2.out.1.stored (j * 9 + 3) (.int .i64 ((t : Int) + 1 + 1 + 1)))
      have SX := hide (S3.out.1.stored (j * 9 + 4) (.int .i64 ((t : Int) + 1 + 1 + 1 + 1)))
      have H4 := hide SX.out.1
      have HG4 := hide (grown_chain HG.out (grown_chain S0.out.2 (grown_chain S1.out.2 (grown_chain S2.out.2 (grown_chain S3.out.2 SX.out.2)))))
      clear S0 S1 S2 S3 SX H0 HG HO
      go_wp2_with fail
      refine (HM4.out _).mono ?_
      rintro e w2 ⟨rfl, hb2⟩
      have H5 := hide (own_later H4.out hb2 (Nat.le_refl _))
      have HG5 := hide (grown_chain HG4.out (below_grown (Value.slice (some ⟨g, 0, none⟩) n cap).ownBlock hb2))
      clear hb2 H4 HG4 c0 f0 c1 f1 c2 f2 c3 f3 cx fx
      obtain ⟨⟨x4, c4⟩, f4⟩ := own_cell9 H5.out (j * 9 + 5) (by omega)
      have S4 := hide (H5.out.stored (j * 9 + 5) (.string (mt (t + 5))))
      have H6 := hide S4.out.1
      have HG6 := hide (grown_chain HG5.out S4.out.2)
      clear S4 H5 HG5
      go_wp2_with fail
      refine (HM5.out _).mono ?_
      rintro e w3 ⟨rfl, hb3⟩
      have H7 := hide (own_later H6.out hb3 (Nat.le_refl _))
      have HG7 := hide (grown_chain HG6.out (below_grown (Value.slice (some ⟨g, 0, none⟩) n cap).ownBlock hb3))
      clear hb3 H6 HG6 c4 f4
      obtain ⟨⟨x5, c5⟩, f5⟩ := own_cell9 H7.out (j * 9 + 6) (by omega)
      obtain ⟨⟨x6, c6⟩, f6⟩ := own_cell9 H7.out (j * 9 + 7) (by omega)
      obtain ⟨⟨x7, c7⟩, f7⟩ := own_cell9 H7.out (j * 9 + 8) (by omega)
      have S5 := hide (H7.out.stored (j * 9 + 6) (.string (mt (t + 6))))
      have S6 := hide (S5.out.1.stored (j * 9 + 7) (.int .i64 ((t : Int) + 1 + 1 + 1 + 1 + 1 + 1 + 1)))
      have S7 := hide (S6.out.1.stored (j * 9 + 8) (.int .i64 ((t : Int) + 1 + 1 + 1 + 1 + 1 + 1 + 1 + 1)))
      have HG8 := hide (grown_chain HG7.out (grown_chain S5.out.2 (grown_chain S6.out.2 S7.out.2)))
      have H8 := hide S7.out.1
      clear S5 S6 S7 H7 HG7
      have HO8 : Hid (plSh.Own 37 _ base (.slice (some ⟨g, 0, none⟩) n cap) (gs.set j (mkPl t))) := hide (by
        unfold Shape.Own
        rw [List.length_set, hgl, ← marks_setP gs j t (by omega)]
        exact H8.out)
      have HE8 : Hid ((gs.set j (mkPl t)).take (j + 1) = (markPl n k).take (j + 1)) := hide (by
        rw [markPl_take n k j hlt, HT.out, ← HE.out, List.take_succ_eq_append_getElem (by rw [List.length_set]; omega), List.take_set_of_le (Nat.le_refl _)]
        simp)
      have HV : Hid ((t : Int) + 1 + 1 + 1 + 1 + 1 + 1 + 1 + 1 + 1 = ((k + 9 * (j + 1) : Nat) : Int)) := hide (by have := HT.out; omega)
      clear H8 HE
      go_wp2
      go_roundw
      case rel => exact ⟨j + 1, gs.set j (mkPl t), by omega, by go_num, by rw [HV.out], HE8, HO8, HG8⟩
      case measure => first | (simp [intOf]; done) | (simp [intOf]; omega)
    · obtain rfl : j = n := by omega
      have HM : Hid (gs = markPl j k) := hide (by
        have h := HE.out
        rw [List.take_of_length_le (by rw [HO.out.len]; omega), List.take_of_length_le (by rw [markPl_length]; omega)] at h
        exact h)
      go_wp2
      go_ret
      exact ⟨rfl, by rw [← HM.out]; exact HO.out, HG.out⟩

end Go.Proofs.YtphbinkkgmlnmaaGreatDoor
namespace Go.Proofs.YtphbinkkgmlnmaaGreatDoor
open Go.RowKit
open Plain

/-- A row in other blocks stands. -/
theorem row_apart {w w' : World} {base base' e sz n e' sz' n' : Nat} {v u : Value} {xs ys : List Value} (h : w.ownsRow base e sz v n xs) {W : World} (h0 : W.ownsRow base e sz v n xs) (hW : W.heap.size ≤ base') (hu : w.ownsRow base' e' sz' u n' ys) (hg : w.grownBy w' u.ownBlock) : w'.ownsRow base e sz v n xs := by
  refine World.ownsRow.kept h hg ?_
  cases q : v.ownBlock with
  | none => exact .inl rfl
  | some g =>
    refine .inr (fun e => ?_)
    have h1 := (World.ownsRow.lt h0 g q).2
    have h2 := (World.ownsRow.lt hu g e.symm).1
    omega
/-- .. of a row ahead of it. -/
theorem row_behind {w w' : World} {base base' e sz n e' sz' n' : Nat} {v u : Value} {xs ys : List Value} (h : w.ownsRow base e sz v n xs) {W : World} (hu0 : W.ownsRow base' e' sz' u n' ys) (hW : W.heap.size ≤ base) (hg : w.grownBy w' u.ownBlock) : w'.ownsRow base e sz v n xs := by
  refine World.ownsRow.kept h hg ?_
  cases q : v.ownBlock with
  | none => exact .inl rfl
  | some g =>
    refine .inr (fun e => ?_)
    have h1 := (World.ownsRow.lt hu0 g e.symm).2
    have h2 := (World.ownsRow.lt h g q).1
    omega
theorem grown_to {w w' : World} {u : Option Nat} {n : Nat} (hg : w.grownBy w' u) (hn : n ≤ w.heap.size) (hu : ∀ g, u = some g → n ≤ g) : Below n w w' := (Below.refl n w).grown hg hn hu

end Go.Proofs.YtphbinkkgmlnmaaGreatDoor
