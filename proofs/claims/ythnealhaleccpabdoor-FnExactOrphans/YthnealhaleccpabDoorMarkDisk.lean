/-
  What the laws' markText, markFileS, markDisk, heldFileS and heldDisk do: they number the fields of a row of files, and look whether the numbers stand.
-/
import Derived.Test.YthnealhaleccpabDoorFiles
import Derived.Test.YthnealhaleccpabDoorEqDisk
import Derived.Test.YthnealhaleccpabDoorDecBase
import Derived.Deep.RegionHeld
namespace Go.Proofs.YthnealhaleccpabDoor
open Go.RowKit
open Plain

/-- The text of a number. -/
def mt (k : Nat) : ByteArray := ⟨#[109]⟩ ++ ⟨(dd k).toArray⟩
set_option maxRecDepth 100000 in
set_option maxHeartbeats 400000 in
theorem markText_any (a : Nat) (w : World) (h0 : 0 < a) (h1 : a ≤ 9223372036854775807) :
    Calls Tryd.prog 37 #[.int .i64 a] w fun e w' => e = .returned (.string (mt a)) ∧ Below w.heap.size w w' := by
  have H20 := hide (dd_len20 a (by omega))
  go_enter Tryd.func37, Tryd.ntmps37
  go_wp2
  go_loopw [0, 3] (fun n o wr => ∃ (q : Nat) (l : List UInt8), q ≤ a ∧ n = .int .i64 q ∧ o = .string ⟨l.toArray⟩ ∧ Hid (dd a = dd q ++ l) ∧ Below w.heap.size w wr) (fun n _ _ => (intOf n).toNat)
  case atStart => exact ⟨a, [], by omega, rfl, rfl, hide (by simp), Below.refl _ _⟩
  case round =>
    obtain ⟨q, l, hq, rfl, rfl, HD, hB⟩ := hrel
    have hl : l.length ≤ 20 := by
      have e := congrArg List.length HD.out
      have := H20.out
      rw [List.length_append] at e
      omega
    have hsl : (ByteArray.mk l.toArray).size ≤ 20 := by simpa [ByteArray.size] using hl
    by_cases hz : q = 0
    · subst hz
      have HE : Hid (mt a = ⟨#[109]⟩ ++ ⟨l.toArray⟩) := hide (by unfold mt; rw [HD.out]; rfl)
      have hm : (ByteArray.mk #[109]).size ≤ 1 := by decide
      go_wp2
      go_ret
      exact ⟨by rw [HE.out]; rfl, hB⟩
    · have hq0 : (0 : Int) < (q : Int) := by omega
      have HS := hide (dd_step q hz)
      have hcv := cv_one wr
      have hsz : (strOfNums [(48 : Int) + (q : Int) % 10]).size ≤ 1 := by rw [strOfNums_size]; simp
      have HC : Hid (strOfNums [(48 : Int) + (q : Int) % 10] ++ ⟨l.toArray⟩ = ⟨(UInt8.ofNat (48 + q % 10) :: l).toArray⟩) := hide (str_cons (q % 10) (by omega) l)
      go_wp2
      go_roundw
      case rel => exact ⟨q / 10, UInt8.ofNat (48 + q % 10) :: l, by omega, by go_num, by rw [HC.out], hide (by rw [HD.out, HS.out]; simp), hB.alloc hB.size _⟩
      case measure => simp [intOf]; omega

/-- n files, numbered from k on. -/
def mkF (k : Nat) : FileV := ⟨mt k, mt (k + 1), (k + 2 : Nat)⟩
def marked : Nat → Nat → List FileV
  | 0, _ => []
  | n + 1, k => mkF k :: marked n (k + 3)
theorem marked_length (n : Nat) : ∀ k, (marked n k).length = n := by
  induction n with
  | zero => intro k; rfl
  | succ n ih => intro k; simp [marked, ih]
theorem marked_get (n : Nat) : ∀ k i, i < n → (marked n k)[i]? = some (mkF (k + 3 * i)) := by
  induction n with
  | zero => intro k i h; omega
  | succ n ih =>
    intro k i h
    cases i with
    | zero => simp [marked]
    | succ i =>
      rw [marked, List.getElem?_cons_succ, ih (k + 3) i (by omega)]
      congr 2
      omega
theorem marked_take (n k i : Nat) (h : i < n) : (marked n k).take (i + 1) = (marked n k).take i ++ [mkF (k + 3 * i)] := by
  have hi : i < (marked n k).length := by rw [marked_length]; exact h
  rw [List.take_succ_eq_append_getElem hi]
  have := marked_get n k i h
  rw [List.getElem?_eq_getElem hi] at this
  simp at this
  rw [this]

theorem own_later {w w' : World} {base e sz n K : Nat} {v : Value} {xs : List Value} (h : w.ownsRow base e sz v n xs) (hb : Below K w w') (hK : w.heap.size ≤ K) : w'.ownsRow base e sz v n xs := by
  refine ⟨h.1, ?_⟩
  rcases h.2 with h | ⟨g, c, cur, e, hbg, hg, h1⟩
  · exact .inl h
  · have hgl : g < w.heap.size := by
      rcases Nat.lt_or_ge g w.heap.size with h' | h'
      · exact h'
      · rw [Array.getElem?_eq_none h'] at hg; cases hg
    exact .inr ⟨g, c, cur, e, hbg, by rw [hb.block g (by omega)]; exact hg, h1⟩
theorem below_grown {w w' : World} (r : Option Nat) (h : Below w.heap.size w w') : w.grownBy w' r := ⟨h.os, h.tape, h.output, h.size, fun k hk _ => h.block k hk⟩
theorem grown_chain {a b c : World} {r : Option Nat} (h : a.grownBy b r) (k : b.grownBy c r) : a.grownBy c r :=
  ⟨k.os.trans h.os, k.tape.trans h.tape, k.output.trans h.output, Nat.le_trans h.size k.size, fun i hi hr => (k.block i (Nat.lt_of_lt_of_le hi h.size) hr).trans (h.block i hi hr)⟩
theorem grown_refl (w : World) (r : Option Nat) : w.grownBy w r := ⟨rfl, rfl, rfl, Nat.le_refl _, fun _ _ _ => rfl⟩
/-- A cell of a row of the call's own: it is there, and can be written. -/
theorem own_cell {w : World} {base e g n cap : Nat} {xs : List Value} (h : w.ownsRow base e 3 (.slice (some ⟨g, 0, none⟩) n cap) n xs) (j : Nat) (hj : j < n * 3) : (∃ u, w.cell? ⟨g, j, none⟩ = some u) ∧ w.frozen? ⟨g, j, none⟩ = false := by
  refine ⟨?_, h.frozenAt j⟩
  rw [h.cellAt j hj]
  have : j < xs.length := by rw [h.1]; exact hj
  exact ⟨_, List.getElem?_eq_getElem this⟩

set_option maxRecDepth 100000 in
set_option maxHeartbeats 1000000 in
theorem markFileS_any (w : World) (base : Nat) (a : Option Addr) (n cap : Nat) (fs : List FileV) (ho : FOwn w base (.slice a n cap) fs) (hn : n ≤ 1099511627776) (k : Nat) (hk0 : 0 < k) (hk : k ≤ 1099511627776) :
    Calls Tryd.prog 35 #[.slice a n cap, .int .i64 k] w fun e w' => e = .returned (.int .i64 (k + 3 * n : Nat)) ∧ FOwn w' base (.slice a n cap) (marked n k) ∧ w.grownBy w' (Value.slice a n cap).ownBlock := by
  have HO := hide ho
  have hfn := ho.len
  clear ho
  go_enter Tryd.func35, Tryd.ntmps35
  go_wp2
  go_loopw [1, 5] (fun v i wr => ∃ (j : Nat) (gs : List FileV), j ≤ n ∧ i = .int .i64 j ∧ v = .int .i64 (k + 3 * j : Nat) ∧ Hid (gs.take j = (marked n k).take j) ∧ Hid (FOwn wr base (.slice a n cap) gs) ∧ Hid (w.grownBy wr (Value.slice a n cap).ownBlock)) (fun _ i _ => n - (intOf i).toNat)
  case atStart => exact ⟨0, fs, by omega, rfl, by simp, hide (by simp), HO, hide (grown_refl _ _)⟩
  case round =>
    clear HO hfn
    obtain ⟨j, gs, hj, rfl, rfl, HE, HO, HG⟩ := hrel
    by_cases hlt : j < n
    · obtain ⟨g, rfl⟩ : ∃ g, a = some ⟨g, 0, none⟩ := by
        rcases HO.out.2 with ⟨e, h0⟩ | ⟨g, c, cur, e, _⟩
        · simp only [Value.slice.injEq] at e; omega
        · simp only [Value.slice.injEq] at e
          exact ⟨g, e.1⟩
      have hgl := HO.out.len
      have h0 := HO.out
      unfold FOwn at h0
      rw [hgl] at h0
      have H0 := hide h0
      clear h0
      generalize ht : k + 3 * j = t
      have HTA : Hid ((t : Int) + 1 = ((t + 1 : Nat) : Int)) := hide (by omega)
      have htb : t ≤ 4398046511104 := by omega
      have ht0 : 0 < t := by omega
      have HT := hide ht
      clear ht
      go_wp2_with fail
      refine (markText_any t wr (by omega) (by omega)).mono ?_
      rintro e w2 ⟨rfl, hb2⟩
      have H1 := hide (own_later H0.out hb2 (Nat.le_refl _))
      have HG2 := hide (grown_chain HG.out (below_grown (Value.slice (some ⟨g, 0, none⟩) n cap).ownBlock hb2))
      clear hb2 H0 HG HO
      obtain ⟨⟨x1, c1⟩, f1⟩ := own_cell H1.out (j * 3) (by omega)
      have HS := hide (H1.out.stored (j * 3) (.string (mt t)))
      have HG3 := hide (grown_chain HG2.out HS.out.2)
      have H2 := hide HS.out.1
      clear HS H1 HG2
      go_wp2_with fail
      rw [HTA.out]
      refine (markText_any (t + 1) _ (by omega) (by omega)).mono ?_
      rintro e w3 ⟨rfl, hb3⟩
      have H3 := hide (own_later H2.out hb3 (Nat.le_refl _))
      have HG4 := hide (grown_chain HG3.out (below_grown (Value.slice (some ⟨g, 0, none⟩) n cap).ownBlock hb3))
      clear hb3 H2 HG3 c1 f1
      obtain ⟨⟨x2, c2⟩, f2⟩ := own_cell H3.out (j * 3 + 1) (by omega)
      have HS := hide (H3.out.stored (j * 3 + 1) (.string (mt (t + 1))))
      obtain ⟨⟨x3, c3⟩, f3⟩ := own_cell HS.out.1 (j * 3 + 2) (by omega)
      have HS2 := hide (HS.out.1.stored (j * 3 + 2) (.int .i64 ((t : Int) + 1 + 1)))
      have HG5 := hide (grown_chain HG4.out (grown_chain HS.out.2 HS2.out.2))
      have H5 := hide HS2.out.1
      clear HS HS2 HG4 H3
      have HF : Hid ((((fcells gs).set (j * 3) (.string (mt t))).set (j * 3 + 1) (.string (mt (t + 1)))).set (j * 3 + 2) (.int .i64 ((t : Int) + 1 + 1)) = fcells (gs.set j (mkF t))) := hide (by
        rw [← fcells_set gs j (mkF t) (by omega), show ((t : Int) + 1 + 1) = (mkF t).safe from by show _ = ((t + 2 : Nat) : Int); omega]
        rfl)
      have HO5 : Hid (FOwn _ base (.slice (some ⟨g, 0, none⟩) n cap) (gs.set j (mkF t))) := hide (by
        unfold FOwn
        rw [List.length_set, hgl, ← HF.out]
        exact H5.out)
      have HE5 : Hid ((gs.set j (mkF t)).take (j + 1) = (marked n k).take (j + 1)) := hide (by
        rw [marked_take n k j hlt, HT.out, ← HE.out, List.take_succ_eq_append_getElem (by rw [List.length_set]; omega), List.take_set_of_le (Nat.le_refl _)]
        simp)
      have HV : Hid ((t : Int) + 1 + 1 + 1 = ((k + 3 * (j + 1) : Nat) : Int)) := hide (by have := HT.out; omega)
      clear H5 HF HE
      go_wp2
      go_roundw
      case rel => exact ⟨j + 1, gs.set j (mkF t), by omega, by go_num, by rw [HV.out], HE5, HO5, HG5⟩
      case measure => first | (simp [intOf]; done) | (simp [intOf]; omega)
    · obtain rfl : j = n := by omega
      have HM : Hid (gs = marked j k) := hide (by
        have h := HE.out
        rw [List.take_of_length_le (by rw [HO.out.len]; omega), List.take_of_length_le (by rw [marked_length]; omega)] at h
        exact h)
      go_wp2
      go_ret
      exact ⟨rfl, by rw [← HM.out]; exact HO.out, HG.out⟩

set_option maxHeartbeats 400000 in
theorem markDisk_any (w : World) (base : Nat) (a : Option Addr) (n cap : Nat) (fs : List FileV) (ho : FOwn w base (.slice a n cap) fs) (hn : n ≤ 1099511627776) (k : Nat) (hk0 : 0 < k) (hk : k ≤ 1099511627776) (c u : Int) (d : Bool) :
    Calls Tryd.prog 16 #[.agg #[.slice a n cap, .int .i64 c, .int .i64 u, .bool d], .int .i64 k] w fun e w' => e = .returned (.int .i64 (k + 3 * n : Nat)) ∧ FOwn w' base (.slice a n cap) (marked n k) ∧ w.grownBy w' (Value.slice a n cap).ownBlock := by
  have HB0 := hide ((Below.refl w.heap.size w).alloc (Nat.le_refl _) (.cells #[.slice a n cap, .int .i64 c, .int .i64 u, .bool d] 37))
  have HO := hide (ho.later HB0.out (Nat.le_refl _))
  clear ho
  go_enter Tryd.func16, Tryd.ntmps16
  go_wp2_with fail
  refine (markFileS_any _ base a n cap fs HO.out hn k hk0 hk).mono ?_
  rintro e w2 ⟨rfl, ho2, hg2⟩
  have HO2 := hide ho2
  have HG2 := hide (grown_chain (below_grown _ HB0.out) hg2)
  clear ho2 hg2 HO HB0
  obtain ⟨t, ht⟩ : ∃ t, k + 3 * n = t := ⟨_, rfl⟩
  rw [ht]
  have HT := hide ht
  clear ht
  go_wp2
  go_ret
  exact ⟨by rw [HT.out]; rfl, HO2.out, HG2.out⟩

end Go.Proofs.YthnealhaleccpabDoor
