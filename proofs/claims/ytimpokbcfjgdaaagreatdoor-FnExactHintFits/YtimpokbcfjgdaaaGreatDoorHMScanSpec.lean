/-
  spec.ScanRecs: the records of a log, from its beginning on.
-/
import Derived.Test.YtimpokbcfjgdaaaGreatDoorHG10
import Derived.Test.YtimpokbcfjgdaaaGreatDoorHG17
namespace Go.Proofs.YtimpokbcfjgdaaaGreatDoor
open Go.RowKit
open Plain

/-- The records of a log from place p on, and where the first that is none stands. -/
def scanF (s : ByteArray) : Nat → Nat → List SpotV × Nat
  | 0, p => ([], p)
  | f + 1, p =>
    if p < s.size then
      if (uf (s.extract p s.size)).2 = 0 ∨ (rr (uf (s.extract p s.size)).1).2 = false then ([], p)
      else (⟨p, (uf (s.extract p s.size)).2, (rr (uf (s.extract p s.size)).1).1⟩ :: (scanF s f (p + (uf (s.extract p s.size)).2)).1, (scanF s f (p + (uf (s.extract p s.size)).2)).2)
    else ([], p)
def scanS (s : ByteArray) : List SpotV × Nat := scanF s s.size 0
theorem scanF_end (s : ByteArray) (f p : Nat) (h : ¬ p < s.size) : scanF s f p = ([], p) := by
  cases f with
  | zero => rfl
  | succ f => rw [scanF, if_neg h]
theorem scanF_stop (s : ByteArray) (f p : Nat) (h : (uf (s.extract p s.size)).2 = 0 ∨ (rr (uf (s.extract p s.size)).1).2 = false) : scanF s f p = ([], p) := by
  cases f with
  | zero => rfl
  | succ f =>
    rw [scanF, if_pos h]
    split <;> rfl
theorem scanF_go (s : ByteArray) (f p : Nat) (hp : p < s.size) (h1 : ¬ (uf (s.extract p s.size)).2 = 0) (h2 : (rr (uf (s.extract p s.size)).1).2 = true) :
    scanF s (f + 1) p = (⟨p, (uf (s.extract p s.size)).2, (rr (uf (s.extract p s.size)).1).1⟩ :: (scanF s f (p + (uf (s.extract p s.size)).2)).1, (scanF s f (p + (uf (s.extract p s.size)).2)).2) := by
  rw [scanF, if_pos hp, if_neg (by rw [h2]; simp [h1])]
theorem specRR_any (s : ByteArray) (hs : s.size ≤ 1048576) : Ans 51 #[.string s] (.tuple #[.agg #[.int .i64 (rr s).1.kind, .int .i64 (rr s).1.batch, .string (rr s).1.key, .string (rr s).1.val, .int .i64 (rr s).1.cnt, .int .i64 (rr s).1.sum], .bool (rr s).2]) := by
  obtain ⟨r, ok, h, hA⟩ := specRead_any s hs
  rw [rr_of h]
  exact hA
theorem implRR_any (s : ByteArray) (hs : s.size ≤ 1048576) : Ans 119 #[.string s] (.tuple #[.agg #[.int .i64 (rr s).1.kind, .int .i64 (rr s).1.batch, .string (rr s).1.key, .string (rr s).1.val, .int .i64 (rr s).1.cnt, .int .i64 (rr s).1.sum], .bool (rr s).2]) := by
  obtain ⟨r, ok, h, hA⟩ := implRead_any s hs
  rw [rr_of h]
  exact hA

set_option maxRecDepth 100000 in
set_option maxHeartbeats 4000000 in
theorem specScan_any (s : ByteArray) (hs : s.size ≤ 1048576) (w : World) :
    Calls Tryz.prog 15 #[.string s] w fun e w' => (∃ a n cap, e = .returned (.tuple #[.slice a n cap, .int .i64 ((scanS s).2 : Nat)]) ∧ spotSh.Own 43 w' w.heap.size (.slice a n cap) (scanS s).1) ∧ Below w.heap.size w w' := by
  have HO := hide (Shape.Own.empty spotSh 43 w)
  go_enter Tryz.func15, Tryz.ntmps15
  go_wp2
  go_loopw [4, 5] (fun v x wr => ∃ (a : Option Addr) (n cap p f : Nat) (xs : List SpotV), v = .slice a n cap ∧ x = .int .i64 p ∧ p ≤ s.size ∧ n ≤ p ∧ s.size ≤ p + f ∧ Hid (spotSh.Own 43 wr w.heap.size (.slice a n cap) xs) ∧ Hid (xs ++ (scanF s f p).1 = (scanS s).1 ∧ (scanF s f p).2 = (scanS s).2) ∧ Hid (Below w.heap.size w wr)) (fun _ x _ => s.size - (intOf x).toNat)
  case atStart => exact ⟨_, 0, 0, 0, s.size, [], rfl, rfl, by omega, by omega, by omega, HO, hide ⟨rfl, rfl⟩, hide ((Below.refl _ _).alloc (Nat.le_refl _) _)⟩
  case round =>
    clear HO
    obtain ⟨a, n, cap, p, f, xs, rfl, rfl, hp, hnp, hf, HOW, HE, HB⟩ := hrel
    by_cases hlt : p < s.size
    · have hsz : (s.extract p s.size).size = s.size - p := ba_len _ _ _ (by omega) (Nat.le_refl _)
      have HU := hide (specUnframe_any (s.extract p s.size) (by omega))
      have hub := uf_bd (s.extract p s.size)
      have HRR := hide (specRR_any (uf (s.extract p s.size)).1 (by omega))
      have HSTOP := hide (scanF_stop s f p)
      have HGO : Hid (∀ g, f = g + 1 → ¬ (uf (s.extract p s.size)).2 = 0 → (rr (uf (s.extract p s.size)).1).2 = true → scanF s f p = (⟨p, (uf (s.extract p s.size)).2, (rr (uf (s.extract p s.size)).1).1⟩ :: (scanF s g (p + (uf (s.extract p s.size)).2)).1, (scanF s g (p + (uf (s.extract p s.size)).2)).2)) := hide (fun g hg h1 h2 => by rw [hg]; exact scanF_go s g p hlt h1 h2)
      have hm : p + (uf (s.extract p s.size)).2 ≤ s.size := by omega
      clear hub hsz
      generalize (uf (s.extract p s.size)).2 = m at *
      generalize (uf (s.extract p s.size)).1 = t at *
      generalize (rr t).2 = ok at *
      generalize (rr t).1 = r at *
      go_wp2_with fail
      refine (HU.out _).mono ?_
      rintro e w1 ⟨rfl, hb1⟩
      have HB1 := hide (HB.out.trans (hb1.mono HB.out.size))
      have HOW1 := hide (HOW.out.later hb1 (Nat.le_refl _))
      clear hb1 HU HB HOW
      go_wp2_with fail
      refine (HRR.out _).mono ?_
      rintro e w2 ⟨rfl, hb2⟩
      have HB2 := hide (HB1.out.trans (hb2.mono HB1.out.size))
      have HOW2 := hide (HOW1.out.later hb2 (Nat.le_refl _))
      clear hb2 HRR HB1 HOW1
      have hA : Below w2.heap.size w2 (w2.alloc (.cells #[.int .i64 r.kind, .int .i64 r.batch, .string r.key, .string r.val, .int .i64 r.cnt, .int .i64 r.sum] 41)) := (Below.refl _ _).alloc (Nat.le_refl _) _
      have HB3 := hide (HB2.out.trans (hA.mono HB2.out.size))
      have HOW3 := hide (HOW2.out.later hA (Nat.le_refl _))
      clear hA HB2 HOW2
      by_cases hm0 : m = 0
      · have t0 : ((m : Int) == 0) = true := by simpa using hm0
        have HEE : Hid (xs = (scanS s).1 ∧ p = (scanS s).2) := hide (by
          have h := HE.out
          rw [HSTOP.out (Or.inl hm0)] at h
          simpa using h)
        clear hm0 HGO HSTOP HE hm
        go_wp2
        refine bodyPost_ret (v := .tuple #[.slice a n cap, .int .i64 p]) (by simp [results, Tryz.results15, go_sem]) rfl ⟨⟨a, n, cap, by rw [← HEE.out.2], by rw [← HEE.out.1]; exact HOW3.out⟩, HB3.out⟩
      have t0 : ((m : Int) == 0) = false := by simpa using hm0
      cases ok with
      | false =>
        have HEE : Hid (xs = (scanS s).1 ∧ p = (scanS s).2) := hide (by
          have h := HE.out
          rw [HSTOP.out (Or.inr rfl)] at h
          simpa using h)
        clear hm0 HGO HSTOP HE hm
        go_wp2
        refine bodyPost_ret (v := .tuple #[.slice a n cap, .int .i64 p]) (by simp [results, Tryz.results15, go_sem]) rfl ⟨⟨a, n, cap, by rw [← HEE.out.2], by rw [← HEE.out.1]; exact HOW3.out⟩, HB3.out⟩
      | true =>
        obtain ⟨g, hg⟩ : ∃ g, f = g + 1 := ⟨f - 1, by omega⟩
        have HE2 : Hid ((xs ++ [⟨p, m, r⟩]) ++ (scanF s g (p + m)).1 = (scanS s).1 ∧ (scanF s g (p + m)).2 = (scanS s).2) := hide (by
          have h := HE.out
          rw [HGO.out g hg hm0 rfl] at h
          simpa using h)
        have hf2 : s.size ≤ p + m + g := by omega
        have hmp : 0 < m := by omega
        clear HGO HSTOP HE hg
        have HNL := hide HOW3.out.len
        go_wp2_with (at_builtin; refine wpList_app_spot rfl (.tmp 35) (.tmp 40) rfl ⟨p, m, r⟩ HOW3.out HB3.out.size (by have := HNL.out; omega) rfl rfl (by simp) ?_; intro a' n' cap' w4 hn4 ho4 hb4; have HOW4 := hide ho4; have HB4 := hide (HB3.out.trans hb4); clear ho4 hb4)
        have hxl := HNL.out
        subst hn4
        refine ⟨⟨a', _, cap', p + m, g, _, rfl, by simp, hm, by omega, hf2, HOW4, HE2, HB4⟩, ?_⟩
        simp [intOf]
        omega
    · obtain rfl : p = s.size := by omega
      have HEE : Hid (xs = (scanS s).1 ∧ s.size = (scanS s).2) := hide (by
        have h := HE.out
        rw [scanF_end s f s.size hlt] at h
        simpa using h)
      go_wp2
      refine bodyPost_ret (v := .tuple #[.slice a n cap, .int .i64 s.size]) (by simp [results, Tryz.results15, go_sem]) rfl ⟨⟨a, n, cap, by rw [← HEE.out.2], by rw [← HEE.out.1]; exact HOW.out⟩, HB.out⟩

end Go.Proofs.YtimpokbcfjgdaaaGreatDoor
