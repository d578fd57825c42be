/-
  impl.spotAt: the record whose frame stands at a place of a log, or why there is none; impl.RecAt.
-/
import Derived.Test.YtkcjlalkniaapaaDoorFrameImpl
import Derived.Test.YtkcjlalkniaapaaDoorScanSpec
import Derived.Test.YtkcjlalkniaapaaDoorReadRecI
import Derived.Test.YtkcjlalkniaapaaDoorRecAtSpec
import Derived.Deep.RegionHeld3
namespace Go.Proofs.YtkcjlalkniaapaaDoor
open Go.RowKit
open Plain

/-- The two errors lie where the package's variables say. -/
structure ErrIn (w : World) (A B : Addr) : Prop where
  cTorn : w.cell? ⟨0, 0, none⟩ = some (.iface 146 (.pointer (some A)))
  cNoRec : w.cell? ⟨1, 0, none⟩ = some (.iface 146 (.pointer (some B)))
  bTorn : ∃ c t, w.heap[A.block]? = some (.cells c t (0, 0))
  bNoRec : ∃ c t, w.heap[B.block]? = some (.cells c t (0, 0))
  ne : A ≠ B
theorem cell_lt {w : World} {p : Addr} {v : Value} (h : w.cell? p = some v) : p.block < w.heap.size := by
  rcases Nat.lt_or_ge p.block w.heap.size with h' | h'
  · exact h'
  · simp [World.cell?, Array.getElem?_eq_none h'] at h
theorem blk_lt {w : World} {b : Nat} {o : Obj} (h : w.heap[b]? = some o) : b < w.heap.size := (Array.getElem?_eq_some_iff.1 h).1
theorem ErrIn.later {w w' : World} {A B : Addr} {K : Nat} (h : ErrIn w A B) (hb : Below K w w') (hK : w.heap.size ≤ K) : ErrIn w' A B where
  cTorn := by rw [hb.cell (Nat.lt_of_lt_of_le (cell_lt h.cTorn) hK)]; exact h.cTorn
  cNoRec := by rw [hb.cell (Nat.lt_of_lt_of_le (cell_lt h.cNoRec) hK)]; exact h.cNoRec
  bTorn := by obtain ⟨c, t, h1⟩ := h.bTorn; exact ⟨c, t, (hb.block _ (Nat.lt_of_lt_of_le (blk_lt h1) hK)).trans h1⟩
  bNoRec := by obtain ⟨c, t, h1⟩ := h.bNoRec; exact ⟨c, t, (hb.block _ (Nat.lt_of_lt_of_le (blk_lt h1) hK)).trans h1⟩
  ne := h.ne
/-- What spotAt answers: the spot's cells, and the error. -/
def spC (s : ByteArray) (p : Nat) : Array Value :=
  if (uf (s.extract p s.size)).2 = 0 ∨ (rr (uf (s.extract p s.size)).1).2 = false then #[.int .i64 0, .int .i64 0, .int .i64 0, .int .i64 0, .string ⟨#[]⟩, .string ⟨#[]⟩, .int .i64 0, .int .i64 0]
  else #[.int .i64 p, .int .i64 ((uf (s.extract p s.size)).2 : Nat), .int .i64 (rr (uf (s.extract p s.size)).1).1.kind, .int .i64 (rr (uf (s.extract p s.size)).1).1.batch, .string (rr (uf (s.extract p s.size)).1).1.key, .string (rr (uf (s.extract p s.size)).1).1.val, .int .i64 (rr (uf (s.extract p s.size)).1).1.cnt, .int .i64 (rr (uf (s.extract p s.size)).1).1.sum]
def spE (A B : Addr) (s : ByteArray) (p : Nat) : Value :=
  if (uf (s.extract p s.size)).2 = 0 then .iface 105 (.agg #[.int .i64 p, .iface 146 (.pointer (some A))])
  else if (rr (uf (s.extract p s.size)).1).2 = false then .iface 105 (.agg #[.int .i64 p, .iface 146 (.pointer (some B))])
  else .nilIface

/-- What is known of a result's block as long as nothing was written into it. -/
theorem res_gen (w W0 W : World) (T : TypeId) (cs : Array Value) (hW : W0 = w.alloc (.cells cs T)) (hb : Below W0.heap.size W0 W) :
    Below w.heap.size w W ∧ (∀ j, W.frozen? ⟨w.heap.size, j, none⟩ = false) ∧ W.heap[w.heap.size]? = some (.cells cs T (0, 0)) := by
  have e : W0.heap.size = w.heap.size + 1 := by rw [hW]; simp
  have hr : W.heap[w.heap.size]? = some (.cells cs T (0, 0)) := by
    rw [hb.block _ (by omega), hW]
    exact heap_alloc_new w _
  have h0 : Below w.heap.size w W0 := by rw [hW]; exact al1 w _
  exact ⟨h0.trans (hb.mono h0.size), fun j => by simp [World.frozen?, hr], hr⟩

/-- A store into another block leaves a cell alone. -/
theorem cell_past (W : World) (b b' j : Nat) (v : Value) (h : b ≠ b') : (W.setCell ⟨b, j, none⟩ v).cell? ⟨b', 0, none⟩ = W.cell? ⟨b', 0, none⟩ := by
  unfold World.cell?
  rw [Below.heap_setCell W ⟨b, j, none⟩ v b' (by simp; exact fun e => h e.symm)]

set_option maxRecDepth 100000 in
set_option maxHeartbeats 4000000 in
theorem spotAt_any (s : ByteArray) (hs : s.size ≤ 1048576) (p : Nat) (hp : p ≤ s.size) (A B : Addr) (w : World) (ht : STab w) (he : ErrIn w A B) :
    Calls Tryd.prog 43 #[.string s, .int .i64 p] w fun e w' => e = .returned (.tuple #[.agg (spC s p), spE A B s p]) ∧ Below w.heap.size w w' := by
  have hsz : (s.extract p s.size).size = s.size - p := ba_len _ _ _ (by omega) (Nat.le_refl _)
  have HU := hide (implUnframe_any (s.extract p s.size) (by omega))
  have hub := uf_bd (s.extract p s.size)
  have HRR := hide (implRR_any (uf (s.extract p s.size)).1 (by omega))
  have HSC : Hid (spC s p = _) := hide (by unfold spC; rfl)
  have HSE : Hid (spE A B s p = _) := hide (by unfold spE; rfl)
  obtain ⟨W0, hW⟩ : ∃ W0, W0 = w.alloc (.cells #[.int .i64 0, .int .i64 0, .int .i64 0, .int .i64 0, .string ⟨#[]⟩, .string ⟨#[]⟩, .int .i64 0, .int .i64 0] 37) := ⟨_, rfl⟩
  have HRC := hide (fun W h => res_gen w W0 W _ _ hW h)
  have n0 : w.heap.size ≠ 0 := by have := cell_lt he.cTorn; simp only at this; omega
  have n1 : w.heap.size ≠ 1 := by have := cell_lt he.cNoRec; simp only at this; omega
  have HP0 := hide (fun (W : World) j v => cell_past W w.heap.size 0 j v n0)
  have HP1 := hide (fun (W : World) j v => cell_past W w.heap.size 1 j v n1)
  clear n0 n1
  have hb0 : Below w.heap.size w W0 := by rw [hW]; exact al1 w _
  have HTB := hide (ht.later hb0)
  have HER := hide (he.later hb0 (Nat.le_refl _))
  clear ht he hub hsz hb0
  have b1 : (0 : Int) ≤ (p : Int) := by omega
  have b2 : (p : Int) ≤ (s.size : Int) := by omega
  generalize (uf (s.extract p s.size)).2 = m at *
  generalize (uf (s.extract p s.size)).1 = t at *
  generalize (rr t).2 = ok at *
  generalize (rr t).1 = r at *
  obtain ⟨X, HX⟩ : ∃ X, Hid (s.extract p s.size = X) := ⟨_, hide rfl⟩
  rw [HX.out] at HU
  go_enter Tryd.func43, Tryd.ntmps43
  go_wp2_with fail
  rw [← hW]
  try rw [HX.out]
  clear hW HX
  refine (HU.out _ HTB.out).mono ?_
  rintro e w1 ⟨rfl, hb1⟩
  have HB1 := hide hb1
  have HE1 := hide (HER.out.later hb1 (Nat.le_refl _))
  have ct := HE1.out.cTorn
  clear hb1 HU HER HTB
  by_cases hm0 : m = 0
  · have t0 : ((m : Int) == 0) = true := by simpa using hm0
    have HSC2 : Hid (spC s p = #[.int .i64 0, .int .i64 0, .int .i64 0, .int .i64 0, .string ⟨#[]⟩, .string ⟨#[]⟩, .int .i64 0, .int .i64 0]) := hide (by rw [HSC.out, if_pos (Or.inl hm0)])
    have HSE2 : Hid (spE A B s p = .iface 105 (.agg #[.int .i64 p, .iface 146 (.pointer (some A))])) := hide (by rw [HSE.out, if_pos hm0])
    clear HSC HSE hm0
    obtain ⟨hb6, hf6, hrow⟩ := HRC.out w1 HB1.out
    have HB6 := hide hb6
    have g0 := hf6 0
    have g1 := hf6 1
    have g2 := hf6 2
    have g3 := hf6 3
    have g4 := hf6 4
    have g5 := hf6 5
    have g6 := hf6 6
    have g7 := hf6 7
    have y0 : w1.cell? ⟨w.heap.size, 0, none⟩ = _ := cell_of_row w1 _ 0 _ _ _ hrow
    have y1 : w1.cell? ⟨w.heap.size, 1, none⟩ = _ := cell_of_row w1 _ 1 _ _ _ hrow
    have y2 : w1.cell? ⟨w.heap.size, 2, none⟩ = _ := cell_of_row w1 _ 2 _ _ _ hrow
    have y3 : w1.cell? ⟨w.heap.size, 3, none⟩ = _ := cell_of_row w1 _ 3 _ _ _ hrow
    have y4 : w1.cell? ⟨w.heap.size, 4, none⟩ = _ := cell_of_row w1 _ 4 _ _ _ hrow
    have y5 : w1.cell? ⟨w.heap.size, 5, none⟩ = _ := cell_of_row w1 _ 5 _ _ _ hrow
    have y6 : w1.cell? ⟨w.heap.size, 6, none⟩ = _ := cell_of_row w1 _ 6 _ _ _ hrow
    have y7 : w1.cell? ⟨w.heap.size, 7, none⟩ = _ := cell_of_row w1 _ 7 _ _ _ hrow
    clear hb6 hf6 hrow HRC HB1
    have hp := HP0.out
    clear HRR HP1 HP0 HE1
    go_wp2
    go_region_held3 (fun w' => w'.cell? ⟨0, 0, none⟩ = some (.iface 146 (.pointer (some A)))) (first | (simp only [World.cell?_drew, ct]; done) | (simp [ct, hp]; done)) (fail)
    go_wp2
    refine bodyPost_ret (v := .tuple #[.agg #[.int .i64 0, .int .i64 0, .int .i64 0, .int .i64 0, .string ⟨#[]⟩, .string ⟨#[]⟩, .int .i64 0, .int .i64 0], .iface 105 (.agg #[.int .i64 p, .iface 146 (.pointer (some A))])]) (by simp [results, Tryd.results43, go_sem, *]) rfl ⟨by rw [HSC2.out, HSE2.out], ?_⟩
    refine Below.drew ?_
    iterate 8 (refine Below.setCell ?_ (by exact Nat.le_refl _) _)
    exact HB6.out
  have t0 : ((m : Int) == 0) = false := by simpa using hm0
  go_wp2_with fail
  refine (HRR.out _).mono ?_
  rintro e w2 ⟨rfl, hb2⟩
  have HB2 := hide (HB1.out.trans (hb2.mono HB1.out.size))
  have HE2 := hide (HE1.out.later hb2 (Nat.le_refl _))
  clear hb2 HRR HB1 ct
  obtain ⟨w5, hw5⟩ : ∃ w5, w5 = w2.alloc (.cells #[.int .i64 r.kind, .int .i64 r.batch, .string r.key, .string r.val, .int .i64 r.cnt, .int .i64 r.sum] 33) := ⟨_, rfl⟩
  have hrow2 : w5.heap[w2.heap.size]? = some (.cells #[.int .i64 r.kind, .int .i64 r.batch, .string r.key, .string r.val, .int .i64 r.cnt, .int .i64 r.sum] 33 (0, 0)) := by rw [hw5]; exact heap_alloc_new w2 _
  have hb5 : Below W0.heap.size W0 w5 := by rw [hw5]; exact HB2.out.alloc HB2.out.size _
  have ct : w5.cell? ⟨1, 0, none⟩ = _ := (HE2.out.later (w' := w5) (by rw [hw5]; exact al1 _ _) (Nat.le_refl _)).cNoRec
  obtain ⟨hb6, hf6, hrow⟩ := HRC.out w5 hb5
  have HB6 := hide hb6
  obtain ⟨D, hD⟩ : ∃ D, w2.heap.size = D := ⟨_, rfl⟩
  rw [hD] at hrow2
  have g0 := hf6 0
  have g1 := hf6 1
  have g2 := hf6 2
  have g3 := hf6 3
  have g4 := hf6 4
  have g5 := hf6 5
  have g6 := hf6 6
  have g7 := hf6 7
  have y0 : w5.cell? ⟨w.heap.size, 0, none⟩ = _ := cell_of_row w5 _ 0 _ _ _ hrow
  have y1 : w5.cell? ⟨w.heap.size, 1, none⟩ = _ := cell_of_row w5 _ 1 _ _ _ hrow
  have y2 : w5.cell? ⟨w.heap.size, 2, none⟩ = _ := cell_of_row w5 _ 2 _ _ _ hrow
  have y3 : w5.cell? ⟨w.heap.size, 3, none⟩ = _ := cell_of_row w5 _ 3 _ _ _ hrow
  have y4 : w5.cell? ⟨w.heap.size, 4, none⟩ = _ := cell_of_row w5 _ 4 _ _ _ hrow
  have y5 : w5.cell? ⟨w.heap.size, 5, none⟩ = _ := cell_of_row w5 _ 5 _ _ _ hrow
  have y6 : w5.cell? ⟨w.heap.size, 6, none⟩ = _ := cell_of_row w5 _ 6 _ _ _ hrow
  have y7 : w5.cell? ⟨w.heap.size, 7, none⟩ = _ := cell_of_row w5 _ 7 _ _ _ hrow
  have x0 : w5.cell? ⟨D, 0, none⟩ = _ := cell_of_row w5 _ 0 _ _ _ hrow2
  have x1 : w5.cell? ⟨D, 1, none⟩ = _ := cell_of_row w5 _ 1 _ _ _ hrow2
  have x2 : w5.cell? ⟨D, 2, none⟩ = _ := cell_of_row w5 _ 2 _ _ _ hrow2
  have x3 : w5.cell? ⟨D, 3, none⟩ = _ := cell_of_row w5 _ 3 _ _ _ hrow2
  have x4 : w5.cell? ⟨D, 4, none⟩ = _ := cell_of_row w5 _ 4 _ _ _ hrow2
  have x5 : w5.cell? ⟨D, 5, none⟩ = _ := cell_of_row w5 _ 5 _ _ _ hrow2
  clear hb6 hf6 hrow hrow2 hb5 HRC HB2
  rw [hw5] at g0 g1 g2 g3 g4 g5 g6 g7 y0 y1 y2 y3 y4 y5 y6 y7 x0 x1 x2 x3 x4 x5 ct HB6
  clear hw5
  cases ok
  · have HSC2 : Hid (spC s p = #[.int .i64 0, .int .i64 0, .int .i64 0, .int .i64 0, .string ⟨#[]⟩, .string ⟨#[]⟩, .int .i64 0, .int .i64 0]) := hide (by rw [HSC.out, if_pos (Or.inr rfl)])
    have HSE2 : Hid (spE A B s p = .iface 105 (.agg #[.int .i64 p, .iface 146 (.pointer (some B))])) := hide (by rw [HSE.out, if_neg hm0, if_pos rfl])
    clear HSC HSE hm0
    have hp := HP1.out
    clear HP1 HP0 HE1 HE2
    go_wp2
    go_region_held3 (fun w' => w'.cell? ⟨1, 0, none⟩ = some (.iface 146 (.pointer (some B)))) (first | (simp only [World.cell?_drew, ct]; done) | (simp [ct, hp]; done)) (fail)
    go_wp2
    refine bodyPost_ret (v := .tuple #[.agg #[.int .i64 0, .int .i64 0, .int .i64 0, .int .i64 0, .string ⟨#[]⟩, .string ⟨#[]⟩, .int .i64 0, .int .i64 0], .iface 105 (.agg #[.int .i64 p, .iface 146 (.pointer (some B))])]) (by simp [results, Tryd.results43, go_sem, *]) rfl ⟨by rw [HSC2.out, HSE2.out], ?_⟩
    refine Below.drew ?_
    iterate 8 (refine Below.setCell ?_ (by exact Nat.le_refl _) _)
    exact HB6.out
  · have HSC2 : Hid (spC s p = #[.int .i64 p, .int .i64 m, .int .i64 r.kind, .int .i64 r.batch, .string r.key, .string r.val, .int .i64 r.cnt, .int .i64 r.sum]) := hide (by rw [HSC.out, if_neg (by simp [hm0])])
    have HSE2 : Hid (spE A B s p = .nilIface) := hide (by rw [HSE.out, if_neg hm0, if_neg (by simp)])
    clear HSC HSE hm0
    go_wp2
    refine bodyPost_ret (v := .tuple #[.agg #[.int .i64 p, .int .i64 m, .int .i64 r.kind, .int .i64 r.batch, .string r.key, .string r.val, .int .i64 r.cnt, .int .i64 r.sum], .nilIface]) (by simp [results, Tryd.results43, go_sem, *]) rfl ⟨by rw [HSC2.out, HSE2.out], ?_⟩
    iterate 8 (refine Below.setCell ?_ (by exact Nat.le_refl _) _)
    exact HB6.out

end Go.Proofs.YtkcjlalkniaapaaDoor
