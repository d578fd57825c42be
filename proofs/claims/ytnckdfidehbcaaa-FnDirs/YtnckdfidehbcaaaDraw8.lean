/-
  An entry and a directory, drawn: spec.l8Entry, spec.l8Dir, spec.DrawDirPut.
-/
import Derived.Test.YtnckdfidehbcaaaDrawKey
import Derived.Test.YtnckdfidehbcaaaDirPutS
import Derived.Test.YtnckdfidehbcaaaRowPutC
namespace Go.Proofs.Ytnckdfidehbcaaa
open Go.RowKit
open Plain

theorem belowX_any (n : Nat) (h0 : 0 < n) (w : World) (B : Nat) (a : Option Addr) (len cap : Nat) (zs : List Int) (hc : CurX w B a len cap zs) :
    Calls Try.prog 42 #[.pointer (some ⟨B, 0, none⟩), .int .i64 (n : Int)] w fun e w' => (∃ x : Nat, x < n ∧ e = .returned (.int .i64 (x : Int))) ∧ CurX w' B a len cap zs ∧ w.grownBy w' (some B) := by
  obtain ⟨st, hc⟩ := hc
  refine (below_any (n : Int) w B a len cap zs st hc).mono ?_
  rintro e w' ⟨rfl, h1, h2⟩
  have hb := lV_bd zs (n : Int) st (by omega)
  refine ⟨⟨(lV zs (n : Int) st).toNat, by omega, ?_⟩, ⟨_, h1⟩, h2⟩
  rw [show (((lV zs (n : Int) st).toNat : Nat) : Int) = lV zs (n : Int) st from by omega]

theorem onceX_any (n : Nat) (h0 : 0 < n) (w : World) (B : Nat) (a : Option Addr) (len cap : Nat) (zs : List Int) (hc : CurX w B a len cap zs) :
    Calls Try.prog 44 #[.pointer (some ⟨B, 0, none⟩), .int .i64 (n : Int)] w fun e w' => (∃ b : Bool, e = .returned (.bool b)) ∧ CurX w' B a len cap zs ∧ w.grownBy w' (some B) := by
  have HB := hide (belowX_any n h0 w B a len cap zs hc)
  clear hc
  go_enter Try.func44, Try.ntmps44
  go_wp2_with fail
  refine HB.out.mono ?_
  rintro e w1 ⟨⟨x, hx, rfl⟩, hc1, hg1⟩
  have HC1 := hide hc1
  have HG1 := hide hg1
  clear hc1 hg1 HB
  go_wp2
  go_ret
  exact ⟨⟨_, rfl⟩, HC1.out, HG1.out⟩

theorem Blk5.grown {w w' : World} {D B : Nat} {f : EntV} (h : Blk5 w D f) (hg : w.grownBy w' (some B)) (hB : B ≠ D) : Blk5 w' D f := (hg.block _ h.lt (fun e => hB (by injection e with e; exact e.symm))).trans h

theorem setCell_size (w : World) (p : Addr) (v : Value) : (w.setCell p v).heap.size = w.heap.size := by simp [World.setCell]
theorem grown_cell {w w' : World} {r : Option Nat} (h : w.grownBy w' r) (p : Addr) (v : Value) (hp : w.heap.size ≤ p.block) : w.grownBy (w'.setCell p v) r :=
  ⟨h.os, h.tape, h.output, by rw [setCell_size]; exact h.size, fun j hj hr => by rw [Below.heap_setCell _ _ _ _ (by omega)]; exact h.block j hj hr⟩
theorem grown_set5 {w w' : World} {r : Option Nat} {D : Nat} (h : w.grownBy w' r) (hD : w.heap.size ≤ D) (v0 v1 v2 v3 v4 : Value) : w.grownBy (((((w'.setCell ⟨D, 0, none⟩ v0).setCell ⟨D, 1, none⟩ v1).setCell ⟨D, 2, none⟩ v2).setCell ⟨D, 3, none⟩ v3).setCell ⟨D, 4, none⟩ v4) r :=
  grown_cell (grown_cell (grown_cell (grown_cell (grown_cell h _ _ (by exact hD)) _ _ (by exact hD)) _ _ (by exact hD)) _ _ (by exact hD)) _ _ (by exact hD)
theorem CurX.set5 {w : World} {B D : Nat} {a : Option Addr} {len cap : Nat} {zs : List Int} (h : CurX w B a len cap zs) (hD : B < D) (v0 v1 v2 v3 v4 : Value) : CurX (((((w.setCell ⟨D, 0, none⟩ v0).setCell ⟨D, 1, none⟩ v1).setCell ⟨D, 2, none⟩ v2).setCell ⟨D, 3, none⟩ v3).setCell ⟨D, 4, none⟩ v4) B a len cap zs :=
  ((((h.set _ _ (by exact hD)).set _ _ (by exact hD)).set _ _ (by exact hD)).set _ _ (by exact hD)).set _ _ (by exact hD)

set_option maxRecDepth 100000 in
set_option maxHeartbeats 2000000 in
theorem entry8_any (w : World) (B : Nat) (a : Option Addr) (len cap : Nat) (zs : List Int) (hc : CurX w B a len cap zs) :
    Calls Try.prog 25 #[.pointer (some ⟨B, 0, none⟩)] w fun e w' => (∃ p : EntV, e = .returned (.agg #[.string p.key, .int .i64 p.seg, .int .i64 p.pos, .int .i64 p.len, .int .i64 p.bat])) ∧ CurX w' B a len cap zs ∧ w.grownBy w' (some B) := by
  have hB := hc.lt
  have HC0 := hide (hc.below (al1 w (.cells #[.string ⟨#[]⟩, .int .i64 0, .int .i64 0, .int .i64 0, .int .i64 0] 26)) hB)
  have HK0 := hide (Blk5.new w zeroE)
  have HG0 := hide (World.grownBy_alloc w (.cells #[.string ⟨#[]⟩, .int .i64 0, .int .i64 0, .int .i64 0, .int .i64 0] 26) (some B))
  have hne : B ≠ w.heap.size := by omega
  clear hc
  go_enter Try.func25, Try.ntmps25
  go_wp2_with fail
  refine (key5_any _ B a len cap zs HC0.out).mono ?_
  rintro e w1 ⟨⟨s, -, rfl⟩, hc1, hg1⟩
  have HC1 := hide hc1
  have HK1 := hide (HK0.out.grown hg1 hne)
  have HG1 := hide (grown_trans HG0.out hg1)
  clear hc1 hg1 HC0 HK0 HG0
  go_wp2_with fail
  refine (belowX_any 4 (by omega) _ B a len cap zs HC1.out).mono ?_
  rintro e w2 ⟨⟨x1, hx1, rfl⟩, hc2, hg2⟩
  have HC2 := hide hc2
  have HK2 := hide (HK1.out.grown hg2 hne)
  have HG2 := hide (grown_trans HG1.out hg2)
  clear hc2 hg2 HC1 HK1 HG1
  go_wp2_with fail
  refine (belowX_any 90 (by omega) _ B a len cap zs HC2.out).mono ?_
  rintro e w3 ⟨⟨x2, hx2, rfl⟩, hc3, hg3⟩
  have HC3 := hide hc3
  have HK3 := hide (HK2.out.grown hg3 hne)
  have HG3 := hide (grown_trans HG2.out hg3)
  clear hc3 hg3 HC2 HK2 HG2
  go_wp2_with fail
  refine (belowX_any 30 (by omega) _ B a len cap zs HC3.out).mono ?_
  rintro e w4 ⟨⟨x3, hx3, rfl⟩, hc4, hg4⟩
  have HC4 := hide hc4
  have HK4 := hide (HK3.out.grown hg4 hne)
  have HG4 := hide (grown_trans HG3.out hg4)
  clear hc4 hg4 HC3 HK3 HG3
  go_wp2_with fail
  refine (belowX_any 9 (by omega) _ B a len cap zs HC4.out).mono ?_
  rintro e w5 ⟨⟨x4, hx4, rfl⟩, hc5, hg5⟩
  have HC5 := hide hc5
  have HK5 := hide (HK4.out.grown hg5 hne)
  have HG5 := hide (grown_trans HG4.out hg5)
  clear hc5 hg5 HC4 HK4 HG4
  obtain ⟨y0, y1, y2, y3, y4, f0, f1, f2, f3, f4⟩ := cells5 HK5.out
  have hsz : w.heap.size < w5.heap.size := HK5.out.lt
  go_wp2
  refine bodyPost_ret (v := .agg #[.string s, .int .i64 (1 + (x1 : Int)), .int .i64 (x2 : Int), .int .i64 (8 + (x3 : Int)), .int .i64 (1 + (x4 : Int))]) (by simp [results, Try.results25, go_sem, *]) rfl ⟨⟨⟨s, 1 + (x1 : Int), (x2 : Int), 8 + (x3 : Int), 1 + (x4 : Int)⟩, rfl⟩, HC5.out.set5 hB _ _ _ _ _, grown_set5 HG5.out (Nat.le_refl _) _ _ _ _ _⟩

/-- One field of an entry in a row is written. -/
theorem flat_field (v : Value) (z : EntV) (j : Nat) (hj : j < 5) : ∀ (xs : List EntV) (k : Nat) (h : k < xs.length), entSh.cells z = (entSh.cells (xs[k])).set j v → (entSh.flat xs).set (k * 5 + j) v = entSh.flat (xs.set k z)
  | [], k, h, _ => by simp at h
  | a :: r, 0, h, hz => by
    rw [Shape.flat, Nat.zero_mul, Nat.zero_add, List.set_append_left _ _ (by rw [entSh.len]; exact hj), List.set_cons_zero, Shape.flat, hz]
    rfl
  | a :: r, k + 1, h, hz => by
    have ih := flat_field v z j hj r k (by simpa using h) (by simpa using hz)
    rw [Shape.flat, List.set_append_right _ _ (by rw [entSh.len]; show 5 ≤ _; omega), entSh.len, show (k + 1) * 5 + j - entSh.k = k * 5 + j from by show (k + 1) * 5 + j - 5 = _; omega, ih, List.set_cons_succ, Shape.flat]
theorem Shape.Own.field {w : World} {base g n cap : Nat} {xs : List EntV} (h : entSh.Own 26 w base (.slice (some ⟨g, 0, none⟩) n cap) xs) (k : Nat) (hk : k < n) (j : Nat) (hj : j < 5) (v : Value) (z : EntV) (hz : ∀ hk', entSh.cells z = (entSh.cells (xs[k]'hk')).set j v) :
    entSh.Own 26 (w.setCell ⟨g, k * 5 + j, none⟩ v) base (.slice (some ⟨g, 0, none⟩) n cap) (xs.set k z) := by
  have hn := h.len
  unfold Shape.Own at h ⊢
  rw [hn] at h
  rw [List.length_set, hn, ← flat_field v z j hj xs k (by omega) (hz _)]
  exact (h.stored (k * 5 + j) v).1

set_option maxRecDepth 100000 in
set_option maxHeartbeats 4000000 in
theorem dir8_any (w : World) (B : Nat) (a : Option Addr) (len cap : Nat) (zs : List Int) (hc : CurX w B a len cap zs) :
    Calls Try.prog 24 #[.pointer (some ⟨B, 0, none⟩)] w fun e w' => (∃ (g n cap' : Nat) (xs : List EntV), e = .returned (.slice (some ⟨g, 0, none⟩) n cap') ∧ n ≤ 7 ∧ entSh.Own 26 w' w.heap.size (.slice (some ⟨g, 0, none⟩) n cap') xs) ∧ CurX w' B a len cap zs ∧ w.grownBy w' (some B) := by
  have hB := hc.lt
  have HC0 := hide (hc.below (al1 w (.cells #[] 26)) hB)
  have HG0 := hide (World.grownBy_alloc w (.cells #[] 26) (some B))
  have HO0 := hide (Shape.Own.empty entSh 26 w)
  clear hc
  go_enter Try.func24, Try.ntmps24
  go_wp2_with fail
  refine (belowX_any 7 (by omega) _ B a len cap zs HC0.out).mono ?_
  rintro e w1 ⟨⟨x1, hx1, rfl⟩, hc1, hg1⟩
  have HC1 := hide hc1
  have HG1 := hide (grown_trans HG0.out hg1)
  have HO1 := hide (HO0.out.grownB hg1 hB)
  clear hc1 hg1 HC0 HG0 HO0
  go_wp2
  go_loopw [3, 4] (fun v i wr => ∃ (k g n c' : Nat) (xs : List EntV), k ≤ 6 ∧ v = .slice (some ⟨g, 0, none⟩) n c' ∧ i = .int .i64 k ∧ n + k ≤ 6 ∧ Hid (entSh.Own 26 wr w.heap.size (.slice (some ⟨g, 0, none⟩) n c') xs) ∧ Hid (CurX wr B a len cap zs) ∧ Hid (w.grownBy wr (some B))) (fun _ i _ => (intOf i).toNat)
  case atStart => exact ⟨x1, _, 0, 0, [], by omega, rfl, rfl, by omega, HO1, HC1, HG1⟩
  case round =>
    clear HC1 HG1 HO1
    obtain ⟨k, g, n, c', xs, hk, rfl, rfl, hnk, HO, HC, HG⟩ := hrel
    by_cases hz : 0 < k
    · have hz2 : (0 : Int) < (k : Int) := by omega
      go_wp2_with fail
      refine (entry8_any _ B a len cap zs HC.out).mono ?_
      rintro e w2 ⟨⟨p, rfl⟩, hc2, hg2⟩
      have HC2 := hide hc2
      have HG2 := hide (grown_trans HG.out hg2)
      have HO2 := hide (HO.out.grownB hg2 hB)
      have hw2 : w.heap.size ≤ w2.heap.size := HG2.out.size
      have hw2b : B < w2.heap.size := by omega
      clear hc2 hg2 HC HG HO
      go_wp2_with fail
      refine (specPut_any w2 _ n c' xs p HO2.out.row (by omega)).mono ?_
      rintro e w3 ⟨⟨a3, n3, c3, rfl, ho3⟩, hb3⟩
      have hl3 : n3 ≤ n + 1 := by
        rw [← ho3.len, show (putE xs p).length = (dropE xs p.key).length + 1 from insE_len _ _]
        have h1 := dropE_len xs p.key
        have h2 := HO2.out.len
        omega
      obtain ⟨g3, rfl⟩ : ∃ g3, a3 = some ⟨g3, 0, none⟩ := by
        rcases ho3.2 with ⟨e, h0⟩ | ⟨g, c, cur, e, _⟩
        · have := insE_len (dropE xs p.key) p
          have h2 : (putE xs p).length = 0 := h0
          unfold putE at h2
          omega
        · simp only [Value.slice.injEq] at e
          exact ⟨g, e.1⟩
      have HO3 := hide (ho3.mono hw2)
      have HC3 := hide (HC2.out.below hb3 hw2b)
      have HG3 := hide (grown_trans HG2.out (below_grown (some B) hb3))
      clear ho3 hb3 HC2 HG2 HO2
      go_wp2
      go_roundw
      case rel => exact ⟨k - 1, g3, n3, c3, _, by omega, rfl, by go_num, by omega, HO3, HC3, HG3⟩
      case measure => first | (simp [intOf]; done) | (simp [intOf]; omega)
    · obtain rfl : k = 0 := by omega
      by_cases hn0 : 0 < n
      · have hn1 : (0 : Int) < (n : Int) := by omega
        go_wp2_with fail
        refine (onceX_any 8 (by omega) _ B a len cap zs HC.out).mono ?_
        rintro e w2 ⟨⟨b, rfl⟩, hc2, hg2⟩
        have HC2 := hide hc2
        have HG2 := hide (grown_trans HG.out hg2)
        have HO2 := hide (HO.out.grownB hg2 hB)
        clear hc2 hg2 HC HG HO
        cases b with
        | false =>
          go_wp2
          go_ret
          exact ⟨⟨g, n, c', _, rfl, by omega, HO2.out⟩, HC2.out, HG2.out⟩
        | true =>
          go_wp2_with fail
          refine (belowX_any n hn0 _ B a len cap zs HC2.out).mono ?_
          rintro e w3 ⟨⟨kk, hkn, rfl⟩, hc3, hg3⟩
          have HC3 := hide hc3
          have HG3 := hide (grown_trans HG2.out hg3)
          have HO3 := hide (HO2.out.grownB hg3 hB)
          clear hc3 hg3 HC2 HG2 HO2
          go_wp2_with fail
          refine (belowX_any 4 (by omega) _ B a len cap zs HC3.out).mono ?_
          rintro e w4 ⟨⟨x2, hx2, rfl⟩, hc4, hg4⟩
          have HC4 := hide hc4
          have HG4 := hide (grown_trans HG3.out hg4)
          have HO4 := hide (HO3.out.grownB hg4 hB)
          have hB4 := HC4.out.lt
          have hgl := (HO4.out.blk g rfl).1
          have hBg : B < g := by omega
          have hki : (kk : Int) < (n : Int) := by omega
          clear hc4 hg4 HC3 HG3 HO3
          obtain rfl | rfl | rfl | rfl : x2 = 0 ∨ x2 = 1 ∨ x2 = 2 ∨ x2 = 3 := by omega
          · go_wp2_with fail
            refine (pick_any [⟨#[]⟩, ⟨#[122, 122, 122, 122, 122, 122, 122, 122, 122]⟩, ⟨#[97]⟩] w4.heap.size (by simp) (by simp) _ B a len cap zs (HC4.out.below ((Below.refl _ _).alloc (Nat.le_refl _) _) hB4) (by omega) (row_strs w4 [⟨#[]⟩, ⟨#[122, 122, 122, 122, 122, 122, 122, 122, 122]⟩, ⟨#[97]⟩])).mono ?_
            rintro e w5 ⟨⟨s, hs, rfl⟩, hc5, hg5⟩
            have HC5 := hide hc5
            have HG5 := hide (grown_trans HG4.out (grown_new hg5))
            have HO5 := hide ((HO4.out.later (al1 w4 _) (Nat.le_refl _)).grownB hg5 hB)
            clear hc5 hg5 hs HC4 HG4 HO4
            have hkx : kk < xs.length := by rw [HO5.out.len]; exact hkn
            have HO6 := hide (HO5.out.field kk hkn 0 (by decide) (.string s) { xs[kk] with key := s } (fun _ => rfl))
            have HC6 := hide (HC5.out.set ⟨g, kk * 5 + 0, none⟩ (.string s) (by exact hBg))
            have HG6 := hide (grown_cell HG5.out ⟨g, kk * 5 + 0, none⟩ (.string s) (by exact hgl))
            obtain ⟨b', o', q0, -, e0, e1, e2, e3, e4⟩ := ent_cells HO5.out.row kk hkx
            simp only [Option.some.injEq, Addr.mk.injEq] at q0
            obtain ⟨rfl, rfl, -⟩ := q0
            rw [Nat.zero_add] at e0 e1 e2 e3 e4
            have f0 := HO5.out.frz (kk * 5)
            have f1 := HO5.out.frz (kk * 5 + 1)
            have f3 := HO5.out.frz (kk * 5 + 3)
            have f4 := HO5.out.frz (kk * 5 + 4)
            clear HO5 HC5 HG5
            go_wp2
            go_ret
            exact ⟨⟨g, n, c', _, rfl, by omega, HO6.out⟩, HC6.out, HG6.out⟩
          · have HC5 := HC4
            have HG5 := HG4
            have HO5 := HO4
            have hkx : kk < xs.length := by rw [HO5.out.len]; exact hkn
            have HO6 := hide (HO5.out.field kk hkn 1 (by decide) (.int .i64 0) { xs[kk] with seg := 0 } (fun _ => rfl))
            have HC6 := hide (HC5.out.set ⟨g, kk * 5 + 1, none⟩ (.int .i64 0) (by exact hBg))
            have HG6 := hide (grown_cell HG5.out ⟨g, kk * 5 + 1, none⟩ (.int .i64 0) (by exact hgl))
            obtain ⟨b', o', q0, -, e0, e1, e2, e3, e4⟩ := ent_cells HO5.out.row kk hkx
            simp only [Option.some.injEq, Addr.mk.injEq] at q0
            obtain ⟨rfl, rfl, -⟩ := q0
            rw [Nat.zero_add] at e0 e1 e2 e3 e4
            have f0 := HO5.out.frz (kk * 5)
            have f1 := HO5.out.frz (kk * 5 + 1)
            have f3 := HO5.out.frz (kk * 5 + 3)
            have f4 := HO5.out.frz (kk * 5 + 4)
            clear HO5 HC5 HG5
            go_wp2
            go_ret
            exact ⟨⟨g, n, c', _, rfl, by omega, HO6.out⟩, HC6.out, HG6.out⟩
          · go_wp2_with fail
            refine (pickInt_any [0, 210, 211] w4.heap.size (by simp) (by simp) _ B a len cap zs (HC4.out.below ((Below.refl _ _).alloc (Nat.le_refl _) _) hB4) (by omega) (row_ints w4 [0, 210, 211])).mono ?_
            rintro e w5 ⟨⟨s, hs, rfl⟩, hc5, hg5⟩
            have HC5 := hide hc5
            have HG5 := hide (grown_trans HG4.out (grown_new hg5))
            have HO5 := hide ((HO4.out.later (al1 w4 _) (Nat.le_refl _)).grownB hg5 hB)
            clear hc5 hg5 hs HC4 HG4 HO4
            have hkx : kk < xs.length := by rw [HO5.out.len]; exact hkn
            have HO6 := hide (HO5.out.field kk hkn 3 (by decide) (.int .i64 s) { xs[kk] with len := s } (fun _ => rfl))
            have HC6 := hide (HC5.out.set ⟨g, kk * 5 + 3, none⟩ (.int .i64 s) (by exact hBg))
            have HG6 := hide (grown_cell HG5.out ⟨g, kk * 5 + 3, none⟩ (.int .i64 s) (by exact hgl))
            obtain ⟨b', o', q0, -, e0, e1, e2, e3, e4⟩ := ent_cells HO5.out.row kk hkx
            simp only [Option.some.injEq, Addr.mk.injEq] at q0
            obtain ⟨rfl, rfl, -⟩ := q0
            rw [Nat.zero_add] at e0 e1 e2 e3 e4
            have f0 := HO5.out.frz (kk * 5)
            have f1 := HO5.out.frz (kk * 5 + 1)
            have f3 := HO5.out.frz (kk * 5 + 3)
            have f4 := HO5.out.frz (kk * 5 + 4)
            clear HO5 HC5 HG5
            go_wp2
            go_ret
            exact ⟨⟨g, n, c', _, rfl, by omega, HO6.out⟩, HC6.out, HG6.out⟩
          · go_wp2_with fail
            refine (pickInt_any [0, 1000001] w4.heap.size (by simp) (by simp) _ B a len cap zs (HC4.out.below ((Below.refl _ _).alloc (Nat.le_refl _) _) hB4) (by omega) (row_ints w4 [0, 1000001])).mono ?_
            rintro e w5 ⟨⟨s, hs, rfl⟩, hc5, hg5⟩
            have HC5 := hide hc5
            have HG5 := hide (grown_trans HG4.out (grown_new hg5))
            have HO5 := hide ((HO4.out.later (al1 w4 _) (Nat.le_refl _)).grownB hg5 hB)
            clear hc5 hg5 hs HC4 HG4 HO4
            have hkx : kk < xs.length := by rw [HO5.out.len]; exact hkn
            have HO6 := hide (HO5.out.field kk hkn 4 (by decide) (.int .i64 s) { xs[kk] with bat := s } (fun _ => rfl))
            have HC6 := hide (HC5.out.set ⟨g, kk * 5 + 4, none⟩ (.int .i64 s) (by exact hBg))
            have HG6 := hide (grown_cell HG5.out ⟨g, kk * 5 + 4, none⟩ (.int .i64 s) (by exact hgl))
            obtain ⟨b', o', q0, -, e0, e1, e2, e3, e4⟩ := ent_cells HO5.out.row kk hkx
            simp only [Option.some.injEq, Addr.mk.injEq] at q0
            obtain ⟨rfl, rfl, -⟩ := q0
            rw [Nat.zero_add] at e0 e1 e2 e3 e4
            have f0 := HO5.out.frz (kk * 5)
            have f1 := HO5.out.frz (kk * 5 + 1)
            have f3 := HO5.out.frz (kk * 5 + 3)
            have f4 := HO5.out.frz (kk * 5 + 4)
            clear HO5 HC5 HG5
            go_wp2
            go_ret
            exact ⟨⟨g, n, c', _, rfl, by omega, HO6.out⟩, HC6.out, HG6.out⟩
      · obtain rfl : n = 0 := by omega
        go_wp2
        go_ret
        exact ⟨⟨g, 0, c', _, rfl, by omega, HO.out⟩, HC.out, HG.out⟩

end Go.Proofs.Ytnckdfidehbcaaa
