/-
  spec.HintFits. impl.HintFits. A hint that comes in as an argument.
-/
import Derived.Test.YtimpokbcfjgdaaaGreatDoorHG19
import Derived.Test.YtimpokbcfjgdaaaGreatDoorHMHofS
import Derived.Test.YtimpokbcfjgdaaaGreatDoorHMHofI
import Derived.Test.YtimpokbcfjgdaaaGreatDoorHMHintLaw
namespace Go.Proofs.YtimpokbcfjgdaaaGreatDoor
open Go.RowKit
open Plain

set_option maxRecDepth 100000 in
set_option maxHeartbeats 4000000 in
theorem specHFits_any (id : Int) (s : ByteArray) (hs : s.size ≤ 1048576) (w : World) (x m : Int) (a : Option Addr) (n cap : Nat) (zs : List EntV) (hr : entSh.Row w a n zs) (hn : n ≤ 1048576) :
    Calls Tryz.prog 22 #[.int .i64 id, .string s, .agg #[.int .i64 x, .int .i64 m, .slice a n cap]] w fun e w' => e = .returned (.bool (fitsB (hof id s) ⟨x, m, zs⟩)) ∧ Below w.heap.size w w' := by
  obtain ⟨W, hW⟩ : ∃ W, W = w.alloc (.cells #[.int .i64 x, .int .i64 m, .slice a n cap] 26) := ⟨_, rfl⟩
  have HA : Hid (HvAt w w.heap.size 26 x m a n cap zs W) := hide (by rw [hW]; exact HvAt.new 26 x m cap hr)
  have HC := hide (specHof_any id s hs W)
  have hbd := scanS_len' s
  have hgl : (hof id s).1.list.length ≤ 1048576 := by
    have h : (hof id s).1.list.length ≤ s.size := by
      unfold hof hofL
      split
      · show ((initSp (scanS s).1).map (spotE id)).length ≤ s.size
        rw [List.length_map, init_len]
        omega
      · exact Nat.zero_le _
    omega
  clear hr hbd 
  unfold fitsB
  generalize (hof id s).2 = ok at *
  generalize (hof id s).1.size = gx at *
  generalize (hof id s).1.mark = gm at *
  generalize (hof id s).1.list = gs at *
  go_enter Tryz.func22, Tryz.ntmps22
  go_wp2_with fail
  rw [← hW]
  clear hW
  refine HC.out.mono ?_
  rintro e w1 ⟨⟨ga, gn, gc, rfl, ho1⟩, hb1⟩
  have hgn := ho1.len
  obtain ⟨X1, hX1⟩ : ∃ X, X = w1.alloc (.cells #[.int .i64 gx, .int .i64 gm, .slice ga gn gc] 26) := ⟨_, rfl⟩
  have HA1 : Hid (HvAt w w.heap.size 26 x m a n cap zs X1) := hide (by rw [hX1]; exact (HA.out.later hb1).later (al1 w1 _))
  have HG1 : Hid (X1.heap[w1.heap.size]? = some (.cells #[.int .i64 gx, .int .i64 gm, .slice ga gn gc] 26 (0, 0))) := hide (by rw [hX1]; exact heap_alloc_new w1 _)
  have HO1 : Hid (entSh.Row X1 ga gn gs) := hide (by rw [hX1]; exact ho1.row.later (al1 w1 _))
  have HSM := hide (specSameDir_any X1 ga a gn n gc cap gs zs HO1.out HA1.out.ents (by omega) (by omega))
  clear ho1 hb1 HA HC
  obtain ⟨y0, y1, y2⟩ := HA1.out.cells
  obtain ⟨v0, v1, v2, -, -, -⟩ := cells3h HG1.out
  rw [hX1] at y0 y1 y2 v0 v1 v2
  cases ok with
  | false =>
    go_wp2
    rw [← hX1]
    go_ret
    exact ⟨rfl, HA1.out.bel⟩
  | true =>
    by_cases h1 : gx = x
    · have t1 : (gx == x) = true := by simpa using h1
      have H1 := hide h1
      clear h1
      by_cases h2 : gm = m
      · have t2 : (gm == m) = true := by simpa using h2
        have H2 := hide h2
        clear h2
        go_wp2_with fail
        rw [← hX1]
        refine HSM.out.mono ?_
        rintro e w2 ⟨rfl, hb2⟩
        have HB2 := hide (HA1.out.later hb2).bel
        clear hb2 HSM y0 y1 y2 v0 v1 v2 hX1
        obtain ⟨r, hr⟩ : ∃ r, sameE gs zs = r := ⟨_, rfl⟩
        rw [hr]
        have HRV := hide hr
        clear hr
        go_wp2
        go_ret
        exact ⟨by simp [H1.out, H2.out, HRV.out], HB2.out⟩
      · have t2 : (gm == m) = false := by simpa using h2
        have H2 := hide h2
        clear h2
        go_wp2
        rw [← hX1]
        go_ret
        exact ⟨by simp [H1.out, H2.out], HA1.out.bel⟩
    · have t1 : (gx == x) = false := by simpa using h1
      have H1 := hide h1
      clear h1
      go_wp2
      rw [← hX1]
      go_ret
      exact ⟨by simp [H1.out], HA1.out.bel⟩

end Go.Proofs.YtimpokbcfjgdaaaGreatDoor
namespace Go.Proofs.YtimpokbcfjgdaaaGreatDoor
open Go.RowKit
open Plain

set_option maxRecDepth 100000 in
set_option maxHeartbeats 4000000 in
theorem implHFits_any (id : Int) (s : ByteArray) (hs : s.size ≤ 1048576) (A B : Addr) (w : World) (ht : STab w) (he : ErrIn w A B) (x m : Int) (a : Option Addr) (n cap : Nat) (zs : List EntV) (hr : entSh.Row w a n zs) (hn : n ≤ 1048576) :
    Calls Tryz.prog 14 #[.int .i64 id, .string s, .agg #[.int .i64 x, .int .i64 m, .slice a n cap]] w fun e w' => e = .returned (.bool (fitsB (hof id s) ⟨x, m, zs⟩)) ∧ Below w.heap.size w w' := by
  obtain ⟨W, hW⟩ : ∃ W, W = w.alloc (.cells #[.int .i64 x, .int .i64 m, .slice a n cap] 26) := ⟨_, rfl⟩
  have HA : Hid (HvAt w w.heap.size 26 x m a n cap zs W) := hide (by rw [hW]; exact HvAt.new 26 x m cap hr)
  have HC := hide (implHof_any id s hs A B W (ht.later HA.out.bel) (he.later HA.out.bel (Nat.le_refl _)))
  have hbd := scanS_len' s
  have hgl : (hof id s).1.list.length ≤ 1048576 := by
    have h : (hof id s).1.list.length ≤ s.size := by
      unfold hof hofL
      split
      · show ((initSp (scanS s).1).map (spotE id)).length ≤ s.size
        rw [List.length_map, init_len]
        omega
      · exact Nat.zero_le _
    omega
  clear hr hbd ht he
  unfold fitsB
  generalize (hof id s).2 = ok at *
  generalize (hof id s).1.size = gx at *
  generalize (hof id s).1.mark = gm at *
  generalize (hof id s).1.list = gs at *
  go_enter Tryz.func14, Tryz.ntmps14
  go_wp2_with fail
  rw [← hW]
  clear hW
  refine HC.out.mono ?_
  rintro e w1 ⟨⟨ga, gn, gc, rfl, ho1⟩, hb1⟩
  have hgn := ho1.len
  obtain ⟨X1, hX1⟩ : ∃ X, X = w1.alloc (.cells #[.int .i64 gx, .int .i64 gm, .slice ga gn gc] 26) := ⟨_, rfl⟩
  have HA1 : Hid (HvAt w w.heap.size 26 x m a n cap zs X1) := hide (by rw [hX1]; exact (HA.out.later hb1).later (al1 w1 _))
  have HG1 : Hid (X1.heap[w1.heap.size]? = some (.cells #[.int .i64 gx, .int .i64 gm, .slice ga gn gc] 26 (0, 0))) := hide (by rw [hX1]; exact heap_alloc_new w1 _)
  have HO1 : Hid (entSh.Row X1 ga gn gs) := hide (by rw [hX1]; exact ho1.row.later (al1 w1 _))
  have HSM := hide (sameLE_any X1 ga a gn n gc cap gs zs HO1.out HA1.out.ents (by omega) (by omega))
  clear ho1 hb1 HA HC
  obtain ⟨y0, y1, y2⟩ := HA1.out.cells
  obtain ⟨v0, v1, v2, -, -, -⟩ := cells3h HG1.out
  rw [hX1] at y0 y1 y2 v0 v1 v2
  cases ok with
  | false =>
    go_wp2
    rw [← hX1]
    go_ret
    exact ⟨rfl, HA1.out.bel⟩
  | true =>
    by_cases h1 : gx = x
    · have t1 : (gx == x) = true := by simpa using h1
      have H1 := hide h1
      clear h1
      by_cases h2 : gm = m
      · have t2 : (gm == m) = true := by simpa using h2
        have H2 := hide h2
        clear h2
        go_wp2_with fail
        rw [← hX1]
        refine HSM.out.mono ?_
        rintro e w2 ⟨rfl, hb2⟩
        have HB2 := hide (HA1.out.later hb2).bel
        clear hb2 HSM y0 y1 y2 v0 v1 v2 hX1
        obtain ⟨r, hr⟩ : ∃ r, sameE gs zs = r := ⟨_, rfl⟩
        rw [hr]
        have HRV := hide hr
        clear hr
        go_wp2
        go_ret
        exact ⟨by simp [H1.out, H2.out, HRV.out], HB2.out⟩
      · have t2 : (gm == m) = false := by simpa using h2
        have H2 := hide h2
        clear h2
        go_wp2
        rw [← hX1]
        go_ret
        exact ⟨by simp [H1.out, H2.out], HA1.out.bel⟩
    · have t1 : (gx == x) = false := by simpa using h1
      have H1 := hide h1
      clear h1
      go_wp2
      rw [← hX1]
      go_ret
      exact ⟨by simp [H1.out], HA1.out.bel⟩

end Go.Proofs.YtimpokbcfjgdaaaGreatDoor
namespace Go.Proofs.YtimpokbcfjgdaaaGreatDoor
open Go.RowKit
open Plain

theorem cellsLHT : Tryz.prog.cellsOf 54 = 3 := by kernel_rfl
theorem cellsLESh : Tryz.prog.cellsOf 52 = 1 := by kernel_rfl
theorem cells3h' : Tryz.prog.cellsOf 3 = 1 := by kernel_rfl

set_option maxRecDepth 100000 in
theorem open_hint {H : Type} {enc : TypeId × Value → H} {w : World} {base : Nat} {spare : Nat → Bool} {held : Bool} {fuel : Nat} {cs : List Value} {x : DataW H × List MemPlace} (h : DataW.trod enc Tryz.prog w base spare held fuel 54 cs = some x) :
    ∃ (x m : Int) (a : Option Addr) (n cap : Nat) (fs : List EntV), cs = [.int .i64 x, .int .i64 m, .slice a n cap] ∧ entSh.Row w a n fs ∧ EFits fs ∧ n ≤ maxLen := by
  obtain ⟨xs, n, _, _, hl, hlen, hf⟩ := DataW.trod_struct Tryz.underlying54 h
  rw [cellsLHT] at hl
  match xs, hlen, cs, hl with
  | [y0, y1, y2], _, [v0, v1, v2], _ =>
    obtain ⟨c, e1, _, z1⟩ := DataW.trod_int Tryz.underlying3 (by simpa using hf 0 _ rfl)
    obtain ⟨u, e2, _, z2⟩ := DataW.trod_int Tryz.underlying3 (by simpa using hf 1 _ rfl)
    obtain ⟨a, m, cap, fs, e0, hr, hfit, hm⟩ := open_ents (by simpa using hf 2 _ rfl)
    simp [cellsLESh, cells3h'] at e0 e1 e2
    subst e0; subst e1; subst e2
    exact ⟨c, u, a, m, cap, fs, rfl, hr, hfit, hm⟩

end Go.Proofs.YtimpokbcfjgdaaaGreatDoor
