/-
  impl.LiveOk: is a list of segments right? By its least and greatest number, and by a row of sixty held against the row of the same numbers sorted and without doubles.
-/
import Derived.Test.YthnealhaleccpaaGreatDoorG08
import Derived.Test.YthnealhaleccpaaGreatDoorG15
import Derived.Deep.RegionHeld3
import Derived.Laws.CopyRow
import Derived.Laws.Rows
import Derived.Lib.OwnBridge
import Derived.Sort.OwnSortedInts
import Derived.Sort.Grow
import Derived.BigQuiet
import Derived.Deep.QuietTactic
namespace Go.Proofs.YthnealhaleccpaaGreatDoor
open Go.RowKit
open Plain

theorem Tryz.size3 : (Tryz.prog.info? 3).map (·.size) = some 1 := by kernel_rfl
def zero60 : Array Value := (List.replicate 60 (Value.int .i64 0)).toArray
theorem zero60_lit : (#[Value.int IntKind.i64 0, Value.int IntKind.i64 0, Value.int IntKind.i64 0, Value.int IntKind.i64 0, Value.int IntKind.i64 0, Value.int IntKind.i64 0, Value.int IntKind.i64 0, Value.int IntKind.i64 0, Value.int IntKind.i64 0, Value.int IntKind.i64 0, Value.int IntKind.i64 0, Value.int IntKind.i64 0, Value.int IntKind.i64 0, Value.int IntKind.i64 0, Value.int IntKind.i64 0, Value.int IntKind.i64 0, Value.int IntKind.i64 0, Value.int IntKind.i64 0, Value.int IntKind.i64 0, Value.int IntKind.i64 0, Value.int IntKind.i64 0, Value.int IntKind.i64 0, Value.int IntKind.i64 0, Value.int IntKind.i64 0, Value.int IntKind.i64 0, Value.int IntKind.i64 0, Value.int IntKind.i64 0, Value.int IntKind.i64 0, Value.int IntKind.i64 0, Value.int IntKind.i64 0, Value.int IntKind.i64 0, Value.int IntKind.i64 0, Value.int IntKind.i64 0, Value.int IntKind.i64 0, Value.int IntKind.i64 0, Value.int IntKind.i64 0, Value.int IntKind.i64 0, Value.int IntKind.i64 0, Value.int IntKind.i64 0, Value.int IntKind.i64 0, Value.int IntKind.i64 0, Value.int IntKind.i64 0, Value.int IntKind.i64 0, Value.int IntKind.i64 0, Value.int IntKind.i64 0, Value.int IntKind.i64 0, Value.int IntKind.i64 0, Value.int IntKind.i64 0, Value.int IntKind.i64 0, Value.int IntKind.i64 0, Value.int IntKind.i64 0, Value.int IntKind.i64 0, Value.int IntKind.i64 0, Value.int IntKind.i64 0, Value.int IntKind.i64 0, Value.int IntKind.i64 0, Value.int IntKind.i64 0, Value.int IntKind.i64 0, Value.int IntKind.i64 0, Value.int IntKind.i64 0] : Array Value) = zero60 := rfl
/-- The numbers of a slice put into a row of sixty noughts. -/
theorem copy60 (w : World) (g : Nat) (T : TypeId) (a : Option Addr) (n cap : Nat) (zs : List Int) (hr : IRow w 0 a n zs) (hn : n ≤ 60) (hg : w.heap[g]? = some (.cells zero60 T (0, 0))) :
    ∃ w', (Builtin.copy_ #[24, 24] 3 #[.slice (some ⟨g, 0, none⟩) 60 60, .slice a n cap]).run Tryz.prog w = .ok (.int .i64 (n : Int)) w' ∧ w'.heap[g]? = some (.cells ((padL zs).map (Value.int .i64)).toArray T (0, 0)) ∧ (∀ B w0, Below B w0 w → B ≤ g → Below B w0 w') ∧ ∀ k, k ≠ g → w'.heap[k]? = w.heap[k]? := by
  have hl := hr.len
  have hp : ((padL zs).map (Value.int .i64)).toArray = (zero60.toList.take 0 ++ zs.map (Value.int .i64) ++ zero60.toList.drop (0 + (zs.map (Value.int .i64)).length)).toArray := by
    have e0 : zero60.toList = List.replicate 60 (Value.int .i64 0) := rfl
    rw [e0, List.take_zero, List.nil_append, List.drop_replicate, Nat.zero_add, List.length_map]
    unfold padL
    rw [List.map_append, List.map_replicate]
  rcases Nat.eq_zero_or_pos n with h0 | h0
  · have hz : zs = [] := List.eq_nil_of_length_eq_zero (by omega)
    refine ⟨w, ?_, ?_, fun _ _ h _ => h, fun _ _ => rfl⟩
    · rw [run_copy_none (P := Tryz.prog) w 24 24 3 3 _ _ _ _ _ _ Tryz.underlying24 Tryz.size3 (by rw [h0]; rfl), h0]
      rfl
    · rw [hg, hp, hz]
      simp [zero60]
  · obtain ⟨b, off, rfl, -, -, -⟩ := hr.cells 0 (by omega)
    have hsrc : ∀ j v, (zs.map (Value.int .i64))[j]? = some v → w.cell? ((⟨b, off, none⟩ : Addr).add j) = some v := by
      intro j v hj
      have hjl : j < zs.length := by have := (List.getElem?_eq_some_iff.1 hj).1; simpa using this
      obtain ⟨b', o', q0, -, -, q1⟩ := hr.cells j hjl
      simp only [Option.some.injEq, Addr.mk.injEq] at q0
      obtain ⟨rfl, rfl, -⟩ := q0
      rw [addr_add, q1]
      rw [List.getElem?_map, List.getElem?_eq_getElem hjl] at hj
      exact hj
    have hz : zero60.size = 60 := by simp [zero60]
    have h := run_copy_row (P := Tryz.prog) w 24 24 3 3 g 0 60 60 ⟨b, off, none⟩ n cap zero60 T (zs.map (Value.int .i64)) Tryz.underlying24 Tryz.size3 hg (by rw [List.length_map, hl]; exact (Nat.min_eq_left hn).symm) hsrc (by rw [List.length_map, hl, hz]; omega) (fun v hv => by simp at hv; obtain ⟨x, _, rfl⟩ := hv; rfl)
    rw [← hp] at h
    refine ⟨_, ?_, setRow_heap w g _ _ _ _ hg, fun B w0 hb hB => below_setRow hb hB _, fun k hk => setRow_other w g k _ hk⟩
    rw [h, List.length_map, hl]
    rfl

set_option maxRecDepth 100000 in
set_option maxHeartbeats 1000000 in
theorem rowOf_any (w : World) (a : Option Addr) (n cap : Nat) (zs : List Int) (hr : IRow w 0 a n zs) (hn : n ≤ 60) :
    Calls Tryz.prog 46 #[.slice a n cap] w fun e w' => e = .returned (.agg ((padL zs).map (Value.int .i64)).toArray) ∧ Below w.heap.size w w' := by
  have hpl := padL_length zs (by have := hr.len; omega)
  obtain ⟨W, hW⟩ : ∃ W, W = (w.alloc (.cells zero60 79)).alloc (.cells zero60 79) := ⟨_, rfl⟩
  have hA := news2 w (.cells zero60 79) (.cells zero60 79)
  rw [← hW] at hA
  have HB0 := hide hA.2.1
  have HG0 := hide hA.2.2.1
  have HCP := hide (copy60 W (w.heap.size + 1) 79 a n cap zs (hr.later hA.2.1 (Nat.le_refl _)) hn hA.2.2.2)
  clear hA hr
  have HSZ : Hid (((padL zs).map (Value.int .i64)).toArray.size = 60) := hide (by simp [hpl])
  go_enter Tryz.func46, Tryz.ntmps46
  go_wp2
  rw [zero60_lit, ← hW]
  clear hW
  obtain ⟨w2, hcp, hg2, hb2, ho2⟩ := HCP.out
  have HB2 := hide (hb2 _ _ HB0.out (by omega))
  have HR2 := hide ((ho2 w.heap.size (by omega)).trans HG0.out)
  clear ho2 HG0 HB0
  have HG2 := hide hg2
  clear hb2 hg2 HCP
  rw [hcp]
  clear hcp
  go_wp2_with (refine wpList_load_row rfl 79 _ rfl (w.heap.size + 1) rfl 79 _ (0, 0) _ HG2.out Tryz.underlying79 rfl (by rw [HSZ.out]; kernel_rfl) ?_)
  have hst := run_storeCells_at Tryz.prog w.heap.size 0 79 ((padL zs).map (Value.int .i64)) 0 zero60 w2 HR2.out (by simp [zero60, hpl]) (fun v hv => by simp at hv; obtain ⟨x, _, rfl⟩ := hv; rfl)
  have hrow : zero60.toList.take (0 + 0) ++ (padL zs).map (Value.int .i64) ++ zero60.toList.drop (0 + 0 + ((padL zs).map (Value.int .i64)).length) = (padL zs).map (Value.int .i64) := by simp [zero60, hpl]
  rw [hrow] at hst
  rw [hst]
  clear hst hrow
  have HF := hide (setRow_heap w2 w.heap.size zero60 ((padL zs).map (Value.int .i64)).toArray 79 (0, 0) HR2.out)
  have HB3 := hide (below_setRow HB2.out (Nat.le_refl _) ((padL zs).map (Value.int .i64)).toArray)
  have hsz : ((padL zs).map (Value.int .i64)).toArray.size = 60 := by simp [hpl]
  generalize w2.setRow w.heap.size ((padL zs).map (Value.int .i64)).toArray = w3 at *
  go_wp2
  exact bodyPost_ret (v := .agg ((padL zs).map (Value.int .i64)).toArray) (results_cell_row Tryz.results46 _ _ w.heap.size 79 _ (0, 0) _ rfl HF.out Tryz.underlying79 rfl (by rw [hsz]; kernel_rfl)) rfl ⟨rfl, HB3.out⟩

theorem IRow.get {w : World} {a : Addr} {n : Nat} {zs : List Int} (h : IRow w 0 (some a) n zs) (h0 : 0 < n) : ∃ b off, a = ⟨b, off, none⟩ ∧ b < w.heap.size ∧ ∀ j, j < zs.length → w.cell? ⟨b, off + j, none⟩ = some (.int .i64 (zs.getD j 0)) := by
  obtain ⟨b, off, e0, -, hb, -⟩ := h.cells 0 (by have := h.len; omega)
  injection e0 with e0
  subst e0
  refine ⟨b, off, rfl, hb, fun j hj => ?_⟩
  obtain ⟨b', o', q0, -, -, q1⟩ := h.cells j hj
  simp only [Option.some.injEq, Addr.mk.injEq] at q0
  obtain ⟨rfl, rfl, -⟩ := q0
  rw [q1]
  simp [List.getD, hj]

set_option maxRecDepth 100000 in
set_option maxHeartbeats 1000000 in
theorem risen_any (w : World) (a : Option Addr) (n cap : Nat) (zs : List Int) (hr : IRow w 0 a n zs) (h0 : 0 < n) (hn : n ≤ 60) :
    Calls Tryz.prog 47 #[.slice a n cap] w fun e w' => (∃ g c, e = .returned (.slice (some ⟨g, 0, none⟩) (risenL zs).length c) ∧ IRow w' 0 (some ⟨g, 0, none⟩) (risenL zs).length (risenL zs)) ∧ Below w.heap.size w w' := by
  have hlen := hr.len
  obtain ⟨b, off, ea, -, -, -⟩ := hr.cells 0 (by omega)
  subst ea
  obtain ⟨b', off', ea, -, hcell⟩ := hr.get h0
  injection ea with e1 e2
  subst e1; subst e2
  have HC := hide (fun W (hW : W = w) => Tryz.slices_Clone_int b off n cap zs W (by omega) (by omega) (by rw [hW]; exact hcell))
  have htk : zs.take n = zs := List.take_of_length_le (by omega)
  rw [htk] at HC
  clear hr hcell htk
  go_enter Tryz.func47, Tryz.ntmps47
  go_wp2_with fail
  refine (HC.out w rfl).mono ?_
  rintro e w1 ⟨v1, rfl, hown, hnn, hbel⟩
  obtain ⟨g, c, rfl, hbg, hgl, hncap, hcm, -, hH⟩ := Lib.holds_of_ownsRow hown hnn
  have HB1 := hide hbel
  have HH1 := hide hH
  clear hown hnn hbel hH HC
  have hs := Tryz.slices_Sort_int g 0 c zs w1 HH1.out hgl (by omega)
  rw [hlen] at hs
  have HS := hide hs
  clear hs
  go_wp2_with fail
  refine HS.out.mono ?_
  rintro e w2 ⟨rfl, nn, os, hw2⟩
  have hsl : (sortL zs).length = n := by rw [sortL_length]; exact hlen
  have hH2 : Go.Sort.Holds (Value.int .i64) w2 g 0 (sortL zs).toArray := by
    rw [hw2]
    exact Go.Sort.holds_grow _ _ os g 0 _ (by simpa [Go.Sort.putRow, Go.Sort.mapBlock, Go.Sort.ahead] using hgl) (Go.Sort.holds_putRow _ _ g 0 _ _ (Go.Sort.holds_ahead _ w1 nn g 0 _ HH1.out) (by simp [hlen]))
  have hb2 : Below w.heap.size w w2 := by
    rw [hw2]
    exact HB1.out.grown (grownBy_sortedI _) HB1.out.size (fun j hj => by cases hj; exact hbg)
  have hgl2 : g < w2.heap.size := by rw [hw2]; simp [Go.Sort.putRow, Go.Sort.mapBlock, Go.Sort.ahead, Go.Sort.grow]; omega
  have HB2 := hide hb2
  have HH2 := hide hH2
  clear hw2 HB1 HH1 HS hb2 hH2
  have hc := Tryz.slices_Compact_int g 0 c (sortL zs) w2 HH2.out (by omega) (by omega)
  rw [hsl] at hc
  have HC := hide hc
  clear hc
  go_wp2_with fail
  refine HC.out.mono ?_
  rintro e w3 ⟨rfl, q, hw3⟩
  have hle := risenL_length zs
  have HB3 : Hid (Below w.heap.size w w3) := hide (by rw [hw3]; exact Lib.below_putRow HB2.out hbg)
  have hgl3 : g < w3.heap.size := by rw [hw3]; simp [Go.Sort.putRow, Go.Sort.mapBlock, Go.Sort.ahead]; omega
  have HH3 : Hid (Go.Sort.Holds (Value.int .i64) w3 g 0 (risenL zs ++ List.replicate (n - (risenL zs).length) 0).toArray) := hide (by
    rw [hw3]
    exact Go.Sort.holds_putRow _ _ g 0 _ _ (Go.Sort.holds_ahead _ w2 q g 0 _ HH2.out) (by show (risenL zs ++ List.replicate (n - (risenL zs).length) 0).toArray.size = (sortL zs).toArray.size; rw [List.size_toArray, List.size_toArray, hsl, List.length_append, List.length_replicate]; omega))
  clear hw3 HB2 HH2 HC
  go_wp2
  go_ret
  refine ⟨⟨g, c, rfl, rfl, fun i hi => ⟨g, 0, rfl, Nat.zero_le _, hgl3, ?_⟩⟩, HB3.out⟩
  have h := (HH3.out i (by simp; omega)).1
  rw [h]
  congr 2
  rw [getElem!_pos _ i (by simp; omega)]
  simp [hi]

set_option maxRecDepth 100000 in
set_option maxHeartbeats 2000000 in
theorem implLive_any (w : World) (x : Int) (a : Option Addr) (n cap : Nat) (zs : List Int) (hr : IRow w 0 a n zs) (hn : n ≤ 1048576) :
    Calls Tryz.prog 22 #[.agg #[.int .i64 x, .slice a n cap]] w fun e w' => e = .returned (.bool (liveB ⟨x, zs⟩)) ∧ Below w.heap.size w w' := by
  have hlen := hr.len
  rw [← liveI_eq]
  obtain ⟨W, hW⟩ : ∃ W, W = w.alloc (.cells #[.int .i64 x, .slice a n cap] 26) := ⟨_, rfl⟩
  have HA : Hid (LvAt w w.heap.size 26 x a n cap zs W) := hide (by rw [hW]; exact LvAt.new 26 x cap hr)
  obtain ⟨y0, y1⟩ := HA.out.cells
  clear hr
  by_cases q1 : 1 ≤ x
  · have t1 : decide (x < 1) = false := by simp; omega
    by_cases q2 : x ≤ 100000
    · have t2 : decide (100000 < x) = false := by simp; omega
      by_cases q3 : 1 ≤ n
      · have t3 : decide ((n : Int) < 1) = false := by simp; omega
        by_cases q4 : n ≤ 60
        · have t4 : decide ((60 : Int) < (n : Int)) = false := by simp; omega
          have HV : Hid (liveI ⟨x, zs⟩ = (decide (1 ≤ Lib.minOf zs) && (decide (Lib.maxOf zs < x) && decide (padL zs = padL (risenL zs))))) := hide (by unfold liveI; simp only; rw [decide_eq_true (by omega), Bool.true_and])
          obtain ⟨b, off, ea, -, -, -⟩ := HA.out.ids.cells 0 (by omega)
          subst ea
          obtain ⟨b', off', ea, -, hcell⟩ := HA.out.ids.get (by omega)
          injection ea with e1 e2
          subst e1; subst e2
          have htk : zs.take n = zs := List.take_of_length_le (by omega)
          have hmn := fun (V : World) (h : V.heap = W.heap) => Tryz.slices_Min_int b off n cap zs V (by omega) (by omega) (by omega) (fun j hj => by rw [← hcell j hj]; simp only [World.cell?, h])
          have hmx := fun (V : World) (h : V.heap = W.heap) => Tryz.slices_Max_int b off n cap zs V (by omega) (by omega) (by omega) (fun j hj => by rw [← hcell j hj]; simp only [World.cell?, h])
          rw [htk] at hmn hmx
          have HMN := hide hmn
          have HMX := hide hmx
          clear htk hmn hmx hcell q1 q2
          generalize Lib.minOf zs = mn at *
          generalize Lib.maxOf zs = mx at *
          have HQ : Hid (∀ m, LvAt w w.heap.size 26 x (some ⟨b, off, none⟩) n cap zs (W.drewN m)) := hide (fun m => HA.out.later ⟨rfl, rfl, rfl, Nat.le_refl _, fun _ _ => rfl⟩)
          by_cases m1 : mn < 1
          · have T1 : decide (mn < 1) = true := by simpa using m1
            have HF : Hid (liveI ⟨x, zs⟩ = false) := hide (by rw [HV.out, decide_eq_false (by omega)]; rfl)
            clear m1 HV HA
            go_enter Tryz.func22, Tryz.ntmps22
            go_wp2_with fail
            rw [← hW]
            clear hW
            go_quiet (first
              | (go_at_call 44; exact Calls.quiet_of_same (HMN.out _ rfl))
              | (go_at_call 45; exact Calls.quiet_of_same (HMX.out _ rfl)))
            go_wp2
            go_ret
            exact ⟨by rw [HF.out]; rfl, (HQ.out _).bel⟩
          · have T1 : decide (mn < 1) = false := by simpa using m1
            by_cases m2 : x ≤ mx
            · have T2 : decide (x ≤ mx) = true := by simpa using m2
              have HF : Hid (liveI ⟨x, zs⟩ = false) := hide (by rw [HV.out, decide_eq_false (show ¬ mx < x by omega)]; simp)
              clear m1 m2 HV HA
              go_enter Tryz.func22, Tryz.ntmps22
              go_wp2_with fail
              rw [← hW]
              clear hW
              go_quiet (first
                | (go_at_call 44; exact Calls.quiet_of_same (HMN.out _ rfl))
                | (go_at_call 45; exact Calls.quiet_of_same (HMX.out _ rfl)))
              go_wp2
              go_ret
              exact ⟨by rw [HF.out]; rfl, (HQ.out _).bel⟩
            · have T2 : decide (x ≤ mx) = false := by simpa using m2
              have HV2 : Hid (liveI ⟨x, zs⟩ = decide (padL zs = padL (risenL zs))) := hide (by rw [HV.out, decide_eq_true (show 1 ≤ mn by omega), decide_eq_true (show mx < x by omega)]; rfl)
              clear m1 m2 HV HA
              go_enter Tryz.func22, Tryz.ntmps22
              go_wp2_with fail
              rw [← hW]
              clear hW
              go_quiet (first
                | (go_at_call 44; exact Calls.quiet_of_same (HMN.out _ rfl))
                | (go_at_call 45; exact Calls.quiet_of_same (HMX.out _ rfl)))
              clear HMN HMX
              have HA1 := hide (HQ.out nq)
              have z1 := HA1.out.cells.2
              generalize W.drewN nq = W1 at *
              have HRO := hide (fun V (h : LvAt w w.heap.size 26 x (some ⟨b, off, none⟩) n cap zs V) => rowOf_any V (some ⟨b, off, none⟩) n cap zs h.ids q4)
              have HRI := hide (fun V (h : LvAt w w.heap.size 26 x (some ⟨b, off, none⟩) n cap zs V) => risen_any V (some ⟨b, off, none⟩) n cap zs h.ids (by omega) q4)
              have hrl := risenL_length zs
              have HR2 := hide (fun V g c (h : IRow V 0 (some ⟨g, 0, none⟩) (risenL zs).length (risenL zs)) => rowOf_any V (some ⟨g, 0, none⟩) (risenL zs).length c (risenL zs) h (by omega))
              have heq := arr_eqIn (padL zs) (padL (risenL zs)) (padL_length _ (by omega)) (padL_length _ (by omega))
              clear y0 y1 HQ hrl
              generalize padL (risenL zs) = B at *
              generalize padL zs = A at *
              obtain ⟨z, hz⟩ : ∃ z, decide (A = B) = z := ⟨_, rfl⟩
              simp only [hz] at heq HV2
              clear hz
              go_wp2_with fail
              have HK : Hid (∀ W', LvAt w w.heap.size 26 x (some ⟨b, off, none⟩) n cap zs W' → W'.cell? ⟨w.heap.size, 1, none⟩ = some (.slice (some ⟨b, off, none⟩) n cap) ∧ Hid (LvAt w w.heap.size 26 x (some ⟨b, off, none⟩) n cap zs W')) := hide (fun W' h => ⟨h.cells.2, hide h⟩)
              have hS0 := HK.out _ (HA1.out.later (Below.refl _ _).drew)
              clear z1
              go_region_held3 (fun w' => w'.cell? ⟨w.heap.size, 1, none⟩ = some (.slice (some ⟨b, off, none⟩) n cap) ∧ Hid (LvAt w w.heap.size 26 x (some ⟨b, off, none⟩) n cap zs w')) (assumption) (first
                | (go_at_call_of 46 (Value.slice (some ⟨b, off, none⟩) n cap); refine (HRO.out _ hS0.2.out).mono ?_; rintro e w4 ⟨rfl, hb4⟩; have hS4 := HK.out w4 (hS0.2.out.later hb4))
                | (go_at_call 47; refine (HRI.out _ hS4.2.out).mono ?_; rintro e w5 ⟨⟨g, c, rfl, hr5⟩, hb5⟩; have hS5 := HK.out w5 (hS4.2.out.later hb5); have HR5 := hide hr5)
                | (go_at_call 46; refine (HR2.out _ _ _ HR5.out).mono ?_; rintro e w6 ⟨rfl, hb6⟩; have hS6 := HK.out w6 (hS5.2.out.later hb6)))
              have HB := hide hS6.2.out.bel
              clear hS6 hb6 HR5 hr5 hS5 hb5 hS4 hb4 hS0 HRO HRI HR2 HK
              go_wp2
              go_ret
              exact ⟨by rw [HV2.out]; rfl, HB.out⟩
        · have t4 : decide ((60 : Int) < (n : Int)) = true := by simp; omega
          have HF : Hid (liveI ⟨x, zs⟩ = false) := hide (by unfold liveI; simp only; rw [decide_eq_false (by omega)]; rfl)
          have HB := hide HA.out.bel
          clear HA q1 q2 q3 q4
          go_enter Tryz.func22, Tryz.ntmps22
          go_wp2
          go_ret
          exact ⟨by rw [HF.out]; rfl, by rw [← hW]; exact HB.out⟩
      · have t3 : decide ((n : Int) < 1) = true := by simp; omega
        have HF : Hid (liveI ⟨x, zs⟩ = false) := hide (by unfold liveI; simp only; rw [decide_eq_false (by omega)]; rfl)
        have HB := hide HA.out.bel
        clear HA q1 q2 q3
        go_enter Tryz.func22, Tryz.ntmps22
        go_wp2
        go_ret
        exact ⟨by rw [HF.out]; rfl, by rw [← hW]; exact HB.out⟩
    · have t2 : decide (100000 < x) = true := by simp; omega
      have HF : Hid (liveI ⟨x, zs⟩ = false) := hide (by unfold liveI; simp only; rw [decide_eq_false (by omega)]; rfl)
      have HB := hide HA.out.bel
      clear HA q1 q2
      go_enter Tryz.func22, Tryz.ntmps22
      go_wp2
      go_ret
      exact ⟨by rw [HF.out]; rfl, by rw [← hW]; exact HB.out⟩
  · have t1 : decide (x < 1) = true := by simp; omega
    have HF : Hid (liveI ⟨x, zs⟩ = false) := hide (by unfold liveI; simp only; rw [decide_eq_false (by omega)]; rfl)
    have HB := hide HA.out.bel
    clear HA q1
    go_enter Tryz.func22, Tryz.ntmps22
    go_wp2
    go_ret
    exact ⟨by rw [HF.out]; rfl, by rw [← hW]; exact HB.out⟩

end Go.Proofs.YthnealhaleccpaaGreatDoor
