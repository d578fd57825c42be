/-
  slices.Insert at entries: one entry into a slice that has no room.
-/
import Derived.Test.YtimpokbcfjgdaaaGreatDoorHG00
import Derived.Test.YtimpokbcfjgdaaaGreatDoorHG05
import Derived.Test.YtimpokbcfjgdaaaGreatDoorHG04
import Derived.Test.YtimpokbcfjgdaaaGreatDoorHMRecOkI
import Derived.Deep.RegionLaw
import Derived.Shelf.RegionOpenPlain
import Derived.Shelf.Spec.SlicesInsert
import Derived.Lib.AppendZerosOnto
import Derived.Laws.CopyRow
import Derived.Laws.CopyOwn
namespace Go.Proofs.YtimpokbcfjgdaaaGreatDoor
open Go.RowKit Go.Lib
open Plain

/-- 'copy' of whole elements of k cells into a row. -/
theorem run_copy_rowK {P : Program} (w : World) (dT sT ty elem : TypeId) (i0 : TypeInfo) (k g o dLen dCap : Nat) (a : Addr) (sLen sCap : Nat) (cur : Array Value) (t : TypeId) (cs : List Value)
    (hu : P.underlying dT = some (.slice elem)) (hi : P.info? elem = some i0) (hk : i0.size = k)
    (hg : w.heap[g]? = some (.cells cur t (0, 0))) (m : Nat) (hm : Nat.min sLen dLen = m) (hn : cs.length = m * k)
    (hsrc : ∀ j v, cs[j]? = some v → w.cell? (a.add j) = some v) (hfit : o + cs.length ≤ cur.size) (h1 : ∀ v ∈ cs, v.oneCell' = true) :
    (Builtin.copy_ #[dT, sT] ty #[.slice (some ⟨g, o, none⟩) dLen dCap, .slice (some a) sLen sCap]).run P w =
      .ok (goInt m) (w.setRow g (cur.toList.take o ++ cs ++ cur.toList.drop (o + cs.length)).toArray) := by
  have hst := run_storeCells_at P g o t cs 0 cur w hg (by simpa using hfit) h1
  have hf := run_firstCells_some (P := P) w k m a sLen sCap cs hn hsrc
  simp only [Nat.add_zero] at hst
  simp [Builtin.copy_, run_underlying hu, Builtin.lenOf, sizeOf, typeInfo, hi, hk, hm, hf, hst]

theorem info_ent : ∃ i0, Tryz.prog.info? 71 = some i0 ∧ i0.zero = some (.agg #[.string ⟨#[]⟩, .int .i64 0, .int .i64 0, .int .i64 0, .int .i64 0]) ∧ i0.size = 5 ∧ i0.bytes = 48 := info_parts Tryz.infoEnt

/-- What stands in the new row behind the two copies. -/
theorem ins_list (A P B Z : List Value) (R : List Value) (hR : R = A ++ Z) (hl : P.length + B.length ≤ Z.length) :
    (((R.take A.length ++ P ++ R.drop (A.length + P.length)).take (A.length + P.length) ++ B ++ (R.take A.length ++ P ++ R.drop (A.length + P.length)).drop (A.length + P.length + B.length)).length = R.length) ∧ ((R.take A.length ++ P ++ R.drop (A.length + P.length)).take (A.length + P.length) ++ B ++ (R.take A.length ++ P ++ R.drop (A.length + P.length)).drop (A.length + P.length + B.length)).take (A.length + P.length + B.length) = A ++ P ++ B := by
  subst hR
  have e1 : (A ++ Z).take A.length = A := List.take_left
  have e2 : (A ++ P ++ (A ++ Z).drop (A.length + P.length)).take (A.length + P.length) = A ++ P := by
    rw [show A.length + P.length = (A ++ P).length from (List.length_append ..).symm, List.take_left]
  rw [e1, e2]
  constructor
  · simp only [List.length_append, List.length_drop]
    omega
  · rw [show A.length + P.length + B.length = (A ++ P ++ B).length from by simp only [List.length_append], List.take_left]

set_option maxRecDepth 100000 in
set_option maxHeartbeats 4000000 in
theorem insert_mid (w : World) (base g n i N vc : Nat) (xs : List EntV) (p : EntV) (hs : entSh.Own 71 w base (.slice (some ⟨g, 0, none⟩) n n) xs) (hv : entSh.Row w (some ⟨N, 0, none⟩) 1 [p]) (hi : i < n) (hn : n ≤ 4194305) :
    Calls Tryz.prog 126 #[.slice (some ⟨g, 0, none⟩) n n, .int .i64 i, .slice (some ⟨N, 0, none⟩) 1 vc] w fun e w' => (∃ cap', e = .returned (.slice (some ⟨w.heap.size, 0, none⟩) (n + 1) cap') ∧ entSh.Own 71 w' w.heap.size (.slice (some ⟨w.heap.size, 0, none⟩) (n + 1) cap') (xs.take i ++ p :: xs.drop i)) ∧ Below w.heap.size w w' := by
  obtain ⟨i0, hi0, hz0, hz1, hz2⟩ := info_ent
  have hlen := hs.len
  have hgl : g < w.heap.size := (hs.blk g rfl).2
  have hsrcS := hs.row.src
  have hsrcV := hv.src
  have hfx := entSh.flat_length xs
  have hft : (entSh.flat (xs.take i)).length = i * 5 := by rw [entSh.flat_length, List.length_take]; show min i xs.length * 5 = _; rw [Nat.min_eq_left (by omega)]
  have hfd : (entSh.flat (xs.drop i)).length = (n - i) * 5 := by rw [entSh.flat_length, List.length_drop, hlen]; rfl
  have hsplit : entSh.flat xs = entSh.flat (xs.take i) ++ entSh.flat (xs.drop i) := by rw [← entSh.flat_append, List.take_append_drop]
  obtain ⟨G, hG⟩ : ∃ G, G = grownCap w (n + 1) n 71 := ⟨_, rfl⟩
  have hGn : n + 1 ≤ G := by rw [hG]; exact grownCap_ge w _ _ _
  have hGm : G ≤ maxLen := by rw [hG]; exact grownCap_le_maxLen w (n + 1) n 71 (by unfold maxLen; omega)
  obtain ⟨Z, hZ⟩ : ∃ Z : List Value, Z = (Builtin.zeroCells (Value.agg #[.string ⟨#[]⟩, .int .i64 0, .int .i64 0, .int .i64 0, .int .i64 0]).cells (n + 1 - i)).toList ++ (Builtin.zeroCells (Value.agg #[.string ⟨#[]⟩, .int .i64 0, .int .i64 0, .int .i64 0, .int .i64 0]).cells (G - (n + 1))).toList := ⟨_, rfl⟩
  have hZl : Z.length = (n + 1 - i) * 5 + (G - (n + 1)) * 5 := by
    rw [hZ]
    simp [Builtin.zeroCells, Value.cells]
  obtain ⟨ROW, hROW⟩ : ∃ ROW : Array Value, ROW = (entSh.flat (xs.take i)).toArray ++ Builtin.zeroCells (Value.agg #[.string ⟨#[]⟩, .int .i64 0, .int .i64 0, .int .i64 0, .int .i64 0]).cells (n + 1 - i) ++ Builtin.zeroCells (Value.agg #[.string ⟨#[]⟩, .int .i64 0, .int .i64 0, .int .i64 0, .int .i64 0]).cells (G - (n + 1)) := ⟨_, rfl⟩
  have hRL : ROW.toList = entSh.flat (xs.take i) ++ Z := by rw [hROW, hZ]; simp
  have hRs : ROW.size = G * 5 := by
    rw [← Array.length_toList, hRL, List.length_append, hft, hZl]
    omega
  have hins := ins_list (entSh.flat (xs.take i)) (entSh.flat [p]) (entSh.flat (xs.drop i)) Z ROW.toList hRL (by rw [hfd, hZl]; show 5 + _ ≤ _; omega)
  rw [hft, hfd, show (entSh.flat [p]).length = 5 from rfl] at hins
  obtain ⟨C1, hC1⟩ : ∃ C1, C1 = (ROW.toList.take (i * 5) ++ entSh.flat [p] ++ ROW.toList.drop (i * 5 + 5)).toArray := ⟨_, rfl⟩
  obtain ⟨C2, hC2⟩ : ∃ C2, C2 = (C1.toList.take (i * 5 + 5) ++ entSh.flat (xs.drop i) ++ C1.toList.drop (i * 5 + 5 + (n - i) * 5)).toArray := ⟨_, rfl⟩
  have hC2l : C2.size = G * 5 ∧ C2.toList.take ((n + 1) * 5) = entSh.flat (xs.take i ++ p :: xs.drop i) := by
    rw [hC2, hC1]
    simp only [List.size_toArray]
    refine ⟨by rw [hins.1, Array.length_toList, hRs], ?_⟩
    rw [show (n + 1) * 5 = i * 5 + 5 + (n - i) * 5 from by omega, hins.2, entSh.flat_append, show p :: xs.drop i = [p] ++ xs.drop i from rfl, entSh.flat_append, List.append_assoc]
  have hC1s : C1.size = G * 5 := by
    rw [hC1]
    simp only [List.size_toArray, List.length_append, List.length_take, List.length_drop, Array.length_toList, hRs, show (entSh.flat [p]).length = 5 from rfl]
    omega
  have hold : (Builtin.firstCells i0.size i (.slice (some ⟨g, 0, none⟩) i n)).run Tryz.prog w.drew = .ok (entSh.flat (xs.take i)).toArray w.drew := by
    rw [hz1]
    exact run_firstCells_some w.drew 5 i ⟨g, 0, none⟩ i n (entSh.flat (xs.take i)) hft (fun j v hj => hsrcS j v (by
      rw [hsplit, List.getElem?_append_left (List.getElem?_eq_some_iff.1 hj).1]
      exact hj))
  have hkk : (n : Int) + 1 - (i : Int) = ((n + 1 - i : Nat) : Int) := by omega
  have hrz : ∀ ty, (Builtin.append_ #[24, 3] ty #[.slice (some ⟨g, 0, none⟩) i n, .int .i64 ((n : Int) + 1 - (i : Int))]).run Tryz.prog w =
      .ok (.slice (some ⟨w.heap.size, 0, none⟩) (n + 1) G) (w.drew.alloc (.cells ROW 71)) := fun ty => by
    have h := Lib.run_append_grow_zeros w 24 3 ty 71 i0 _ .i64 .i64 Tryz.underlying24 Tryz.underlying3 hi0 hz0 (some ⟨g, 0, none⟩) i n (entSh.flat (xs.take i)) hold (n + 1 - i) (by omega) (by rw [hz1]; decide) (by omega) (by omega) (by rw [hz2]; omega) (by rw [hz2, show i + (n + 1 - i) = n + 1 from by omega]; exact growslice_fits (by omega) (by omega))
    rw [show i + (n + 1 - i) = n + 1 from by omega, ← hG, ← hROW] at h
    rw [hkk]
    exact h
  obtain ⟨W1, hW1⟩ : ∃ W1, W1 = w.drew.alloc (.cells ROW 71) := ⟨_, rfl⟩
  have hW1g : W1.heap[w.heap.size]? = some (.cells ROW 71 (0, 0)) := by rw [hW1]; exact heap_alloc_new w.drew _
  have hW1b : Below w.heap.size w W1 := by rw [hW1]; exact (Below.refl _ _).drew.alloc (Nat.le_refl _) _
  have hvN : N < w.heap.size := by
    obtain ⟨b', o', q, hb, -⟩ := hv.cells 0 (by simp)
    simp only [Option.some.injEq, Addr.mk.injEq] at q
    rw [q.1]; exact hb
  have hcpA : ∀ (W : World), W.heap = W1.heap → ∀ ty dc, (Builtin.copy_ #[24, 24] ty #[.slice (some ⟨w.heap.size, i * 5, none⟩) (n + 1 - i) dc, .slice (some ⟨N, 0, none⟩) 1 vc]).run Tryz.prog W = .ok (goInt 1) (W.setRow w.heap.size C1) := fun W hWh ty dc => by
    have h := run_copy_rowK (P := Tryz.prog) W 24 24 ty 71 i0 5 w.heap.size (i * 5) (n + 1 - i) dc ⟨N, 0, none⟩ 1 vc ROW 71 (entSh.flat [p]) Tryz.underlying24 hi0 hz1 (by rw [hWh]; exact hW1g) 1 (Nat.min_eq_left (by omega)) rfl
      (fun j v hj => by
        have h1 := hsrcV j v hj
        have h2 : W.cell? (((⟨N, 0, none⟩ : Addr)).add j) = W1.cell? (((⟨N, 0, none⟩ : Addr)).add j) := by unfold World.cell?; rw [hWh]
        rw [h2, addr_add', hW1b.cell (by exact hvN)]
        rw [addr_add'] at h1
        exact h1) (by rw [hRs]; show i * 5 + 5 ≤ _; omega) (entSh.flat_one [p])
    rw [show (entSh.flat [p]).length = 5 from rfl, ← hC1] at h
    exact h
  have hcpB : ∀ (W : World), W.heap = (W1.setRow w.heap.size C1).heap → ∀ ty dc sc, (Builtin.copy_ #[24, 24] ty #[.slice (some ⟨w.heap.size, (i + 1) * 5, none⟩) (n + 1 - (i + 1)) dc, .slice (some ⟨g, 0 + i * 5, none⟩) (n - i) sc]).run Tryz.prog W = .ok (goInt (n - i : Nat)) (W.setRow w.heap.size C2) := fun W hWh ty dc sc => by
    have hb2 : Below w.heap.size w (W1.setRow w.heap.size C1) := below_setRow hW1b (Nat.le_refl _) _
    have h := run_copy_rowK (P := Tryz.prog) W 24 24 ty 71 i0 5 w.heap.size ((i + 1) * 5) (n + 1 - (i + 1)) dc ⟨g, 0 + i * 5, none⟩ (n - i) sc C1 71 (entSh.flat (xs.drop i)) Tryz.underlying24 hi0 hz1 (by rw [hWh]; exact setRow_heap W1 w.heap.size ROW C1 71 _ hW1g) (n - i) (by rw [show n + 1 - (i + 1) = n - i from by omega]; exact Nat.min_self _) hfd
      (fun j v hj => by
        have h1 := hsrcS (i * 5 + j) v (by rw [hsplit, List.getElem?_append_right (by omega), hft, show i * 5 + j - i * 5 = j from by omega]; exact hj)
        have h2 : W.cell? (((⟨g, 0 + i * 5, none⟩ : Addr)).add j) = (W1.setRow w.heap.size C1).cell? (((⟨g, 0 + i * 5, none⟩ : Addr)).add j) := by unfold World.cell?; rw [hWh]
        rw [h2, addr_add', hb2.cell (by exact hgl)]
        rw [addr_add'] at h1
        rw [show 0 + i * 5 + j = 0 + (i * 5 + j) from by omega]
        exact h1) (by rw [hC1s, hfd]; omega) (entSh.flat_one _)
    rw [hfd, show (i + 1) * 5 = i * 5 + 5 from by omega, ← hC2] at h
    rw [show (i + 1) * 5 = i * 5 + 5 from by omega]
    exact h
  have HFIN : Hid (∀ W : World, W.heap = ((W1.setRow w.heap.size C1).setRow w.heap.size C2).heap → entSh.Own 71 W w.heap.size (.slice (some ⟨w.heap.size, 0, none⟩) (n + 1) G) (xs.take i ++ p :: xs.drop i)) := hide (fun W hWh => by
    have hl : (xs.take i ++ p :: xs.drop i).length = n + 1 := by
      rw [List.length_append, List.length_cons, List.length_take, List.length_drop, Nat.min_eq_left (by omega)]
      omega
    have hh : W.heap[w.heap.size]? = some (.cells C2 71 (0, 0)) := by
      rw [hWh]
      exact setRow_heap _ w.heap.size C1 C2 71 _ (setRow_heap W1 w.heap.size ROW C1 71 _ hW1g)
    unfold Shape.Own
    rw [hl]
    exact ⟨by rw [entSh.flat_length, hl], .inr ⟨w.heap.size, G, C2, rfl, Nat.le_refl _, hh, hGn, hGm, hC2l.1, hC2l.2⟩⟩)
  have HBB : Hid (Below w.heap.size w (((((w.alloc (.cells ROW 71)).drew).setRow w.heap.size C1).drew).setRow w.heap.size C2)) := hide (below_setRow (Below.drew (below_setRow (Below.drew (al1 w _)) (Nat.le_refl _) _)) (Nat.le_refl _) _)
  have HHA : Hid (((w.alloc (.cells ROW 71)).drew).heap = W1.heap) := hide (by rw [hW1]; rfl)
  have HHB : Hid (((((w.alloc (.cells ROW 71)).drew).setRow w.heap.size C1).drew).heap = (W1.setRow w.heap.size C1).heap) := hide (by rw [hW1]; rfl)
  have HHC : Hid ((((((w.alloc (.cells ROW 71)).drew).setRow w.heap.size C1).drew).setRow w.heap.size C2).heap = ((W1.setRow w.heap.size C1).setRow w.heap.size C2).heap) := hide (by rw [hW1]; rfl)
  have HRZ := hide hrz
  have HCA := hide hcpA
  have hcpB' := hcpB
  simp only [Nat.zero_add] at hcpB'
  have HCB := hide hcpB'
  have HGN := hide hGn
  have hG63 : G ≤ 9223372036854775807 := by unfold maxLen at hGm; omega
  have hz2' : ¬ ((i : Int) = (n : Int)) := by omega
  have hGi : ¬ (G = i) := by omega
  have hGim : ¬ (G = i + 1) := by omega
  have hni : ¬ (n = i) := by omega
  have hw1 : IntKind.i64.wrap ((i : Int) + 1) = (i : Int) + 1 := by rw [IntKind.wrap_i64]; omega
  have hb1 : (0 : Int) ≤ (i : Int) + 1 := by omega
  have hin : i ≤ n := by omega
  have htn : ((i : Int) + 1).toNat = i + 1 := by omega
  have hb3 : (i : Int) ≤ (n : Int) := by omega
  clear hrz hcpA hcpB hcpB' hv hs hins hC1 hC2 hC2l hC1s hRL hRs hROW hZ hZl hold hkk hW1g hW1b hW1 hsrcS hsrcV hsplit hft hfd hfx hGm hG
  go_enter Tryz.func126, Tryz.ntmps126
  have qA := HCA.out _ HHA.out
  go_wp2_with (at_builtin; refine Lib.wpList_append_run _ rfl _ _ _ _ rfl _ _ rfl rfl _ _ (HRZ.out _) ?_)
  clear qA
  have hqB := HCB.out _ HHB.out
  have HQB := hide hqB
  clear hqB
  go_region_law (refine step_copy_runI rfl _ _ 24 24 rfl (.slice (some ⟨w.heap.size, (i + 1) * 5, none⟩) (n + 1 - (i + 1)) (G - (i + 1))) (.slice (some ⟨g, i * 5, none⟩) (n - i) (n - i)) (by simp [Act.eval, Act.put]) (by simp [Act.eval, Act.put]) (HQB.out 3 (G - (i + 1)) (n - i)) ?_)
  go_wp2
  go_ret
  exact ⟨⟨_, rfl, HFIN.out _ HHC.out⟩, HBB.out⟩

set_option maxRecDepth 100000 in
set_option maxHeartbeats 4000000 in
theorem insert_end (w : World) (base g n N vc : Nat) (xs : List EntV) (p : EntV) (hs : entSh.Own 71 w base (.slice (some ⟨g, 0, none⟩) n n) xs) (hb : base ≤ w.heap.size) (hv : entSh.Row w (some ⟨N, 0, none⟩) 1 [p]) (hn : n ≤ 4194305) :
    Calls Tryz.prog 126 #[.slice (some ⟨g, 0, none⟩) n n, .int .i64 n, .slice (some ⟨N, 0, none⟩) 1 vc] w fun e w' => (∃ a' cap', e = .returned (.slice a' (n + 1) cap') ∧ entSh.Own 71 w' base (.slice a' (n + 1) cap') (xs ++ [p])) ∧ Below base w w' := by
  obtain ⟨i0, hi0, hz0, hz1, hz2⟩ := info_ent
  have hlen := hs.len
  have HS := hide hs
  have HV := hide hv
  have HBL := hide (fun g' (h : (Value.slice (some ⟨g, 0, none⟩) n n).ownBlock = some g') => (hs.blk g' h).1)
  clear hs hv
  go_enter Tryz.func126, Tryz.ntmps126
  go_wp2_with (at_builtin; refine entSh.wpList_app (P := Tryz.prog) rfl _ _ 24 71 rfl Tryz.underlying24 hi0 hz0 hz1 hz2 rfl (by decide) HS.out hb HV.out (by omega) rfl rfl ?_; intro a' n' cap' w' hn' ho' hg'; have hn2 := hide hn'; clear hn')
  have HO' := hide ho'
  have HB' : Hid (Below base w w') := hide ((Below.refl base w).grown hg' hb HBL.out)
  obtain rfl : n' = n + 1 := by have := hn2.out; omega
  clear ho' hg' hn2
  go_ret
  exact ⟨⟨a', cap', rfl, HO'.out⟩, HB'.out⟩

end Go.Proofs.YtimpokbcfjgdaaaGreatDoor
