/-
  impl.tearOf and impl.leftOf.
-/
import Derived.Test.YthfpcjamlbkgfaaPowPlain
import Derived.Test.YthfpcjamlbkgfaaVolImpl
import Derived.Test.YthfpcjamlbkgfaaIntRow
import Derived.Lib.ConvBytes
import Derived.Deep.RegionHeld3
namespace Go.Proofs.Ythfpcjamlbkgfaa
open Go.RowKit
open Plain

set_option maxRecDepth 100000 in
set_option maxHeartbeats 1000000 in
theorem implTear_any (w : World) (b : Option Addr) (m capb : Nat) (zs : List Int) (hr : IRow w 0 b m zs) (hm : m ≤ 1099511627776) (i : Nat) (hi : i ≤ 1099511627776) :
    Calls Try.prog 36 #[.slice b m capb, .int .i64 i] w fun e w' => e = .returned (.int .i64 (tearAt zs i)) ∧ w = w' := by
  have hl := hr.len
  by_cases h0 : m = 0
  · have HV : Hid (tearAt zs i = 0) := hide (by unfold tearAt; rw [if_pos (by omega)])
    subst h0
    clear hr hl
    go_enter Try.func36, Try.ntmps36
    go_wp2
    go_ret
    exact ⟨by rw [HV.out]; rfl, rfl⟩
  · have hlt : i % m < m := Nat.mod_lt _ (by omega)
    have hlz : i % m < zs.length := by omega
    obtain ⟨b1, o1, rfl, -, hb1, e1⟩ := hr.cells (i % m) hlz
    have HV : Hid (tearAt zs i = max 0 (zs[i % m])) := hide (by unfold tearAt; rw [if_neg (by omega), hl, List.getD, List.getElem?_eq_getElem hlz]; rfl)
    obtain ⟨z, hz⟩ : ∃ z, zs[i % m] = z := ⟨_, rfl⟩
    rw [hz] at HV e1
    obtain ⟨k, hk⟩ : ∃ k, i % m = k := ⟨_, rfl⟩
    have hmod : ((i : Int) % (m : Int)) = (k : Int) := by rw [← hk]; omega
    rw [hk] at e1 hlt
    clear hr hz hl hlz hk
    have t0 : ((m : Int) == 0) = false := by simpa using h0
    by_cases hz : 0 < z
    · have HV2 : Hid (tearAt zs i = z) := hide (by rw [HV.out]; omega)
      clear HV
      go_enter Try.func36, Try.ntmps36
      go_wp2
      go_ret
      exact ⟨by rw [HV2.out]; rfl, rfl⟩
    · have HV2 : Hid (tearAt zs i = 0) := hide (by rw [HV.out]; omega)
      have hz2 : z ≤ 0 := by omega
      clear HV
      go_enter Try.func36, Try.ntmps36
      go_wp2
      go_ret
      exact ⟨by rw [HV2.out]; rfl, rfl⟩

theorem below_bytes (w : World) (e : TypeId) (s : ByteArray) : Below w.heap.size w (Lib.bytesWorld w e s) :=
  ⟨rfl, rfl, rfl, by rw [Lib.bytesWorld_size]; omega, fun j hj => Lib.bytesWorld_at_old w e s j hj⟩

set_option maxRecDepth 100000 in
set_option maxHeartbeats 2000000 in
theorem implLeft_any (f : FileV) (h : 0 ≤ f.safe ∧ f.safe ≤ (f.text.size : Int)) (ht : f.text.size ≤ 1048576) (t : Int) (ht0 : 0 ≤ t) (w : World) :
    Calls Try.prog 35 #[.agg #[.string f.name, .string f.text, .int .i64 f.safe], .int .i64 t] w fun e w' => e = .returned (.agg #[.string (leftF f t).name, .string (leftF f t).text, .int .i64 (leftF f t).safe]) ∧ Below w.heap.size w w' := by
  obtain ⟨W, hW⟩ : ∃ W, W = (w.alloc (.cells #[.string f.name, .string f.text, .int .i64 f.safe] 35)).alloc (.cells #[.string ⟨#[]⟩, .string ⟨#[]⟩, .int .i64 0] 35) := ⟨_, rfl⟩
  have hA := alloc2 w (.cells #[.string f.name, .string f.text, .int .i64 f.safe] 35) (.cells #[.string ⟨#[]⟩, .string ⟨#[]⟩, .int .i64 0] 35)
  rw [← hW] at hA
  have HS := hide hA.1
  have HB0 := hide hA.2.1
  have HC0 := hide hA.2.2.1
  have HC1 := hide hA.2.2.2
  clear hA
  have hkb := leftK_bd h t
  obtain ⟨y0, y1, y2⟩ := cells3 HC0.out
  have HL : Hid (looseF f = (f.text.size : Int) - f.safe) := hide rfl
  have HLW := hide (implLoose_any f h (by omega))
  obtain ⟨L, hL⟩ : ∃ L, looseF f = L := ⟨_, rfl⟩
  rw [hL] at HLW
  have hLb : 0 ≤ L ∧ L ≤ 1048576 := by rw [← hL]; unfold looseF; omega
  obtain ⟨K, hK⟩ : ∃ K, f.safe + t % (L + 1) = K := ⟨_, rfl⟩
  have HK : Hid (leftK f t = K) := hide (by unfold leftK; rw [hL, hK])
  have hKb : f.safe ≤ K ∧ K ≤ (f.text.size : Int) := by rw [← HK.out]; exact hkb
  obtain ⟨R, hR⟩ : ∃ R, t % (L + 1) = R := ⟨_, rfl⟩
  have hR0 : 0 ≤ R := by rw [← hR]; exact Int.emod_nonneg _ (by omega)
  have hR1 : R ≤ L := by have := Int.emod_lt_of_pos t (b := L + 1) (by omega); omega
  rw [hR] at hK
  clear hkb HL hL
  obtain ⟨s0, s1⟩ := h
  obtain ⟨l0, l1⟩ := hLb
  obtain ⟨k0, k1⟩ := hKb
  have hne : ((L + 1 : Int) == 0) = false := by simp; omega
  have hne2 : ¬ (L + 1 = 0) := by omega
  have htm : t.tmod (L + 1) = R := by rw [Int.tmod_eq_emod_of_nonneg ht0, hR]
  have hw1 : IntKind.i64.wrap (L + 1) = L + 1 := by rw [IntKind.wrap_i64]; omega
  have hw2 : IntKind.i64.wrap R = R := by rw [IntKind.wrap_i64]; omega
  have hw3 : IntKind.i64.wrap (f.safe + R) = K := by rw [IntKind.wrap_i64]; omega
  go_enter Try.func35, Try.ntmps35
  go_wp2
  rw [← hW]
  clear hW
  have HLT : Hid (∀ w', Below W.heap.size W w' → w'.cell? ⟨w.heap.size, 0, none⟩ = some (.string f.name) ∧ w'.cell? ⟨w.heap.size, 1, none⟩ = some (.string f.text) ∧ w'.cell? ⟨w.heap.size, 2, none⟩ = some (.int .i64 f.safe) ∧ Hid (Below W.heap.size W w')) := hide (fun w' hb => by
    obtain ⟨q0, q1, q2⟩ := cells3 ((hb.block _ (by have := HS.out; omega)).trans HC0.out)
    exact ⟨q0, q1, q2, hide hb⟩)
  have HLC : Hid (∀ w', Hid (Below W.heap.size W w') → Calls Try.prog 40 #[.agg #[.string f.name, .string f.text, .int .i64 f.safe]] w' fun e w'' => e = .returned (.int .i64 L) ∧ Below W.heap.size W w'') := hide (fun w' hb => (HLW.out w').mono (fun e w'' ⟨h1, h2⟩ => ⟨h1, hb.out.trans (h2.mono hb.out.size)⟩))
  have S0 := HLT.out W.drew (Below.refl _ _).drew
  clear y0 y1 y2 HLW
  go_region_held3 (fun w' => w'.cell? ⟨w.heap.size, 0, none⟩ = some (.string f.name) ∧ w'.cell? ⟨w.heap.size, 1, none⟩ = some (.string f.text) ∧ w'.cell? ⟨w.heap.size, 2, none⟩ = some (.int .i64 f.safe) ∧ Hid (Below W.heap.size W w')) (assumption) ((go_at_call 40; refine (HLC.out _ (by simp only [*])).mono ?_; rintro e w4 ⟨rfl, hb4⟩; have hS4 := HLT.out w4 hb4))
  rename_i hHeld
  have HB4 := hide (HB0.out.trans (hb4.mono HB0.out.size))
  obtain ⟨Kn, hKn⟩ : ∃ n : Nat, K = (n : Int) := ⟨K.toNat, by omega⟩
  have hw4 : IntKind.i64.wrap K = (Kn : Int) := by rw [IntKind.wrap_i64]; omega
  have HKn : Hid (leftF f t = ⟨f.name, f.text.extract 0 Kn, (Kn : Int)⟩) := hide (by unfold leftF; rw [HK.out, hKn, Int.toNat_natCast])
  have hkn : Kn ≤ f.text.size := by omega
  rw [hw4]
  have hcv := Lib.run_convert_string_bytes (P := Try.prog) w4 9 22 5 f.text Try.underlying9 Try.underlying22 Try.underlying5
  have hG : f.text.size ≤ grownCap w4 f.text.size 0 5 := grownCap_ge w4 _ _ _
  generalize hGG : grownCap w4 f.text.size 0 5 = G at *
  have HBW : Hid (Below w4.heap.size w4 (Lib.bytesWorld w4 5 f.text)) := hide (below_bytes w4 5 f.text)
  have hcv2 : (convert 22 9 (.slice (some ⟨w4.heap.size, 0, none⟩) Kn Kn)).run Try.prog (Lib.bytesWorld w4 5 f.text) = .ok (.string (f.text.extract 0 Kn)) (Lib.bytesWorld w4 5 f.text) := by
    rw [← headB_str]
    refine run_convert_bytes_arg (P := Try.prog) (Lib.bytesWorld w4 5 f.text) 22 5 Try.underlying22 Try.underlying5 w4.heap.size 0 Kn Kn (headB f.text Kn) (headB_length _ _ hkn) ?_ 9 Try.underlying9
    intro i hi
    rw [Nat.zero_add, Lib.bytesWorld_cell w4 5 f.text i (by omega), headB_get _ _ _ hkn hi]
  generalize hBW : Lib.bytesWorld w4 5 f.text = Y at *
  have hb4s : W.heap.size ≤ w4.heap.size := hb4.size
  obtain ⟨x0, x1, x2⟩ := cells3 ((HBW.out.block _ (by have := HS.out; omega)).trans ((hb4.block _ (by have := HS.out; omega)).trans HC0.out))
  have hC1 := ((HBW.out.block _ (by have := HS.out; omega)).trans ((hb4.block _ (by have := HS.out; omega)).trans HC1.out))
  obtain ⟨v0, v1, v2⟩ := cells3 hC1
  have hfz : ∀ j, Y.frozen? ⟨w.heap.size + 1, j, none⟩ = false := fun j => by simp [World.frozen?, hC1]
  have g0 := hfz 0
  have g1 := hfz 1
  have g2 := hfz 2
  have HB5 := hide (HB4.out.trans (HBW.out.mono HB4.out.size))
  obtain ⟨p0, p1, p2, -⟩ := hS4
  clear S0 HLC HLT hb4 HC0 HC1 HB0 HBW hC1 hfz hGG hBW hw1 hw2 hw3 hw4 hne hne2 htm hR hK HK hKn k0 k1 hHeld
  go_wp2
  refine bodyPost_ret (v := .agg #[.string f.name, .string (f.text.extract 0 Kn), .int .i64 (Kn : Int)]) (by simp [results, Try.results35, go_sem, *]) rfl ⟨by rw [HKn.out], ?_⟩
  iterate 3 (refine Below.setCell ?_ (by dsimp only; omega) _)
  exact HB5.out

end Go.Proofs.Ythfpcjamlbkgfaa
