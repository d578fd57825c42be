/-
  spec.ShowHint.
-/
import Derived.Test.YtimpokbcfjgdaaaDoorMHintOkS
import Derived.Test.YtimpokbcfjgdaaaDoorG17
import Derived.Deep.RegionHeld3
namespace Go.Proofs.YtimpokbcfjgdaaaDoor
open Go.RowKit
open Plain

theorem bodyE_key {h : HintV} {k : Nat} (hk : k < h.list.length) : bodyE h (k + 1) = bodyE h k ++ varS ((h.list[k]).key.size : Int) ++ (h.list[k]).key ++ varS (h.list[k]).seg ++ varS (h.list[k]).pos ++ varS (h.list[k]).len ++ varS (h.list[k]).bat := by
  rw [bodyE_succ h k hk]
  unfold entT textS
  simp only [ByteArray.append_assoc]
theorem strCat_of {a b c : ByteArray} (h : c = a ++ b) : a ++ b = c := h.symm

set_option maxRecDepth 100000 in
set_option maxHeartbeats 4000000 in
theorem specShowH_any (w : World) (x m : Int) (a : Option Addr) (n cap : Nat) (xs : List EntV) (hr : entSh.Row w a n xs) (hn : n ≤ 1048576) :
    Calls Tryd.prog 6 #[.agg #[.int .i64 x, .int .i64 m, .slice a n cap]] w fun e w' => e = .returned (.string (showH ⟨x, m, xs⟩)) ∧ Below w.heap.size w w' := by
  have hlen := hr.len
  obtain ⟨W, hW⟩ : ∃ W, W = w.alloc (.cells #[.int .i64 x, .int .i64 m, .slice a n cap] 29) := ⟨_, rfl⟩
  have HA : Hid (HvAt w w.heap.size 29 x m a n cap xs W) := hide (by rw [hW]; exact HvAt.new 29 x m cap hr)
  have HO := hide (specHintOk_any W x m a n cap xs HA.out.ents hn)
  clear hr
  by_cases hb : hintB ⟨x, m, xs⟩ = true
  · have HV : Hid (showH ⟨x, m, xs⟩ = sumS (bodyE ⟨x, m, xs⟩ xs.length) ++ bodyE ⟨x, m, xs⟩ xs.length) := hide (by rw [show bodyE ⟨x, m, xs⟩ xs.length = bodyH ⟨x, m, xs⟩ from bodyE_all _]; exact showH_in hb)
    have hbd := hint_bd hb
    have HSZ := hide (bodyE_size hb)
    have HKEY : Hid (∀ k, (hk : k < xs.length) → bodyE ⟨x, m, xs⟩ (k + 1) = bodyE ⟨x, m, xs⟩ k ++ varS ((xs[k]).key.size : Int) ++ (xs[k]).key ++ varS (xs[k]).seg ++ varS (xs[k]).pos ++ varS (xs[k]).len ++ varS (xs[k]).bat) := hide (fun k hk => bodyE_key (h := ⟨x, m, xs⟩) hk)
    have HKZ : Hid (∀ k, (hk : k < xs.length) → (xs[k]).key.size ≤ 8) := hide (fun k hk => (ent_bd (entOk_of hbd.2.2.1 _ (List.getElem_mem hk))).1)
    have HB0 : Hid (bodyE ⟨x, m, xs⟩ 0 = varS x ++ varS m ++ varS (n : Int)) := hide (by rw [bodyE_zero]; unfold headH; rw [hlen])
    rw [hb] at HO
    clear hbd hb
    generalize bodyE ⟨x, m, xs⟩ = body at *
    go_enter Tryd.func6, Tryd.ntmps6
    go_wp2_with fail
    rw [← hW]
    clear hW
    refine HO.out.mono ?_
    rintro e w1 ⟨rfl, hb1⟩
    have HA1 := hide (HA.out.later hb1)
    clear HA HO hb1
    have HK : Hid (∀ W', HvAt w w.heap.size 29 x m a n cap xs W' → W'.cell? ⟨w.heap.size, 0, none⟩ = some (.int .i64 x) ∧ W'.cell? ⟨w.heap.size, 1, none⟩ = some (.int .i64 m) ∧ W'.cell? ⟨w.heap.size, 2, none⟩ = some (.slice a n cap) ∧ Hid (HvAt w w.heap.size 29 x m a n cap xs W')) := hide (fun W' h => ⟨h.cells.1, h.cells.2.1, h.cells.2.2, hide h⟩)
    have hS1 := HK.out _ (HA1.out.later (Below.refl _ _).drew)
    have HV1 := hide (specVar_any x)
    have HV2 := hide (specVar_any m)
    have HV3 := hide (specVar_any (n : Int))
    have hs1 := varS_size x
    have hs2 := varS_size m
    have hs3 := varS_size (n : Int)
    have hz1 : ¬ 9223372036854775807 < (varS x).size + (varS m).size := by omega
    have hz2 : ¬ 9223372036854775807 < (varS x).size + (varS m).size + (varS (n : Int)).size := by omega
    clear hs1 hs2 hs3 HA1
    generalize varS x = vx at *
    generalize varS m = vm at *
    generalize varS (n : Int) = vn at *
    go_wp2_with fail
    go_region_held3 (fun W' => W'.cell? ⟨w.heap.size, 0, none⟩ = some (.int .i64 x) ∧ W'.cell? ⟨w.heap.size, 1, none⟩ = some (.int .i64 m) ∧ W'.cell? ⟨w.heap.size, 2, none⟩ = some (.slice a n cap) ∧ Hid (HvAt w w.heap.size 29 x m a n cap xs W')) (assumption) (first
      | (go_at_call_of 16 (Value.int IntKind.i64 x); refine (HV1.out _).mono ?_; rintro e w4 ⟨rfl, hb4⟩; have hS4 := HK.out w4 (hS1.2.2.2.out.later hb4))
      | (go_at_call_of 16 (Value.int IntKind.i64 m); refine (HV2.out _).mono ?_; rintro e w5 ⟨rfl, hb5⟩; have hS5 := HK.out w5 (hS4.2.2.2.out.later hb5))
      | (go_at_call 16; refine (HV3.out _).mono ?_; rintro e w6 ⟨rfl, hb6⟩; have hS6 := HK.out w6 (hS5.2.2.2.out.later hb6)))
    have HA6 := hide hS6.2.2.2.out
    clear hS6 hb6 hS5 hb5 hS4 hb4 hS1 HV1 HV2 HV3 HK
    rw [← HB0.out]
    clear HB0 hz1 hz2
    go_wp2
    go_loopw [3, 4] (fun v i wr => ∃ k : Nat, k ≤ n ∧ v = .string (body k) ∧ i = .int .i64 k ∧ Hid (HvAt w w.heap.size 29 x m a n cap xs wr)) (fun _ i _ => n - (intOf i).toNat)
    case atStart => exact ⟨0, by omega, rfl, rfl, HA6⟩
    case round =>
      clear HA6
      obtain ⟨k, hk, rfl, rfl, HA⟩ := hrel
      obtain ⟨y0, y1, y2⟩ := HA.out.cells
      have hsk := HSZ.out k
      by_cases hlt : k < n
      · have hkz : k < xs.length := by omega
        obtain ⟨b, off, rfl, hbw, e0, e1, e2, e3, e4⟩ := ent_cells HA.out.ents k hkz
        have HC := hide (HKEY.out k hkz)
        have hk8 := HKZ.out k hkz
        obtain ⟨z, hz⟩ : ∃ z, xs[k] = z := ⟨_, rfl⟩
        rw [hz] at e0 e1 e2 e3 e4 HC hk8
        clear hz
        have HVK := hide (specVar_any (z.key.size : Int))
        have HV1 := hide (specVar_any z.seg)
        have HV2 := hide (specVar_any z.pos)
        have HV3 := hide (specVar_any z.len)
        have HV4 := hide (specVar_any z.bat)
        have h70 := varS_size (z.key.size : Int)
        have h71 := varS_size z.seg
        have h72 := varS_size z.pos
        have h73 := varS_size z.len
        have h74 := varS_size z.bat
        have z0 : ¬ 9223372036854775807 < (body k).size + (varS (z.key.size : Int)).size := by omega
        have z1 : ¬ 9223372036854775807 < (body k).size + (varS (z.key.size : Int)).size + z.key.size := by omega
        have z2 : ¬ 9223372036854775807 < (body k).size + (varS (z.key.size : Int)).size + z.key.size + (varS z.seg).size := by omega
        have z3 : ¬ 9223372036854775807 < (body k).size + (varS (z.key.size : Int)).size + z.key.size + (varS z.seg).size + (varS z.pos).size := by omega
        have z4 : ¬ 9223372036854775807 < (body k).size + (varS (z.key.size : Int)).size + z.key.size + (varS z.seg).size + (varS z.pos).size + (varS z.len).size := by omega
        have z5 : ¬ 9223372036854775807 < (body k).size + (varS (z.key.size : Int)).size + z.key.size + (varS z.seg).size + (varS z.pos).size + (varS z.len).size + (varS z.bat).size := by omega
        clear h70 h71 h72 h73 h74 hsk hk8
        generalize varS (z.key.size : Int) = vk at *
        generalize varS z.seg = v1 at *
        generalize varS z.pos = v2 at *
        generalize varS z.len = v3 at *
        generalize varS z.bat = v4 at *
        generalize body k = A at *
        have hk2 : (k : Int) < (n : Int) := by omega
        obtain ⟨W2, hW2⟩ : ∃ W2, W2 = wr.alloc (.cells #[.string z.key, .int .i64 z.seg, .int .i64 z.pos, .int .i64 z.len, .int .i64 z.bat] 41) := ⟨_, rfl⟩
        have HB2 : Hid (Blk5 W2 wr.heap.size z ∧ HvAt w w.heap.size 29 x m (some ⟨b, off, none⟩) n cap xs W2) := hide (by rw [hW2]; exact ⟨Blk5.new wr z, HA.out.later (al1 wr _)⟩)
        have HK2 : Hid (∀ W', Blk5 W' wr.heap.size z ∧ HvAt w w.heap.size 29 x m (some ⟨b, off, none⟩) n cap xs W' → W'.cell? ⟨wr.heap.size, 0, none⟩ = some (.string z.key) ∧ W'.cell? ⟨wr.heap.size, 1, none⟩ = some (.int .i64 z.seg) ∧ W'.cell? ⟨wr.heap.size, 2, none⟩ = some (.int .i64 z.pos) ∧ W'.cell? ⟨wr.heap.size, 3, none⟩ = some (.int .i64 z.len) ∧ W'.cell? ⟨wr.heap.size, 4, none⟩ = some (.int .i64 z.bat) ∧ Hid (Blk5 W' wr.heap.size z ∧ HvAt w w.heap.size 29 x m (some ⟨b, off, none⟩) n cap xs W')) := hide (fun W' h => by
          obtain ⟨q0, q1, q2, q3, q4, -⟩ := cells5 h.1
          exact ⟨q0, q1, q2, q3, q4, hide h⟩)
        have HL2 : Hid (∀ W' W'', Hid (Blk5 W' wr.heap.size z ∧ HvAt w w.heap.size 29 x m (some ⟨b, off, none⟩) n cap xs W') → Below W'.heap.size W' W'' → Blk5 W'' wr.heap.size z ∧ HvAt w w.heap.size 29 x m (some ⟨b, off, none⟩) n cap xs W'') := hide (fun W' W'' h hb => ⟨h.out.1.later hb h.out.1.lt, h.out.2.later hb⟩)
        go_wp2_with fail
        rw [← hW2]
        clear hW2 e0 e1 e2 e3 e4 y0 y1 y2 HA
        have hS0 := HK2.out W2.drew (HL2.out W2 _ HB2 (Below.refl _ _).drew)
        obtain ⟨B, hB⟩ : ∃ B, wr.heap.size = B := ⟨_, rfl⟩
        rw [hB] at hS0 HK2 HL2 HB2 ⊢
        clear hB HB2
        go_region_held3 (fun W' => W'.cell? ⟨B, 0, none⟩ = some (.string z.key) ∧ W'.cell? ⟨B, 1, none⟩ = some (.int .i64 z.seg) ∧ W'.cell? ⟨B, 2, none⟩ = some (.int .i64 z.pos) ∧ W'.cell? ⟨B, 3, none⟩ = some (.int .i64 z.len) ∧ W'.cell? ⟨B, 4, none⟩ = some (.int .i64 z.bat) ∧ Hid (Blk5 W' B z ∧ HvAt w w.heap.size 29 x m (some ⟨b, off, none⟩) n cap xs W')) (assumption) (first
          | (go_at_call_of 16 (Value.int IntKind.i64 (z.key.size : Int)); refine (HVK.out _).mono ?_; rintro e w4 ⟨rfl, hb4⟩; have hS4 := HK2.out w4 (HL2.out _ w4 hS0.2.2.2.2.2 hb4))
          | (go_at_call_of 16 (Value.int IntKind.i64 z.seg); refine (HV1.out _).mono ?_; rintro e w5 ⟨rfl, hb5⟩; have hS5 := HK2.out w5 (HL2.out _ w5 hS4.2.2.2.2.2 hb5))
          | (go_at_call_of 16 (Value.int IntKind.i64 z.pos); refine (HV2.out _).mono ?_; rintro e w6 ⟨rfl, hb6⟩; have hS6 := HK2.out w6 (HL2.out _ w6 hS5.2.2.2.2.2 hb6))
          | (go_at_call_of 16 (Value.int IntKind.i64 z.len); refine (HV3.out _).mono ?_; rintro e w7 ⟨rfl, hb7⟩; have hS7 := HK2.out w7 (HL2.out _ w7 hS6.2.2.2.2.2 hb7))
          | (go_at_call 16; refine (HV4.out _).mono ?_; rintro e w8 ⟨rfl, hb8⟩; have hS8 := HK2.out w8 (HL2.out _ w8 hS7.2.2.2.2.2 hb8)))
        have HA8 := hide hS8.2.2.2.2.2.out.2
        clear hS8 hb8 hS7 hb7 hS6 hb6 hS5 hb5 hS4 hb4 hS0 HVK HV1 HV2 HV3 HV4 HK2 HL2 z0 z1 z2 z3 z4 z5
        rw [← HC.out]
        clear HC
        go_wp2
        go_roundw
        case rel => exact ⟨k + 1, by omega, rfl, by go_num, HA8⟩
        case measure => first | (simp [intOf]; done) | (simp [intOf]; omega)
      · obtain rfl : k = n := by omega
        have HF := hide (specCrc_ans (body k) (by omega))
        have HX := hide (specFix4_any (crcN (body k)) (by have := crcN_le (body k); omega))
        have HE : Hid (showH ⟨x, m, xs⟩ = fixN (crcN (body k) : Int) 4 ++ body k) := hide (by rw [HV.out, hlen]; rfl)
        have hz4 : (fixN (crcN (body k) : Int) 4).size ≤ 4 := fixN_size _ _
        have z0 : ¬ 9223372036854775807 < (fixN (crcN (body k) : Int) 4).size + (body k).size := by omega
        clear hz4 hsk
        have HB := hide HA.out.bel
        generalize fixN (crcN (body k) : Int) 4 = F at *
        generalize crcN (body k) = C at *
        generalize body k = A at *
        clear HA
        go_wp2_with (first
          | (go_at_call 18; refine (HF.out _).mono ?_; rintro e w4 ⟨rfl, hb4⟩)
          | (go_at_call 17; refine (HX.out _).mono ?_; rintro e w5 ⟨rfl, hb5⟩))
        go_ret
        exact ⟨by rw [HE.out]; rfl, HB.out.trans ((hb4.trans (hb5.mono hb4.size)).mono HB.out.size)⟩
  · have hb : hintB ⟨x, m, xs⟩ = false := by simpa using hb
    have HV : Hid (showH ⟨x, m, xs⟩ = ⟨#[]⟩) := hide (showH_out hb)
    rw [hb] at HO
    clear hb
    go_enter Tryd.func6, Tryd.ntmps6
    go_wp2_with fail
    rw [← hW]
    clear hW
    refine HO.out.mono ?_
    rintro e w1 ⟨rfl, hb1⟩
    have HB := hide (HA.out.later hb1).bel
    clear HA HO hb1
    go_wp2
    go_ret
    exact ⟨by rw [HV.out]; rfl, HB.out⟩

end Go.Proofs.YtimpokbcfjgdaaaDoor
