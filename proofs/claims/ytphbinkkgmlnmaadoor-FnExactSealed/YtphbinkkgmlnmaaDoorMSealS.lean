/-
  spec.Sealed.
-/
import Derived.Test.YtphbinkkgmlnmaaDoorMPlaceOf
import Derived.Test.YtphbinkkgmlnmaaDoorG16
import Derived.Deep.RegionHeld3
namespace Go.Proofs.YtphbinkkgmlnmaaDoor
open Go.RowKit
open Plain

set_option maxRecDepth 100000 in
set_option maxHeartbeats 4000000 in
theorem specSealed_any (w : World) (a : Option Addr) (n cap : Nat) (xs : List PlaceV) (hr : plSh.Row w a n xs) (hf : PFits xs) (hn : n ≤ 1048576) :
    Calls Tryd.prog 5 #[.slice a n cap] w fun e w' => (∃ a' n' cap', e = .returned (.slice a' n' cap') ∧ IOwn w' w.heap.size (.slice a' n' cap') (sealF xs)) ∧ Below w.heap.size w w' := by
  have hlen := hr.len
  have HR := hide hr
  have HF := hide hf
  have HO0 := hide (IOwn.empty w)
  have HB0 := hide (al1 w (.cells #[] 3))
  clear hr hf
  go_enter Tryd.func5, Tryd.ntmps5
  go_wp2
  go_loopw [3, 4] (fun v i wr => ∃ (k : Nat) (a' : Option Addr) (n' c' : Nat), k ≤ n ∧ v = .slice a' n' c' ∧ i = .int .i64 k ∧ Hid (IOwn wr w.heap.size (.slice a' n' c') (sealF (xs.take k))) ∧ Hid (Below w.heap.size w wr)) (fun _ i _ => n - (intOf i).toNat)
  case atStart => exact ⟨0, _, 0, 0, by omega, rfl, rfl, HO0, HB0⟩
  case round =>
    clear HO0 HB0
    obtain ⟨k, a', n', c', hk, rfl, rfl, HO, HB⟩ := hrel
    by_cases hlt : k < n
    · have hkf : k < xs.length := by omega
      obtain ⟨b, off, rfl, hbw, e0, e1, e2, e3, e4, e5, e6, e7, e8⟩ := pl_cells (HR.out.later HB.out) k hkf
      have HSZ := hide HB.out.size
      have hsl := sealF_len xs k
      have HNO := hide (sealF_no (l := xs) (k := k) hkf)
      have HYES := hide (sealF_yes (l := xs) (k := k) hkf)
      have HOF : Hid (∀ W, Below wr.heap.size wr W → _) := hide (fun W (hW : Below wr.heap.size wr W) => specOf_any W _ n cap xs ((HR.out.later HB.out).later hW) hn k (by omega) (xs[k]).r.batch)
      have hofl : (ofB (xs.take k) (xs[k]).r.batch).length ≤ 1048576 := by
        have := ofB_len (xs.take k) (xs[k]).r.batch
        rw [List.length_take] at this
        omega
      have HFI := hide (fun W a' n' c' (h : plSh.Row W a' n' (ofB (xs.take k) (xs[k]).r.batch)) => specFits_any W a' n' c' _ h (HF.out.sub (fun p hp => List.mem_of_mem_take (ofB_mem _ _ p hp))) (by rw [← h.len]; exact hofl) (xs[k]).r)
      obtain ⟨z, hz⟩ : ∃ z, xs[k] = z := ⟨_, rfl⟩
      rw [hz] at e0 e1 e2 e3 e4 e5 e6 e7 e8 HNO HYES HOF HFI
      clear hz hofl
      by_cases h3 : z.r.kind = 3
      · have t3 := ieq _ _ h3
        obtain ⟨fb, hfb⟩ : ∃ fb, fitsP z.r (ofB (xs.take k) z.r.batch) = fb := ⟨_, rfl⟩
        have HS0 : Hid (∀ W', Below wr.heap.size wr W' → W'.cell? ⟨b, off + k * 9 + 3, none⟩ = some (.int .i64 z.r.kind) ∧ W'.cell? ⟨b, off + k * 9 + 3 + 1, none⟩ = some (.int .i64 z.r.batch) ∧ W'.cell? ⟨b, off + k * 9 + 3 + 2, none⟩ = some (.string z.r.key) ∧ W'.cell? ⟨b, off + k * 9 + 3 + 3, none⟩ = some (.string z.r.val) ∧ W'.cell? ⟨b, off + k * 9 + 3 + 4, none⟩ = some (.int .i64 z.r.cnt) ∧ W'.cell? ⟨b, off + k * 9 + 3 + 5, none⟩ = some (.int .i64 z.r.sum) ∧ Hid (Below wr.heap.size wr W')) := hide (fun W' hb => ⟨(hb.cell (p := ⟨b, _, none⟩) hbw).trans e3, (hb.cell (p := ⟨b, _, none⟩) hbw).trans e4, (hb.cell (p := ⟨b, _, none⟩) hbw).trans e5, (hb.cell (p := ⟨b, _, none⟩) hbw).trans e6, (hb.cell (p := ⟨b, _, none⟩) hbw).trans e7, (hb.cell (p := ⟨b, _, none⟩) hbw).trans e8, hide hb⟩)
        rw [hfb] at HFI HYES HNO
        have HK3 := hide h3
        clear hfb h3
        have S1 := HS0.out wr.drew (Below.refl _ _).drew
        go_wp2
        go_region_held3 (fun W' => W'.cell? ⟨b, off + k * 9 + 3, none⟩ = some (.int .i64 z.r.kind) ∧ W'.cell? ⟨b, off + k * 9 + 3 + 1, none⟩ = some (.int .i64 z.r.batch) ∧ W'.cell? ⟨b, off + k * 9 + 3 + 2, none⟩ = some (.string z.r.key) ∧ W'.cell? ⟨b, off + k * 9 + 3 + 3, none⟩ = some (.string z.r.val) ∧ W'.cell? ⟨b, off + k * 9 + 3 + 4, none⟩ = some (.int .i64 z.r.cnt) ∧ W'.cell? ⟨b, off + k * 9 + 3 + 5, none⟩ = some (.int .i64 z.r.sum) ∧ Hid (Below wr.heap.size wr W')) (assumption) (first
          | (go_at_call 15; refine (HOF.out wr.drew S1.2.2.2.2.2.2.out).mono ?_; rintro e w2 ⟨⟨a2, n2, c2, rfl, ho2⟩, hb2⟩; have hk2 := hide (S1.2.2.2.2.2.2.out.trans (hb2.mono S1.2.2.2.2.2.2.out.size)); have S2 := HS0.out w2 hk2.out; have HR2 := hide ho2.row; clear ho2 hb2)
          | (go_at_call 14; refine (HFI.out w2 _ _ _ HR2.out).mono ?_; rintro e w3 ⟨rfl, hb3⟩; have hk3 := hide (hk2.out.trans (hb3.mono hk2.out.size)); have S3 := HS0.out w3 hk3.out; clear hb3))
        have HO3 := hide (HO.out.later hk3.out (Nat.le_refl _))
        have HB3 := hide (HB.out.trans (hk3.out.mono HB.out.size))
        obtain ⟨g0, g1, g2, g3, g4, g5, -⟩ := S3
        have hbw3 : b < w3.heap.size := Nat.lt_of_lt_of_le hbw hk3.out.size
        clear S1 S2 hk2 hk3 HR2 HS0 HOF HFI HO HB e0 e1 e2 e3 e4 e5 e6 e7 e8
        cases fb with
        | true =>
          have HE := hide (HYES.out HK3.out rfl)
          clear HYES HNO HK3
          go_wp2_with (at_builtin; refine wpList_app_int rfl _ _ rfl z.r.batch HO3.out HB3.out.size (by omega) rfl rfl rfl ?_; intro a4 n4 cap4 w4 hn4 ho4 hg4; clear hn4)
          have HB4 := hide (HB3.out.grown hg4 HB3.out.size (fun g hg => (HO3.out.blk g hg).1))
          have HO4 := hide ho4
          clear ho4 hg4 HO3 HB3
          go_roundw
          case rel => exact ⟨k + 1, a4, n4, cap4, by omega, rfl, by go_num, by rw [HE.out]; exact HO4, HB4⟩
          case measure => first | (simp [intOf]; done) | (simp [intOf]; omega)
        | false =>
          have HE := hide (HNO.out (fun q => by cases q.2))
          clear HYES HNO HK3
          go_wp2
          go_roundw
          case rel => exact ⟨k + 1, a', n', c', by omega, rfl, by go_num, by rw [HE.out]; exact HO3, HB3⟩
          case measure => first | (simp [intOf]; done) | (simp [intOf]; omega)
      · have t3 := ine _ _ h3
        have HE : Hid (sealF (xs.take (k + 1)) = sealF (xs.take k)) := hide (HNO.out (fun q => h3 q.1))
        clear h3 HNO HYES HOF HFI
        go_wp2
        go_region
        go_wp2
        go_roundw
        case rel => exact ⟨k + 1, a', n', c', by omega, rfl, by go_num, by rw [HE.out]; exact HO, hide HB.out.drew⟩
        case measure => first | (simp [intOf]; done) | (simp [intOf]; omega)
    · obtain rfl : k = n := by omega
      have HT : Hid (xs.take k = xs) := hide (List.take_of_length_le (by omega))
      go_wp2
      go_ret
      exact ⟨⟨a', n', c', rfl, by have h := HO.out; rw [HT.out] at h; exact h⟩, HB.out⟩

end Go.Proofs.YtphbinkkgmlnmaaDoor
