/-
  spec.DirDrop and spec.DirGet.
-/
import Derived.Test.YtdodlaindeclpaaDirPlain
namespace Go.Proofs.Ytdodlaindeclpaa
open Go.RowKit
open Plain

set_option maxRecDepth 100000 in
set_option maxHeartbeats 1000000 in
theorem specDrop_any (w : World) (a : Option Addr) (n cap : Nat) (xs : List EntV) (key : ByteArray) (hr : entSh.Row w a n xs) (hn : n ≤ 1048576) :
    Calls Try.prog 28 #[.slice a n cap, .string key] w fun e w' => (∃ a' n' cap', e = .returned (.slice a' n' cap') ∧ entSh.Own 26 w' w.heap.size (.slice a' n' cap') (dropE xs key)) ∧ Below w.heap.size w w' := by
  have hlen := hr.len
  have HR := hide hr
  have HO0 := hide (Shape.Own.empty entSh 26 w)
  have HB0 := hide (al1 w (.cells #[] 26))
  clear hr
  go_enter Try.func28, Try.ntmps28
  go_wp2
  go_loopw [5, 6] (fun v i wr => ∃ (k : Nat) (a' : Option Addr) (n' c' : Nat), k ≤ n ∧ v = .slice a' n' c' ∧ i = .int .i64 k ∧ Hid (entSh.Own 26 wr w.heap.size (.slice a' n' c') (dropE (xs.take k) key)) ∧ Hid (Below w.heap.size w wr)) (fun _ i _ => n - (intOf i).toNat)
  case atStart => exact ⟨0, _, 0, 0, by omega, rfl, rfl, HO0, HB0⟩
  case round =>
    clear HO0 HB0
    obtain ⟨k, a', n', c', hk, rfl, rfl, HO, HB⟩ := hrel
    by_cases hlt : k < n
    · have hkf : k < xs.length := by omega
      obtain ⟨b, off, rfl, hbw, e0, e1, e2, e3, e4⟩ := ent_cells (HR.out.later HB.out) k hkf
      have hl := dropE_len (xs.take k) key
      rw [List.length_take] at hl
      have HSZ := hide HB.out.size
      by_cases hq : (xs[k]).key = key
      · have t1 := str_eq _ _ hq
        have HE := hide (dropE_succ_eq xs key k hkf hq)
        clear hq
        go_wp2
        go_roundw
        case rel => exact ⟨k + 1, a', n', c', by omega, rfl, by go_num, by rw [HE.out]; exact HO, HB⟩
        case measure => first | (simp [intOf]; done) | (simp [intOf]; omega)
      · have t1 := str_ne _ _ hq
        have HE := hide (dropE_succ_ne xs key k hkf hq)
        clear hq
        obtain ⟨z, hz⟩ : ∃ z, xs[k] = z := ⟨_, rfl⟩
        rw [hz] at e0 e1 e2 e3 e4 t1 HE
        clear hz
        go_wp2_with (at_builtin; refine wpList_app_ent rfl _ _ rfl z HO.out HSZ.out (by omega) rfl rfl rfl ?_; intro a3 n3 cap3 w3 hn3 ho3 hb3; clear hn3)
        have HO3 := hide ho3
        have HB3 := hide (HB.out.trans hb3)
        clear ho3 hb3 HO HB
        go_roundw
        case rel => exact ⟨k + 1, a3, n3, cap3, by omega, rfl, by go_num, by rw [HE.out]; exact HO3, HB3⟩
        case measure => first | (simp [intOf]; done) | (simp [intOf]; omega)
    · obtain rfl : k = n := by omega
      have HT : Hid (xs.take k = xs) := hide (List.take_of_length_le (by omega))
      go_wp2
      go_ret
      exact ⟨⟨a', n', c', rfl, by have h := HO.out; rw [HT.out] at h; exact h⟩, HB.out⟩

/-- What a look for a key answers. -/
def gotV (o : Option EntV) : Value := .tuple #[.agg (entSh.cells (o.getD zeroE)).toArray, .bool o.isSome]

set_option maxRecDepth 100000 in
set_option maxHeartbeats 1000000 in
theorem specGet_any (w : World) (a : Option Addr) (n cap : Nat) (xs : List EntV) (key : ByteArray) (hr : entSh.Row w a n xs) (hn : n ≤ 1048576) :
    Calls Try.prog 21 #[.slice a n cap, .string key] w fun e w' => e = .returned (gotV (getE xs key)) ∧ Below w.heap.size w w' := by
  have hlen := hr.len
  have HR := hide hr
  clear hr
  go_enter Try.func21, Try.ntmps21
  go_wp2
  go_loopw [6] (fun i wr => ∃ (k : Nat), k ≤ n ∧ i = .int .i64 k ∧ Hid (getE (xs.take k) key = none) ∧ Hid (Blk5 wr w.heap.size zeroE) ∧ Hid (Below w.heap.size w wr)) (fun i _ => n - (intOf i).toNat)
  case atStart => exact ⟨0, by omega, rfl, hide rfl, hide (Blk5.new w zeroE), hide (al1 w _)⟩
  case round =>
    obtain ⟨k, hk, rfl, HG, HA, HB⟩ := hrel
    by_cases hlt : k < n
    · have hkf : k < xs.length := by omega
      obtain ⟨b, off, rfl, hbw, e0, e1, e2, e3, e4⟩ := ent_cells (HR.out.later HB.out) k hkf
      by_cases hq : (xs[k]).key = key
      · have t1 := str_eq _ _ hq
        have HE := hide (getE_here hkf HG.out hq)
        obtain ⟨z, hz⟩ : ∃ z, xs[k] = z := ⟨_, rfl⟩
        rw [hz] at e0 e1 e2 e3 e4 t1 HE
        clear hq hz
        obtain ⟨y0, y1, y2, y3, y4, f0, f1, f2, f3, f4⟩ := cells5 HA.out
        go_wp2
        refine bodyPost_ret (v := .tuple #[.agg #[.string z.key, .int .i64 z.seg, .int .i64 z.pos, .int .i64 z.len, .int .i64 z.bat], .bool true]) (by simp [results, Try.results21, go_sem, *]) rfl ⟨by rw [HE.out]; rfl, ?_⟩
        exact below_set5 HB.out (Nat.le_refl _) _ _ _ _ _
      · have t1 := str_ne _ _ hq
        have HE := hide (getE_none hkf HG.out hq)
        clear hq
        go_wp2
        go_roundw
        case rel => exact ⟨k + 1, by omega, by go_num, HE, HA, HB⟩
        case measure => first | (simp [intOf]; done) | (simp [intOf]; omega)
    · obtain rfl : k = n := by omega
      have HT : Hid (getE xs key = none) := hide (by have h := HG.out; rw [List.take_of_length_le (by omega)] at h; exact h)
      obtain ⟨y0, y1, y2, y3, y4, f0, f1, f2, f3, f4⟩ := cells5 HA.out
      clear HG
      go_wp2
      refine bodyPost_ret (v := .tuple #[.agg #[.string ⟨#[]⟩, .int .i64 0, .int .i64 0, .int .i64 0, .int .i64 0], .bool false]) (by simp [results, Try.results21, go_sem, *]) rfl ⟨by rw [HT.out]; rfl, ?_⟩
      exact below_set5 HB.out (Nat.le_refl _) _ _ _ _ _

end Go.Proofs.Ytdodlaindeclpaa
