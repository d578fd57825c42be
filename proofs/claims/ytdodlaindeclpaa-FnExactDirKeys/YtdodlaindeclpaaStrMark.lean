/-
  The laws' markStringS and heldStringS.
-/
import Derived.Test.YtdodlaindeclpaaStrBase
import Derived.Test.YtdodlaindeclpaaMarkT
import Derived.Test.YtdodlaindeclpaaRecBase
import Derived.Deep.RegionHeld
namespace Go.Proofs.Ytdodlaindeclpaa
open Go.RowKit
open Plain

/-- The texts of n numbers from k on. -/
def upS : Nat → Nat → List ByteArray
  | 0, _ => []
  | n + 1, k => mt k :: upS n (k + 1)
theorem upS_length (n : Nat) : ∀ k, (upS n k).length = n := by
  induction n with
  | zero => intro k; rfl
  | succ n ih => intro k; simp [upS, ih]
theorem upS_get (n : Nat) : ∀ k i, i < n → (upS n k)[i]? = some (mt (k + i)) := by
  induction n with
  | zero => intro k i h; omega
  | succ n ih =>
    intro k i h
    cases i with
    | zero => rfl
    | succ i =>
      have := ih (k + 1) i (by omega)
      simp only [upS, List.getElem?_cons_succ, this]
      congr 2
      omega
theorem upS_take (n k i : Nat) (h : i < n) : (upS n k).take (i + 1) = (upS n k).take i ++ [mt (k + i)] := by
  have hl : i < (upS n k).length := by rw [upS_length]; exact h
  rw [List.take_succ_eq_append_getElem hl]
  have := upS_get n k i h
  rw [List.getElem?_eq_getElem hl] at this
  injection this with this
  rw [this]

set_option maxRecDepth 100000 in
set_option maxHeartbeats 1000000 in
theorem markStringS_any (w : World) (base : Nat) (a : Option Addr) (n cap : Nat) (zs : List ByteArray) (ho : TOwn w base (.slice a n cap) zs) (hn : n ≤ 1099511627776) (k : Nat) (hk0 : 0 < k) (hk : k ≤ 1099511627776) :
    Calls Try.prog 31 #[.slice a n cap, .int .i64 k] w fun e w' => e = .returned (.int .i64 (k + n : Nat)) ∧ TOwn w' base (.slice a n cap) (upS n k) ∧ w.grownBy w' (Value.slice a n cap).ownBlock := by
  have HO := hide ho
  clear ho
  go_enter Try.func31, Try.ntmps31
  go_wp2
  go_loopw [1, 5] (fun v i wr => ∃ (j : Nat) (gs : List ByteArray), j ≤ n ∧ i = .int .i64 j ∧ v = .int .i64 (k + j : Nat) ∧ Hid (gs.take j = (upS n k).take j) ∧ Hid (TOwn wr base (.slice a n cap) gs) ∧ Hid (w.grownBy wr (Value.slice a n cap).ownBlock)) (fun _ i _ => n - (intOf i).toNat)
  case atStart => exact ⟨0, zs, by omega, rfl, by simp, hide (by simp), HO, hide (grown_refl _ _)⟩
  case round =>
    clear HO
    obtain ⟨j, gs, hj, rfl, rfl, HE, HO, HG⟩ := hrel
    by_cases hlt : j < n
    · obtain ⟨g, rfl⟩ : ∃ g, a = some ⟨g, 0, none⟩ := by
        rcases HO.out.2 with ⟨e, h0⟩ | ⟨g, c, cur, e, _⟩
        · simp only [Value.slice.injEq] at e
          have := HO.out.len
          omega
        · simp only [Value.slice.injEq] at e
          exact ⟨g, e.1⟩
      have HM := hide (markText_any (k + j) wr (by omega) (by omega))
      have HT : Hid (((k + j : Nat) : Int) + 1 = ((k + (j + 1) : Nat) : Int)) := hide (by omega)
      have HE2 : Hid ((gs.set j (mt (k + j))).take (j + 1) = (upS n k).take (j + 1)) := hide (by
        have hgl := HO.out.len
        rw [upS_take n k j hlt, ← HE.out, List.take_succ_eq_append_getElem (by rw [List.length_set]; omega), List.take_set_of_le (Nat.le_refl _)]
        simp)
      generalize ht : k + j = t at *
      have htb : t ≤ 8796093022208 := by omega
      clear ht HE
      go_wp2_with fail
      refine HM.out.mono ?_
      rintro e w2 ⟨rfl, hb2⟩
      have HO2 := hide (HO.out.later hb2 (Nat.le_refl _))
      have HP := hide (HO2.out.put j (mt t))
      have HG2 := hide (grown_chain (grown_chain HG.out (below_grown (Value.slice (some ⟨g, 0, none⟩) n cap).ownBlock hb2)) HP.out.2)
      have hw := HO2.out
      unfold TOwn at hw
      rw [HO2.out.len] at hw
      have f1 := hw.frozenAt j
      have hgk : j < gs.length := by have := HO2.out.len; omega
      obtain ⟨b', o', q0, -, -, q1⟩ := HO2.out.row.cells j hgk
      simp only [Option.some.injEq, Addr.mk.injEq] at q0
      obtain ⟨rfl, rfl, -⟩ := q0
      rw [Nat.zero_add] at q1
      clear hw HO HG HM hb2 HO2
      go_wp2
      go_roundw
      case rel => exact ⟨j + 1, gs.set j (mt t), by omega, by go_num, by rw [HT.out], HE2, hide HP.out.1, HG2⟩
      case measure => first | (simp [intOf]; done) | (simp [intOf]; omega)
    · obtain rfl : j = n := by omega
      have HM : Hid (gs = upS j k) := hide (by
        have h := HE.out
        rw [List.take_of_length_le (by rw [HO.out.len]; omega), List.take_of_length_le (by rw [upS_length]; omega)] at h
        exact h)
      go_wp2
      go_ret
      exact ⟨rfl, by rw [← HM.out]; exact HO.out, HG.out⟩

set_option maxRecDepth 100000 in
set_option maxHeartbeats 1000000 in
theorem heldStringS_any (w : World) (a : Option Addr) (n cap : Nat) (hn : n ≤ 1099511627776) (k : Nat) (hk0 : 0 < k) (hk : k ≤ 1099511627776) (hr : TRow w 0 a n (upS n k)) :
    Calls Try.prog 32 #[.slice a n cap, .int .i64 k] w fun e w' => e = .returned (.int .i64 (k + n : Nat)) ∧ Below w.heap.size w w' := by
  have HR := hide hr
  clear hr
  go_enter Try.func32, Try.ntmps32
  go_wp2
  go_loopw [1, 5] (fun v i wr => ∃ j : Nat, j ≤ n ∧ i = .int .i64 j ∧ v = .int .i64 (k + j : Nat) ∧ Hid (Below w.heap.size w wr)) (fun _ i _ => n - (intOf i).toNat)
  case atStart => exact ⟨0, by omega, rfl, by simp, hide (Below.refl _ _)⟩
  case round =>
    obtain ⟨j, hj, rfl, rfl, HB⟩ := hrel
    by_cases hlt : j < n
    · have hju : j < (upS n k).length := by rw [upS_length]; exact hlt
      obtain ⟨b, off, rfl, -, hbw, e1⟩ := (HR.out.later HB.out (Nat.le_refl _)).cells j hju
      have hg := upS_get n k j hlt
      rw [List.getElem?_eq_getElem hju] at hg
      injection hg with hg
      rw [hg] at e1
      have HM := hide (fun W => markText_any (k + j) W (by omega) (by omega))
      have HT : Hid (((k + j : Nat) : Int) + 1 = ((k + (j + 1) : Nat) : Int)) := hide (by omega)
      have htb : k + j ≤ 8796093022208 := by omega
      clear hg hju
      generalize k + j = t at *
      have k1 := str_eq (mt t) (mt t) rfl
      have hj2 : (j : Int) < (n : Int) := by omega
      have HL : Hid (∀ W, Below wr.heap.size wr W → W.cell? ⟨b, off + j, none⟩ = some (.string (mt t))) := hide (fun W h => by
        rw [h.cell (by assumption)]; assumption)
      have S1 := HL.out wr.drew (Below.refl _ _).drew
      clear e1
      go_wp2
      go_region_held (fun w' => w'.cell? ⟨b, off + j, none⟩ = some (.string (mt t))) (assumption) ((go_at_call 46; refine (HM.out _).mono ?_; rintro e w4 ⟨rfl, hb4⟩; have hS4 := HL.out w4 ((Below.refl _ wr).drew.trans hb4)))
      have HB4 := hide (HB.out.trans (((Below.refl wr.heap.size wr).drew.trans hb4).mono HB.out.size))
      clear hb4 S1 hS4 HL HM
      go_wp2
      go_roundw
      case rel => exact ⟨j + 1, by omega, by go_num, by rw [HT.out], HB4⟩
      case measure => first | (simp [intOf]; done) | (simp [intOf]; omega)
    · obtain rfl : j = n := by omega
      go_wp2
      go_ret
      exact ⟨rfl, HB.out⟩

end Go.Proofs.Ytdodlaindeclpaa
