/-
  The laws' markIntS.
-/
import Derived.Test.YthnealhaleccpabDoorIntBase
namespace Go.Proofs.YthnealhaleccpabDoor
open Go.RowKit
open Plain

/-- Numbers from k on. -/
def upI : Nat → Nat → List Int
  | 0, _ => []
  | n + 1, k => (k : Int) :: upI n (k + 1)
theorem upI_length (n : Nat) : ∀ k, (upI n k).length = n := by
  induction n with
  | zero => intro k; rfl
  | succ n ih => intro k; simp [upI, ih]
theorem upI_get (n : Nat) : ∀ k i, i < n → (upI n k)[i]? = some ((k + i : Nat) : Int) := by
  induction n with
  | zero => intro k i h; omega
  | succ n ih =>
    intro k i h
    cases i with
    | zero => rfl
    | succ i =>
      have := ih (k + 1) i (by omega)
      simp only [upI, List.getElem?_cons_succ, this]
      congr 1
      omega
theorem upI_take (n k i : Nat) (h : i < n) : (upI n k).take (i + 1) = (upI n k).take i ++ [((k + i : Nat) : Int)] := by
  have hl : i < (upI n k).length := by rw [upI_length]; exact h
  rw [List.take_succ_eq_append_getElem hl]
  have := upI_get n k i h
  rw [List.getElem?_eq_getElem hl] at this
  injection this with this
  rw [this]

set_option maxRecDepth 100000 in
set_option maxHeartbeats 1000000 in
theorem markIntS_any (w : World) (base : Nat) (a : Option Addr) (n cap : Nat) (zs : List Int) (ho : IOwn w base (.slice a n cap) zs) (hn : n ≤ 1099511627776) (k : Nat) (hk : k ≤ 4398046511104) :
    Calls Tryd.prog 36 #[.slice a n cap, .int .i64 k] w fun e w' => e = .returned (.int .i64 (k + n : Nat)) ∧ IOwn w' base (.slice a n cap) (upI n k) ∧ w.grownBy w' (Value.slice a n cap).ownBlock := by
  have HO := hide ho
  clear ho
  go_enter Tryd.func36, Tryd.ntmps36
  go_wp2
  go_loopw [1, 5] (fun v i wr => ∃ (j : Nat) (gs : List Int), j ≤ n ∧ i = .int .i64 j ∧ v = .int .i64 (k + j : Nat) ∧ Hid (gs.take j = (upI n k).take j) ∧ Hid (IOwn wr base (.slice a n cap) gs) ∧ Hid (w.grownBy wr (Value.slice a n cap).ownBlock)) (fun _ i _ => n - (intOf i).toNat)
  case atStart => exact ⟨0, zs, by omega, rfl, by simp, hide (by simp), HO, hide (grown_refl _ _)⟩
  case round =>
    clear HO
    obtain ⟨j, gs, hj, rfl, rfl, HE, HO, HG⟩ := hrel
    by_cases hlt : j < n
    · obtain ⟨g, rfl⟩ : ∃ g, a = some ⟨g, 0, none⟩ := by
        rcases HO.out.2 with ⟨e, h0⟩ | ⟨g, c, cur, e, _⟩
        · simp only [Value.slice.injEq] at e
          have := HO.out.len
          omega
        · simp only [Value.slice.injEq] at e
          exact ⟨g, e.1⟩
      have hgl := HO.out.len
      have HP := hide (HO.out.put j ((k + j : Nat) : Int))
      have hw := HO.out
      unfold IOwn at hw
      rw [HO.out.len] at hw
      have f1 := hw.frozenAt j
      have hgk : j < gs.length := by omega
      obtain ⟨b', o', q0, -, -, q1⟩ := HO.out.row.cells j hgk
      simp only [Option.some.injEq, Addr.mk.injEq] at q0
      obtain ⟨rfl, rfl, -⟩ := q0
      rw [Nat.zero_add] at q1
      have HE2 : Hid ((gs.set j ((k + j : Nat) : Int)).take (j + 1) = (upI n k).take (j + 1)) := hide (by
        rw [upI_take n k j hlt, ← HE.out, List.take_succ_eq_append_getElem (by rw [List.length_set]; omega), List.take_set_of_le (Nat.le_refl _)]
        simp)
      have HG2 := hide (grown_chain HG.out HP.out.2)
      clear hw HO HG HE
      generalize ht : k + j = t at *
      have HT : Hid ((t : Int) + 1 = ((k + (j + 1) : Nat) : Int)) := hide (by omega)
      have htb : t ≤ 8796093022208 := by omega
      clear ht
      go_wp2
      go_roundw
      case rel => exact ⟨j + 1, gs.set j (t : Int), by omega, by go_num, by rw [HT.out], HE2, hide HP.out.1, HG2⟩
      case measure => first | (simp [intOf]; done) | (simp [intOf]; omega)
    · obtain rfl : j = n := by omega
      have HM : Hid (gs = upI j k) := hide (by
        have h := HE.out
        rw [List.take_of_length_le (by rw [HO.out.len]; omega), List.take_of_length_le (by rw [upI_length]; omega)] at h
        exact h)
      go_wp2
      go_ret
      exact ⟨rfl, by rw [← HM.out]; exact HO.out, HG.out⟩

end Go.Proofs.YthnealhaleccpabDoor
