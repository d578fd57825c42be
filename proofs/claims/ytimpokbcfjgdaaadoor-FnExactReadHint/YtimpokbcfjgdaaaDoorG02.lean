/-
  Rows that stand while others are written, and a place in a block. The decimal numeral of an int, as spec.Dec makes it. What the laws' markText answers: the text of a number.
-/
import Derived.Test.YtimpokbcfjgdaaaDoorG00
import Derived.Below
import Derived.Lib.ItoaNum
namespace Go.Proofs.YtimpokbcfjgdaaaDoor
open Go.RowKit
open Plain

theorem own_later {w w' : World} {base e sz n K : Nat} {v : Value} {xs : List Value} (h : w.ownsRow base e sz v n xs) (hb : Below K w w') (hK : w.heap.size ≤ K) : w'.ownsRow base e sz v n xs := by
  refine ⟨h.1, ?_⟩
  rcases h.2 with h | ⟨g, c, cur, e, hbg, hg, h1⟩
  · exact .inl h
  · have hgl : g < w.heap.size := by
      rcases Nat.lt_or_ge g w.heap.size with h' | h'
      · exact h'
      · rw [Array.getElem?_eq_none h'] at hg; cases hg
    exact .inr ⟨g, c, cur, e, hbg, by rw [hb.block g (by omega)]; exact hg, h1⟩
theorem below_grown {w w' : World} (r : Option Nat) (h : Below w.heap.size w w') : w.grownBy w' r := ⟨h.os, h.tape, h.output, h.size, fun k hk _ => h.block k hk⟩
theorem grown_chain {a b c : World} {r : Option Nat} (h : a.grownBy b r) (k : b.grownBy c r) : a.grownBy c r :=
  ⟨k.os.trans h.os, k.tape.trans h.tape, k.output.trans h.output, Nat.le_trans h.size k.size, fun i hi hr => (k.block i (Nat.lt_of_lt_of_le hi h.size) hr).trans (h.block i hi hr)⟩
theorem grown_refl (w : World) (r : Option Nat) : w.grownBy w r := ⟨rfl, rfl, rfl, Nat.le_refl _, fun _ _ _ => rfl⟩
theorem addr_add (b off j : Nat) : (⟨b, off, none⟩ : Addr).add j = ⟨b, off + j, none⟩ := by unfold Addr.add; split <;> simp_all

end Go.Proofs.YtimpokbcfjgdaaaDoor
namespace Go.Proofs.YtimpokbcfjgdaaaDoor
open Go.RowKit
open Plain

/-- The digits of q, none of 0. -/
def dd (q : Nat) : List UInt8 := if q = 0 then [] else Lib.decDigits q
theorem dd_step (q : Nat) (h : q ≠ 0) : dd q = dd (q / 10) ++ [UInt8.ofNat (48 + q % 10)] := by
  unfold dd
  rw [if_neg h, Lib.decDigits]
  by_cases h1 : q < 10
  · rw [dif_pos h1, if_pos (by omega), show q % 10 = q from by omega]; rfl
  · rw [dif_neg h1, if_neg (by omega)]
theorem dd_len (k : Nat) : ∀ q, q < 10 ^ k → (dd q).length ≤ k := by
  induction k with
  | zero => intro q h; have : q = 0 := by simpa using h
            subst this; simp [dd]
  | succ k ih =>
    intro q h
    by_cases h0 : q = 0
    · subst h0; simp [dd]
    · rw [dd_step q h0, List.length_append]
      have := ih (q / 10) (by rw [Nat.pow_succ] at h; omega)
      simp
      omega
theorem dd_len20 (q : Nat) (h : q ≤ 9223372036854775808) : (dd q).length ≤ 20 := by
  have e : (10 : Nat) ^ 20 = 100000000000000000000 := by decide
  exact dd_len 20 q (by omega)
def itoaS (n : Int) : ByteArray := ⟨(Lib.itoa n).toArray⟩
theorem str_cons (d : Nat) (hd : d < 10) (l : List UInt8) : strOfNums [(48 : Int) + (d : Int)] ++ ⟨l.toArray⟩ = ⟨(UInt8.ofNat (48 + d) :: l).toArray⟩ := by
  have e : strOfNums [(48 : Int) + (d : Int)] = ⟨[UInt8.ofNat (48 + d)].toArray⟩ := by
    unfold strOfNums
    simp only [List.map_cons, List.map_nil]
    rw [show ((48 : Int) + (d : Int)).toNat = 48 + d from by omega]
  rw [e, ByteArray.mk_append_mk]
  rfl

theorem dd_pos (a : Nat) (h : 0 < a) : dd a = Lib.decDigits a := by unfold dd; rw [if_neg (by omega)]

end Go.Proofs.YtimpokbcfjgdaaaDoor
namespace Go.Proofs.YtimpokbcfjgdaaaDoor
open Go.RowKit
open Plain

/-- The text of a number. -/
def mt (k : Nat) : ByteArray := ⟨#[109]⟩ ++ ⟨(dd k).toArray⟩
set_option maxRecDepth 100000 in
set_option maxHeartbeats 400000 in
theorem markText_any (a : Nat) (w : World) (h0 : 0 < a) (h1 : a ≤ 9223372036854775807) :
    Calls Tryd.prog 47 #[.int .i64 a] w fun e w' => e = .returned (.string (mt a)) ∧ Below w.heap.size w w' := by
  have H20 := hide (dd_len20 a (by omega))
  go_enter Tryd.func47, Tryd.ntmps47
  go_wp2
  go_loopw [0, 3] (fun n o wr => ∃ (q : Nat) (l : List UInt8), q ≤ a ∧ n = .int .i64 q ∧ o = .string ⟨l.toArray⟩ ∧ Hid (dd a = dd q ++ l) ∧ Below w.heap.size w wr) (fun n _ _ => (intOf n).toNat)
  case atStart => exact ⟨a, [], by omega, rfl, rfl, hide (by simp), Below.refl _ _⟩
  case round =>
    obtain ⟨q, l, hq, rfl, rfl, HD, hB⟩ := hrel
    have hl : l.length ≤ 20 := by
      have e := congrArg List.length HD.out
      have := H20.out
      rw [List.length_append] at e
      omega
    have hsl : (ByteArray.mk l.toArray).size ≤ 20 := by simpa [ByteArray.size] using hl
    by_cases hz : q = 0
    · subst hz
      have HE : Hid (mt a = ⟨#[109]⟩ ++ ⟨l.toArray⟩) := hide (by unfold mt; rw [HD.out]; rfl)
      have hm : (ByteArray.mk #[109]).size ≤ 1 := by decide
      go_wp2
      go_ret
      exact ⟨by rw [HE.out]; rfl, hB⟩
    · have hq0 : (0 : Int) < (q : Int) := by omega
      have HS := hide (dd_step q hz)
      have hcv := cv_one wr
      have hsz : (strOfNums [(48 : Int) + (q : Int) % 10]).size ≤ 1 := by rw [strOfNums_size]; simp
      have HC : Hid (strOfNums [(48 : Int) + (q : Int) % 10] ++ ⟨l.toArray⟩ = ⟨(UInt8.ofNat (48 + q % 10) :: l).toArray⟩) := hide (str_cons (q % 10) (by omega) l)
      go_wp2
      go_roundw
      case rel => exact ⟨q / 10, UInt8.ofNat (48 + q % 10) :: l, by omega, by go_num, by rw [HC.out], hide (by rw [HD.out, HS.out]; simp), hB.alloc hB.size _⟩
      case measure => simp [intOf]; omega

end Go.Proofs.YtimpokbcfjgdaaaDoor
