/-
  What spec.DrawFrame and the laws' at answer: a short text; a byte. (Beside a draw of texts that lacks l1Once.)
-/
import Derived.Test.YtkcjlalkniaapaaDoorDrawT
namespace Go.Proofs.YtkcjlalkniaapaaDoor
open Go.RowKit
open Plain

set_option maxHeartbeats 400000 in
theorem once_any (n : Int) (w : World) (B : Nat) (a : Option Addr) (len cap : Nat) (zs : List Int) (st : Nat × Int) (hc : CurAt w B a len cap zs st) :
    Calls Tryd.prog 32 #[.pointer (some ⟨B, 0, none⟩), .int .i64 n] w fun e w' => e = .returned (.bool (lV zs n st == 0)) ∧ CurAt w' B a len cap zs (lS zs n st) ∧ w.grownBy w' (some B) := by
  have HC := hide hc
  clear hc
  go_enter Tryd.func32, Tryd.ntmps32
  go_wp2_with fail
  refine (below_any n w B a len cap zs st HC.out).mono ?_
  rintro e w1 ⟨rfl, hc1, hg1⟩
  have HC1 := hide hc1
  have HG1 := hide hg1
  clear hc1 hg1
  go_wp2
  go_ret
  exact ⟨rfl, HC1.out, HG1.out⟩

def szOf : Value → Nat
  | .string S => S.size
  | _ => 0
set_option maxRecDepth 100000 in
set_option maxHeartbeats 1000000 in
theorem drawFrame (w : World) (a : Option Addr) (len cap : Nat) (zs : List Int) (hc : CodeAt w a len zs) :
    Calls Tryd.prog 10 #[.slice a len cap] w fun e w' => (∃ S : ByteArray, e = .returned (.string S) ∧ S.size ≤ 201) ∧ Below w.heap.size w w' := by
  have HC := hide hc
  clear hc
  go_enter Tryd.func10, Tryd.ntmps10
  go_wp2_with fail
  refine (new_any w a len cap zs HC.out).mono ?_
  rintro e w1 ⟨rfl, hc1, hb1⟩
  have HC1 := hide hc1
  have HB1 := hide hb1
  clear hc1 hb1
  go_wp2_with fail
  refine (text_any 30 (by omega) (by omega) w1 w.heap.size a len cap zs (st0 zs) HC1.out).mono ?_
  rintro e w2 ⟨rfl, hc2, hg2⟩
  have hlen := tV_length zs 30 (st0 zs) (by omega)
  have HB2 := hide (below_cur HB1.out hg2)
  have HC2 := hide hc2
  clear hc2 hg2 HC1 HB1
  have hsz : (strOfNums (tV zs 30 (st0 zs))).size ≤ 30 := by rw [strOfNums_size]; omega
  generalize strOfNums (tV zs 30 (st0 zs)) = S0 at *
  generalize tE zs 30 (st0 zs) = st1 at *
  clear hlen
  go_wp2_with fail
  refine (once_any 10 w2 w.heap.size a len cap zs st1 HC2.out).mono ?_
  rintro e w3 ⟨rfl, hc3, hg3⟩
  have HB3 := hide (below_cur HB2.out hg3)
  have HC3 := hide hc3
  clear hc3 hg3 HC2 HB2
  generalize lS zs 10 st1 = st2 at *
  by_cases ho : (lV zs 10 st1 == 0) = true
  · rw [ho]
    clear ho
    go_wp2_with fail
    refine (below_any 2 w3 w.heap.size a len cap zs st2 HC3.out).mono ?_
    rintro e w4 ⟨rfl, _, hg4⟩
    have HB4 := hide (below_cur HB3.out hg4)
    have hl2 := lV_bd zs 2 st2 (by omega)
    clear hg4 HC3 HB3
    generalize lV zs 2 st2 = d at *
    go_wp2
    go_loop [4] (fun v => ∃ S : ByteArray, S.size ≤ 201 ∧ v = .string S) (fun v => 300 - szOf v)
    case atStart => exact ⟨S0, by omega, rfl⟩
    case round =>
      obtain ⟨S, hS, rfl⟩ := hrel
      by_cases hlt : (S.size : Int) < 200 + d
      · go_wp2
        go_round
        case rel => exact ⟨_, by simp [ByteArray.size_append]; show S.size + 1 ≤ 201; omega, rfl⟩
        case measure =>
          show 300 - (S ++ (⟨#[97]⟩ : ByteArray)).size < 300 - S.size
          rw [ByteArray.size_append, show (⟨#[97]⟩ : ByteArray).size = 1 from rfl]
          omega
      · go_wp2
        go_ret
        exact ⟨⟨S, rfl, hS⟩, HB4.out⟩
  · have ho' : (lV zs 10 st1 == 0) = false := by simpa using ho
    rw [ho']
    clear ho ho'
    go_wp2
    go_ret
    exact ⟨⟨S0, rfl, by omega⟩, HB3.out⟩

/-- What 'at' answers. -/
def atV (zs : List Int) (i : Nat) : Int := if i < zs.length then zs.getD i 0 else ((i : Int) * 37 + (zs.length : Int) * 11) % 256
theorem atV_bd (zs : List Int) (i : Nat) (h : ∀ j, 0 ≤ zs.getD j 0 ∧ zs.getD j 0 ≤ 255) : 0 ≤ atV zs i ∧ atV zs i ≤ 255 := by
  unfold atV
  split
  · exact h i
  · omega
set_option maxHeartbeats 1000000 in
theorem at_any (i : Nat) (hi : i ≤ 1000000) (w : World) (a : Option Addr) (len cap : Nat) (zs : List Int) (hc : CodeAt w a len zs) :
    Calls Tryd.prog 16 #[.slice a len cap, .int .i64 i] w fun e w' => e = .returned (.int .i64 (atV zs i)) ∧ w = w' := by
  have hs := hc.small
  have hz := hc.bytes i
  have hl := hc.size
  by_cases h : i < len
  · obtain ⟨b, off, rfl, hbw, hcell⟩ := hc.cells i h
    have HV : Hid (atV zs i = zs.getD i 0) := hide (by unfold atV; rw [if_pos (by omega)])
    generalize zs.getD i 0 = z at *
    clear hc
    go_enter Tryd.func16, Tryd.ntmps16
    go_wp2
    go_ret
    exact ⟨by rw [HV.out]; rfl, rfl⟩
  · have HV : Hid (atV zs i = ((i : Int) * 37 + (len : Int) * 11) % 256) := hide (by unfold atV; rw [if_neg (by omega), hl])
    clear hc hz hl
    go_enter Tryd.func16, Tryd.ntmps16
    go_wp2
    go_ret
    exact ⟨by rw [HV.out]; rfl, rfl⟩

theorem big_any (a : Option Addr) (len cap : Nat) (w : World) : Calls Tryd.prog 9 #[.slice a len cap] w fun e w' => e = .returned (.bool (decide (1048576 < len))) ∧ w = w' := by
  by_cases h : 1048576 < len
  · go_enter Tryd.func9, Tryd.ntmps9
    go_wp2
    go_ret
    exact ⟨by simp [h]; omega, rfl⟩
  · go_enter Tryd.func9, Tryd.ntmps9
    go_wp2
    go_ret
    exact ⟨by simp [h]; omega, rfl⟩

end Go.Proofs.YtkcjlalkniaapaaDoor
