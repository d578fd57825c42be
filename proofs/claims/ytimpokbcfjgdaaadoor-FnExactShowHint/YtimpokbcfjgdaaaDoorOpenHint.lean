/-
  A hint that comes in as an argument.
-/
import Derived.Test.YtimpokbcfjgdaaaDoorHintLaw
namespace Go.Proofs.YtimpokbcfjgdaaaDoor
open Go.RowKit
open Plain

theorem cellsLHT : Tryd.prog.cellsOf 24 = 3 := by kernel_rfl
theorem cellsLESh : Tryd.prog.cellsOf 22 = 1 := by kernel_rfl
theorem cells3h' : Tryd.prog.cellsOf 3 = 1 := by kernel_rfl

set_option maxRecDepth 100000 in
theorem open_hint {H : Type} {enc : TypeId × Value → H} {w : World} {base : Nat} {spare : Nat → Bool} {held : Bool} {fuel : Nat} {cs : List Value} {x : DataW H × List MemPlace} (h : DataW.trod enc Tryd.prog w base spare held fuel 24 cs = some x) :
    ∃ (x m : Int) (a : Option Addr) (n cap : Nat) (fs : List EntV), cs = [.int .i64 x, .int .i64 m, .slice a n cap] ∧ entSh.Row w a n fs ∧ EFits fs ∧ n ≤ maxLen := by
  obtain ⟨xs, n, _, _, hl, hlen, hf⟩ := DataW.trod_struct Tryd.underlying24 h
  rw [cellsLHT] at hl
  match xs, hlen, cs, hl with
  | [y0, y1, y2], _, [v0, v1, v2], _ =>
    obtain ⟨c, e1, _, z1⟩ := DataW.trod_int Tryd.underlying3 (by simpa using hf 0 _ rfl)
    obtain ⟨u, e2, _, z2⟩ := DataW.trod_int Tryd.underlying3 (by simpa using hf 1 _ rfl)
    obtain ⟨a, m, cap, fs, e0, hr, hfit, hm⟩ := open_ents (by simpa using hf 2 _ rfl)
    simp [cellsLESh, cells3h'] at e0 e1 e2
    subst e0; subst e1; subst e2
    exact ⟨c, u, a, m, cap, fs, rfl, hr, hfit, hm⟩

end Go.Proofs.YtimpokbcfjgdaaaDoor
