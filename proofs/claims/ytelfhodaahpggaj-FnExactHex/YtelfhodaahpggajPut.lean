/-
  What impl.putBehind does: it lays the bytes that it is handed over the row from the place 'at' on, and tells the place behind them.
-/
import Derived.Test.YtelfhodaahpggajProg
import Derived.Test.YtelfhodaahpggajMath
import Derived.WalkKit
import Derived.Laws.CopyOwn
namespace Go.Proofs.Ytelfhodaahpggaj
open Go.RowKit
open Plain

theorem Try.size5 : (Try.prog.info? 5).map (·.size) = some 1 := by kernel_rfl

set_option maxHeartbeats 400000 in
theorem put_any (g N at' : Nat) (cur : List Value) (ad : Addr) (m : Nat) (cs : List Value) (w : World) (hg : w.heap[g]? = some (.cells cur.toArray 5 (0, 0))) (hN : cur.length = N) (hN2 : N ≤ 4194304)
    (hm : cs.length = m) (hm0 : 0 < m) (hfit : at' + m ≤ N) (hsrc : ∀ j v, cs[j]? = some v → w.cell? (ad.add j) = some v) (h1 : ∀ v ∈ cs, v.oneCell' = true) :
    Calls Try.prog 19 #[.slice (some ⟨g, 0, none⟩) N N, .int .i64 at', .slice (some ad) m m] w fun e w' => e = .returned (.int .i64 ((at' : Int) + (m : Int))) ∧ w' = w.setRow g (splice cur at' cs).toArray := by
  have hcp : (Builtin.copy_ #[34, 34] 3 #[.slice (some ⟨g, at', none⟩) (N - at') (N - at'), .slice (some ad) m m]).run Try.prog w = .ok (.int .i64 (m : Int)) (w.setRow g (splice cur at' cs).toArray) := by
    have h := run_copy_row (P := Try.prog) w 34 34 3 5 g at' (N - at') (N - at') ad m m cur.toArray 5 cs Try.underlying34 Try.size5 hg (by rw [hm]; exact (Nat.min_eq_left (by omega)).symm) hsrc (by simp [hN, hm]; omega) h1
    rw [h, hm]
    simp [goInt, splice, hm]
  clear hg hsrc h1
  generalize w.setRow g (splice cur at' cs).toArray = wz at *
  clear hN hm
  go_enter Try.func19, Try.ntmps19
  go_wp2
  go_ret
  exact ⟨rfl, rfl⟩

end Go.Proofs.Ytelfhodaahpggaj
