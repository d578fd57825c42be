/-
  What impl.putBehind does: it lays the bytes that it is handed behind those that a row of the call's own already bears, and tells the place behind them.
-/
import Derived.Test.YtimpokbcfjgdaaaDoorCore
namespace Go.Proofs.YtimpokbcfjgdaaaDoor
open Go.RowKit
open Plain

set_option maxHeartbeats 400000 in
theorem put_any (g N at' : Nat) (cur : List Value) (ad : Addr) (m : Nat) (cs : List Value) (w : World) (hg : w.heap[g]? = some (.cells cur.toArray 5 (0, 0))) (hN : cur.length = N) (hN2 : N ≤ 4194304)
    (hm : cs.length = m) (hm0 : 0 < m) (hfit : at' + m ≤ N) (hsrc : ∀ j v, cs[j]? = some v → w.cell? (ad.add j) = some v) (h1 : ∀ v ∈ cs, v.oneCell' = true) :
    Calls Tryd.prog 40 #[.slice (some ⟨g, 0, none⟩) N N, .int .i64 at', .slice (some ad) m m] w fun e w' => e = .returned (.int .i64 ((at' : Int) + (m : Int))) ∧ w' = w.setRow g (splice cur at' cs).toArray := by
  have hcp : (Builtin.copy_ #[46, 46] 3 #[.slice (some ⟨g, at', none⟩) (N - at') (N - at'), .slice (some ad) m m]).run Tryd.prog w = .ok (.int .i64 (m : Int)) (w.setRow g (splice cur at' cs).toArray) := by
    have h := run_copy_row (P := Tryd.prog) w 46 46 3 5 g at' (N - at') (N - at') ad m m cur.toArray 5 cs Tryd.underlying46 Tryd.size5 hg (by rw [hm]; exact (Nat.min_eq_left (by omega)).symm) hsrc (by simp [hN, hm]; omega) h1
    rw [h, hm]
    simp [goInt, splice, hm]
  clear hg hsrc h1
  generalize w.setRow g (splice cur at' cs).toArray = wz at *
  clear hN hm
  go_enter Tryd.func40, Tryd.ntmps40
  go_wp2
  go_ret
  exact ⟨rfl, rfl⟩

/-- impl.putBehind on a row of the call's own, at the end of what is filled. -/
theorem put_row (g N B m : Nat) (p r : List Int) (w wr : World) (hm : r.length = m) (hm0 : 0 < m) (hfit : p.length + m ≤ N) (hN : N ≤ 4194304) (HR : Hid (wr.heap[g]? = some (.cells (rowOf N p).toArray 5 (0, 0)))) (hB : Below B w wr) (hBw : B ≤ wr.heap.size) (hBg : B ≤ g) :
    Calls Tryd.prog 40 #[.slice (some ⟨g, 0, none⟩) N N, .int .i64 p.length, .slice (some ⟨wr.heap.size, 0, none⟩) m m] (wr.alloc (.cells (r.map (Value.int .u8)).toArray 5))
      fun e w' => e = .returned (.int .i64 ((p.length : Int) + (m : Int))) ∧ Hid (w'.heap[g]? = some (.cells (rowOf N (p ++ r)).toArray 5 (0, 0))) ∧ Below B w w' := by
  have hg2 : (wr.alloc (.cells (r.map (Value.int .u8)).toArray 5)).heap[g]? = some (.cells (rowOf N p).toArray 5 (0, 0)) := by rw [Below.heap_alloc _ _ _ (lt_of_block HR.out)]; exact HR.out
  refine (put_any g N p.length (rowOf N p) ⟨wr.heap.size, 0, none⟩ m (r.map (Value.int .u8)) _ hg2 (rowOf_len _ _ (by omega)) hN (by simpa using hm) hm0 hfit (src_row wr r) (one_row r)).mono ?_
  rintro e w2 ⟨rfl, rfl⟩
  refine ⟨rfl, hide ?_, below_setRow (hB.alloc hBw _) hBg _⟩
  rw [← rowOf_step N p r (by omega)]
  exact setRow_heap _ _ _ _ _ _ hg2
theorem put1 (g N B : Nat) (p : List Int) (x : Int) (w wr : World) (hfit : p.length + 1 ≤ N) (hN : N ≤ 4194304) (HR : Hid (wr.heap[g]? = some (.cells (rowOf N p).toArray 5 (0, 0)))) (hB : Below B w wr) (hBw : B ≤ wr.heap.size) (hBg : B ≤ g) :
    Calls Tryd.prog 40 #[.slice (some ⟨g, 0, none⟩) N N, .int .i64 p.length, .slice (some ⟨wr.heap.size, 0, none⟩) 1 1] (wr.alloc (.cells #[.int .u8 x] 5))
      fun e w' => e = .returned (.int .i64 ((p.length : Int) + 1)) ∧ Hid (w'.heap[g]? = some (.cells (rowOf N (p ++ [x])).toArray 5 (0, 0))) ∧ Below B w w' :=
  put_row g N B 1 p [x] w wr rfl (by omega) hfit hN HR hB hBw hBg
theorem put2 (g N B : Nat) (p : List Int) (x y : Int) (w wr : World) (hfit : p.length + 2 ≤ N) (hN : N ≤ 4194304) (HR : Hid (wr.heap[g]? = some (.cells (rowOf N p).toArray 5 (0, 0)))) (hB : Below B w wr) (hBw : B ≤ wr.heap.size) (hBg : B ≤ g) :
    Calls Tryd.prog 40 #[.slice (some ⟨g, 0, none⟩) N N, .int .i64 p.length, .slice (some ⟨wr.heap.size, 0, none⟩) 2 2] (wr.alloc (.cells #[.int .u8 x, .int .u8 y] 5))
      fun e w' => e = .returned (.int .i64 ((p.length : Int) + 2)) ∧ Hid (w'.heap[g]? = some (.cells (rowOf N (p ++ [x, y])).toArray 5 (0, 0))) ∧ Below B w w' :=
  put_row g N B 2 p [x, y] w wr rfl (by omega) hfit hN HR hB hBw hBg

end Go.Proofs.YtimpokbcfjgdaaaDoor
