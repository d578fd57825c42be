/-
  impl.showText, and blocks that stand.
-/
import Derived.Test.YtimpokbcfjgdaaaDoorRecNum
import Derived.Deep.RegionHeld3
namespace Go.Proofs.YtimpokbcfjgdaaaDoor
open Go.RowKit
open Plain

theorem textS_size (s : ByteArray) : (textS s).size ≤ 7 + s.size := by
  unfold textS
  rw [ByteArray.size_append]
  have := varS_size (s.size : Int)
  omega
set_option maxRecDepth 100000 in
set_option maxHeartbeats 1000000 in
theorem showText_any (s : ByteArray) (hs : s.size ≤ 1048576) : Ans 23 #[.string s] (.string (textS s)) := by
  intro w
  have h7 := varS_size (s.size : Int)
  have HV := hide (implVar_any (s.size : Int))
  have HT : Hid (textS s = varS (s.size : Int) ++ s) := hide rfl
  generalize varS (s.size : Int) = v at *
  go_enter Tryd.func23, Tryd.ntmps23
  go_wp2_with fail
  refine (HV.out _).mono ?_
  rintro e w1 ⟨rfl, hb1⟩
  go_wp2
  go_ret
  exact ⟨by rw [HT.out]; rfl, hb1⟩

/-- Block B holds these cells; what was there in w is untouched. -/
structure BlkAt (w : World) (B : Nat) (T : TypeId) (cs : Array Value) (W : World) : Prop where
  row : W.heap[B]? = some (.cells cs T (0, 0))
  bel : Below w.heap.size w W
theorem BlkAt.later {w : World} {B : Nat} {T : TypeId} {cs : Array Value} {W W' : World} (h : BlkAt w B T cs W) (hb : Below W.heap.size W W') : BlkAt w B T cs W' :=
  ⟨(hb.block _ (lt_of_block h.row)).trans h.row, h.bel.trans (hb.mono h.bel.size)⟩
theorem BlkAt.new (w : World) (T : TypeId) (cs : Array Value) : BlkAt w w.heap.size T cs (w.alloc (.cells cs T)) := ⟨heap_alloc_new w _, al1 w _⟩
theorem BlkAt.cell {w : World} {B : Nat} {T : TypeId} {cs : Array Value} {W : World} (h : BlkAt w B T cs W) (i : Nat) : W.cell? ⟨B, i, none⟩ = cs[i]? := by rw [cell_of_row W B i _ _ _ h.row]
theorem BlkAt.keep {w : World} {B : Nat} {T : TypeId} {cs : Array Value} {f : FuncId} {args : Array Value} {v : Value} (h : Ans f args v) (W : World) (hW : Hid (BlkAt w B T cs W)) :
    Calls Tryd.prog f args W fun e w' => e = .returned v ∧ BlkAt w B T cs w' :=
  (h W).mono fun _ _ ⟨h1, h2⟩ => ⟨h1, hW.out.later h2⟩
theorem BlkAt.two {w : World} {B : Nat} {T : TypeId} {a b : Value} {W : World} (h : BlkAt w B T #[a, b] W) : W.cell? ⟨B, 0, none⟩ = some a ∧ W.cell? ⟨B, 1, none⟩ = some b ∧ Hid (BlkAt w B T #[a, b] W) := ⟨h.cell 0, h.cell 1, hide h⟩

end Go.Proofs.YtimpokbcfjgdaaaDoor
