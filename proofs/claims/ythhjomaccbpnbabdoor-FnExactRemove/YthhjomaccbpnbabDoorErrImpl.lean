/-
  The five errors of the disk: where they lie; impl.diskCode and impl.ready.
-/
import Derived.Test.YthhjomaccbpnbabDoorSents
import Derived.Test.YthhjomaccbpnbabDoorDiskOkImpl
import Derived.Test.YthhjomaccbpnbabDoorBeginSpec
namespace Go.Proofs.YthhjomaccbpnbabDoor
open Go.RowKit
open Plain

/-- Where the five errors lie. -/
structure SentA where
  args : Addr
  has : Addr
  full : Addr
  down : Addr
  none : Addr
def SentA.at_ (A : SentA) (c : Int) : Addr := if c = 1 then A.down else if c = 2 then A.full else if c = 3 then A.none else if c = 4 then A.has else A.args
def errV (A : SentA) (c : Int) : Value := if c = 0 then .nilIface else .iface 118 (.pointer (some (A.at_ c)))
/-- A world in which the five variables hold them. -/
structure SentIn (w : World) (A : SentA) : Prop where
  cArgs : w.cell? ⟨0, 0, .none⟩ = some (.iface 118 (.pointer (some A.args)))
  cHas : w.cell? ⟨1, 0, .none⟩ = some (.iface 118 (.pointer (some A.has)))
  cFull : w.cell? ⟨2, 0, .none⟩ = some (.iface 118 (.pointer (some A.full)))
  cDown : w.cell? ⟨3, 0, .none⟩ = some (.iface 118 (.pointer (some A.down)))
  cNone : w.cell? ⟨4, 0, .none⟩ = some (.iface 118 (.pointer (some A.none)))
  bArgs : ∃ c t, w.heap[A.args.block]? = some (.cells c t (0, 0))
  bHas : ∃ c t, w.heap[A.has.block]? = some (.cells c t (0, 0))
  bFull : ∃ c t, w.heap[A.full.block]? = some (.cells c t (0, 0))
  bDown : ∃ c t, w.heap[A.down.block]? = some (.cells c t (0, 0))
  bNone : ∃ c t, w.heap[A.none.block]? = some (.cells c t (0, 0))
  ne : [A.args, A.has, A.full, A.down, A.none].Nodup
theorem cell_lt {w : World} {p : Addr} {v : Value} (h : w.cell? p = some v) : p.block < w.heap.size := by
  rcases Nat.lt_or_ge p.block w.heap.size with h' | h'
  · exact h'
  · simp [World.cell?, Array.getElem?_eq_none h'] at h
theorem blk_lt {w : World} {b : Nat} {o : Obj} (h : w.heap[b]? = some o) : b < w.heap.size := (Array.getElem?_eq_some_iff.1 h).1
theorem SentIn.later {w w' : World} {A : SentA} {K : Nat} (h : SentIn w A) (hb : Below K w w') (hK : w.heap.size ≤ K) : SentIn w' A where
  cArgs := by rw [hb.cell (Nat.lt_of_lt_of_le (cell_lt h.cArgs) hK)]; exact h.cArgs
  cHas := by rw [hb.cell (Nat.lt_of_lt_of_le (cell_lt h.cHas) hK)]; exact h.cHas
  cFull := by rw [hb.cell (Nat.lt_of_lt_of_le (cell_lt h.cFull) hK)]; exact h.cFull
  cDown := by rw [hb.cell (Nat.lt_of_lt_of_le (cell_lt h.cDown) hK)]; exact h.cDown
  cNone := by rw [hb.cell (Nat.lt_of_lt_of_le (cell_lt h.cNone) hK)]; exact h.cNone
  bArgs := by obtain ⟨c, t, h1⟩ := h.bArgs; exact ⟨c, t, (hb.block _ (Nat.lt_of_lt_of_le (blk_lt h1) hK)).trans h1⟩
  bHas := by obtain ⟨c, t, h1⟩ := h.bHas; exact ⟨c, t, (hb.block _ (Nat.lt_of_lt_of_le (blk_lt h1) hK)).trans h1⟩
  bFull := by obtain ⟨c, t, h1⟩ := h.bFull; exact ⟨c, t, (hb.block _ (Nat.lt_of_lt_of_le (blk_lt h1) hK)).trans h1⟩
  bDown := by obtain ⟨c, t, h1⟩ := h.bDown; exact ⟨c, t, (hb.block _ (Nat.lt_of_lt_of_le (blk_lt h1) hK)).trans h1⟩
  bNone := by obtain ⟨c, t, h1⟩ := h.bNone; exact ⟨c, t, (hb.block _ (Nat.lt_of_lt_of_le (blk_lt h1) hK)).trans h1⟩
  ne := h.ne
/-- errors.Is of one of the five against another one of the five. -/
theorem is_code (w : World) (A : SentA) (h : SentIn w A) (c k : Int) (hc : 1 ≤ c ∧ c ≤ 5) (hk : 1 ≤ k ∧ k ≤ 5) :
    Calls Tryd.prog 54 #[.iface 118 (.pointer (some (A.at_ c))), .iface 118 (.pointer (some (A.at_ k)))] w fun e w' => e = .returned (.bool (decide (c = k))) ∧ w' = w := by
  have hblk : ∀ z : Int, ∃ q t, w.heap[(A.at_ z).block]? = some (.cells q t (0, 0)) := fun z => by
    unfold SentA.at_
    by_cases h1 : z = 1
    · rw [if_pos h1]; exact h.bDown
    · rw [if_neg h1]
      by_cases h2 : z = 2
      · rw [if_pos h2]; exact h.bFull
      · rw [if_neg h2]
        by_cases h3 : z = 3
        · rw [if_pos h3]; exact h.bNone
        · rw [if_neg h3]
          by_cases h4 : z = 4
          · rw [if_pos h4]; exact h.bHas
          · rw [if_neg h4]; exact h.bArgs
  by_cases e : c = k
  · subst e
    rw [decide_eq_true rfl]
    exact is_same _ w
  · rw [decide_eq_false e]
    obtain ⟨q1, t1, h1⟩ := hblk c
    obtain ⟨q2, t2, h2⟩ := hblk k
    refine is_other _ _ q1 q2 t1 t2 w ?_ h1 h2
    have hn := h.ne
    simp only [List.nodup_cons, List.mem_cons, List.not_mem_nil, or_false, not_or, List.nodup_nil, and_true, not_false_iff] at hn
    obtain ⟨⟨n1, n2, n3, n4⟩, ⟨n5, n6, n7⟩, ⟨n8, n9⟩, n10⟩ := hn
    obtain rfl | rfl | rfl | rfl | rfl : c = 1 ∨ c = 2 ∨ c = 3 ∨ c = 4 ∨ c = 5 := by omega
    all_goals obtain rfl | rfl | rfl | rfl | rfl : k = 1 ∨ k = 2 ∨ k = 3 ∨ k = 4 ∨ k = 5 := by omega
    all_goals first | exact absurd rfl e | (simp [SentA.at_]; done) | (simp [SentA.at_]; assumption) | (simp [SentA.at_]; exact fun q => by simp_all)

end Go.Proofs.YthhjomaccbpnbabDoor
