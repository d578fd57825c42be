/-
  impl.ReadRec at every text: the right record of which ShowRec makes it, or none.
-/
import Derived.Test.YtkcjlalkniaapaaDoorReadImpl
namespace Go.Proofs.YtkcjlalkniaapaaDoor
open Go.RowKit
open Plain

/-- At this text f answers the record, or that there is none. -/
def ReadsR (f : FuncId) (s : ByteArray) : Prop :=
  ∃ r ok, RR s r ok ∧ Ans f #[.string s] (.tuple #[.agg #[.int .i64 r.kind, .int .i64 r.batch, .string r.key, .string r.val, .int .i64 r.cnt, .int .i64 r.sum], .bool ok])

theorem read_all (s : ByteArray) (hs : s.size ≤ 1048576) (t : TypeId) (v : Value) (s' : ByteArray) (F : Bool) (hT : TakesV s (.iface t v) s' F) (hC : Clean s ↔ F = false ∧ s'.size = 0)
    (hR : Ans 79 #[.iface t v, .int .i64 ((rv (numT s)).1 : Nat)] (.agg #[.int .i64 (parse s).kind, .int .i64 (parse s).batch, .string (parse s).key, .string (parse s).val, .int .i64 (parse s).cnt, .int .i64 (parse s).sum])) : ReadsR 70 s := by
  cases F with
  | true => exact ⟨zeroR, false, RR_unclean s (fun h => by have := (hC.1 h).1; cases this), read_failed s hs s' t v hT⟩
  | false =>
    by_cases h0 : s'.size = 0
    · have hc : Clean s := hC.2 ⟨rfl, h0⟩
      have hO := implRecOk_any (parse s)
      cases h : recOkB (parse s) with
      | true =>
        rw [h] at hO
        exact ⟨parse s, true, RR_yes s hc h, read_rec s hs s' t v _ _ _ _ _ _ hT h0 hR hO⟩
      | false =>
        rw [h] at hO
        exact ⟨zeroR, false, RR_wrong s h, read_not s hs s' t v _ _ _ _ _ _ hT h0 hR hO⟩
    · exact ⟨zeroR, false, RR_unclean s (fun h => h0 (hC.1 h).2), read_left s hs s' t v hT h0⟩

theorem implRead_any (s : ByteArray) (hs : s.size ≤ 1048576) : ReadsR 70 s := by
  have z1 : (numT (numT s)).size ≤ 1048576 := by rw [numT_size, numT_size]; omega
  by_cases k1 : (rv s).1 = 1
  · have e1 : (((rv s).1 : Nat) : Int) = 1 := by omega
    have hp : parse s = ⟨1, (rv (numT s)).1, txtV (numT (numT s)), txtV (txtR (numT (numT s))), 0, 0⟩ := by unfold parse; rw [if_pos (Or.inl k1), e1]
    refine read_all s hs _ _ _ _ (fun w W B h => by rw [e1]; exact takeBody_1 w W B _ _ h z1) ?_ ?_
    · unfold Clean
      rw [if_pos (Or.inl k1)]
      simp only [Bool.or_eq_false_iff, decide_eq_false_iff_not, ne_eq, and_assoc, true_and]
    · rw [hp]
      simp only
      exact fun W => recOf_1 ((rv (numT s)).1 : Nat) (txtV (numT (numT s))) (txtV (txtR (numT (numT s)))) W
  by_cases k4 : (rv s).1 = 4
  · have e1 : (((rv s).1 : Nat) : Int) = 4 := by omega
    have hp : parse s = ⟨4, (rv (numT s)).1, txtV (numT (numT s)), txtV (txtR (numT (numT s))), 0, 0⟩ := by unfold parse; rw [if_pos (Or.inr k4), e1]
    refine read_all s hs _ _ _ _ (fun w W B h => by rw [e1]; exact takeBody_4 w W B _ _ h z1) ?_ ?_
    · unfold Clean
      rw [if_pos (Or.inr k4)]
      simp only [Bool.or_eq_false_iff, decide_eq_false_iff_not, ne_eq, and_assoc, true_and]
    · rw [hp]
      simp only
      exact fun W => recOf_4 ((rv (numT s)).1 : Nat) (txtV (numT (numT s))) (txtV (txtR (numT (numT s)))) W
  have k14 : ¬ ((rv s).1 = 1 ∨ (rv s).1 = 4) := by omega
  by_cases k2 : (rv s).1 = 2
  · have e1 : (((rv s).1 : Nat) : Int) = 2 := by omega
    have hp : parse s = ⟨2, (rv (numT s)).1, txtV (numT (numT s)), ⟨#[]⟩, 0, 0⟩ := by unfold parse; rw [if_neg k14, if_pos k2, e1]
    refine read_all s hs _ _ _ _ (fun w W B h => by rw [e1]; exact takeBody_2 w W B _ _ h z1) ?_ ?_
    · unfold Clean
      rw [if_neg k14, if_pos k2]
      simp only [Bool.or_eq_false_iff, decide_eq_false_iff_not, ne_eq, and_assoc, true_and]
    · rw [hp]
      simp only
      exact fun W => recOf_2 ((rv (numT s)).1 : Nat) (txtV (numT (numT s))) W
  by_cases k3 : (rv s).1 = 3
  · have e1 : (((rv s).1 : Nat) : Int) = 3 := by omega
    have hp : parse s = ⟨3, (rv (numT s)).1, ⟨#[]⟩, ⟨#[]⟩, (rv (numT (numT s))).1, sumV (numT (numT (numT s)))⟩ := by unfold parse; rw [if_neg k14, if_neg k2, e1]
    refine read_all s hs _ _ _ _ (fun w W B h => by rw [e1]; exact takeBody_3 w W B _ _ h z1) ?_ ?_
    · unfold Clean
      rw [if_neg k14, if_neg k2]
      simp only [Bool.or_eq_false_iff, decide_eq_false_iff_not, ne_eq, and_assoc, true_and]
    · rw [hp]
      simp only
      exact fun W => recOf_3 ((rv (numT s)).1 : Nat) ((rv (numT (numT s))).1 : Nat) (sumV (numT (numT (numT s))) : Nat) W
  by_cases k5 : (rv s).1 = 5
  · have e1 : (((rv s).1 : Nat) : Int) = 5 := by omega
    have hp : parse s = ⟨5, (rv (numT s)).1, ⟨#[]⟩, ⟨#[]⟩, (rv (numT (numT s))).1, sumV (numT (numT (numT s)))⟩ := by unfold parse; rw [if_neg k14, if_neg k2, e1]
    refine read_all s hs _ _ _ _ (fun w W B h => by rw [e1]; exact takeBody_5 w W B _ _ h z1) ?_ ?_
    · unfold Clean
      rw [if_neg k14, if_neg k2]
      simp only [Bool.or_eq_false_iff, decide_eq_false_iff_not, ne_eq, and_assoc, true_and]
    · rw [hp]
      simp only
      exact fun W => recOf_5 ((rv (numT s)).1 : Nat) ((rv (numT (numT s))).1 : Nat) (sumV (numT (numT (numT s))) : Nat) W
  refine ⟨zeroR, false, RR_wrong s ?_, read_nil s hs _ _ (fun w W B h => takeBody_none _ w W B _ _ h (by omega) (by omega) (by omega) (by omega) (by omega))⟩
  have hp : parse s = ⟨((rv s).1 : Nat), (rv (numT s)).1, ⟨#[]⟩, ⟨#[]⟩, (rv (numT (numT s))).1, sumV (numT (numT (numT s)))⟩ := by unfold parse; rw [if_neg k14, if_neg k2]
  rw [hp]
  unfold recOkB
  simp only
  exact okN_no (by unfold RecOkP; omega)

end Go.Proofs.YtkcjlalkniaapaaDoor
