/-
  spec.DirKeys.
-/
import Derived.Test.YtnckdfidehbcaaaDirPlain
import Derived.Test.YtnckdfidehbcaaaStrBase
namespace Go.Proofs.Ytnckdfidehbcaaa
open Go.RowKit
open Plain

/-- 'out = append(out, z)', out a row of texts of the call's own: a law for the walk. -/
theorem wpList_app_text {ops : Array Oper} {rest : List Oper} {o : Oper} {act : Act} {Q : Exit → Act → World → Prop} (hgd : o.guard = none) (s x : Operand)
    (ho : o.op = .call { callee := .builtin .append, args := #[s, x], argTypes := #[34, 34] }) {w : World} {base : Nat} {v : Value} {zs : List ByteArray} (z : ByteArray) (hown : TOwn w base v zs) (hb : base ≤ w.heap.size)
    (hn : zs.length ≤ 4194304) {N : Nat} (hs : act.eval s = v) (hx : act.eval x = .slice (some ⟨N, 0, none⟩) 1 1) (hN : w.heap.size = N)
    (h : ∀ a' n' cap' w', n' = zs.length + 1 → TOwn w' base (.slice a' n' cap') (zs ++ [z]) → Below base w w' → wpList Try.prog ops Q rest (act.put o.dst (.slice a' n' cap')) w') :
    wpList Try.prog ops Q (o :: rest) act (w.alloc (.cells #[.string z] 9)) := by
  subst hN
  obtain ⟨i0, hi, hz0, hz1, hz2⟩ := info_parts Try.infoS
  have ho1 : (w.alloc (.cells #[.string z] 9)).ownsRow base 9 1 v zs.length (zs.map Value.string) := own_later hown (al1 w _) (Nat.le_refl _)
  refine wpList_append_own (P := Try.prog) (w.alloc (.cells #[.string z] 9)) hgd s x 34 ho base 9 i0 _ 1 16 Try.underlying34 hi hz0 hz1 hz2 rfl (by decide) v zs.length _ hs ho1 ⟨w.heap.size, 0, none⟩ 1 1 [.string z] hx rfl (fun j u h => ?_) (fun u hu => by simp at hu; subst hu; rfl) (by unfold maxLen; omega) (by omega) (by simp; omega) ?_
  · rw [addr_add, Nat.zero_add, cell_of_row _ _ _ _ _ _ (heap_alloc_new w _)]
    simpa using h
  · intro v' w' ho' hg _
    obtain ⟨a', cap', rfl⟩ : ∃ a' cap', v' = .slice a' (zs.length + 1) cap' := by
      rcases ho'.2 with ⟨e, h0⟩ | ⟨g, c, cur, e, _⟩
      · exact ⟨none, 0, by rw [e, h0]⟩
      · exact ⟨_, _, e⟩
    refine h a' _ cap' w' rfl ?_ ?_
    · unfold TOwn
      rw [List.length_append, List.map_append]
      exact ho'
    · exact ((al1 w _).mono hb).trans ((Below.refl _ _).grown hg (by simp; omega) (fun g hg => (World.ownsRow.lt hown g hg).1))

end Go.Proofs.Ytnckdfidehbcaaa
