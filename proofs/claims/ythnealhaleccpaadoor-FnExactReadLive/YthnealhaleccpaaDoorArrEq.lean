/-
  '==' of two rows of sixty numbers.
-/
import Derived.Test.YthnealhaleccpaaDoorCore
import Derived.Laws.StructEq
namespace Go.Proofs.YthnealhaleccpaaDoor
open Go.RowKit
open Plain

theorem run_forIn_all {P : Program} {W : World} {σ : Type} (f : Nat → σ → Sem (ForInStep σ)) (s b : σ) (p : Nat → Bool) : ∀ (l : List Nat), (∀ i ∈ l, (f i s).run P W = .ok (if p i then .yield s else .done b) W) → (forIn l s f).run P W = .ok (if l.all p then s else b) W
  | [], _ => by simp
  | i :: r, h => by
    rw [List.forIn_cons, Sem.run_bind, h i (List.mem_cons_self ..), Result.andThen_ok]
    cases hp : p i with
    | true =>
      simp only [if_true]
      rw [run_forIn_all f s b p r (fun j hj => h j (List.mem_cons_of_mem _ hj))]
      simp [hp]
    | false => simp [hp]

theorem part_int (L : List Int) (i : Nat) (h : i < L.length) (W : World) : (part 3 (L.map (Value.int .i64)).toArray (i * 1)).run Tryd.prog W = .ok (.int .i64 (L.getD i 0)) W := by
  have ha : (isAgg 3).run Tryd.prog W = .ok false W := by kernel_rfl
  unfold part
  rw [Sem.run_bind, ha, Result.andThen_ok, Nat.mul_one]
  have hg : (L.map (Value.int .i64)).toArray[i]? = some (.int .i64 (L.getD i 0)) := by simp [List.getD, h]
  simp only [Bool.false_eq_true, if_false, hg]
  rfl

set_option maxRecDepth 100000 in
theorem arr_eqIn (xs ys : List Int) (hx : xs.length = 60) (hy : ys.length = 60) (W : World) :
    (Op.equalIn 10000 65 (.agg (xs.map (Value.int .i64)).toArray) (.agg (ys.map (Value.int .i64)).toArray)).run Tryd.prog W = .ok (decide (xs = ys)) W := by
  rw [show (10000 : Nat) = 9998 + 1 + 1 from rfl, Op.equalIn]
  simp only [Sem.run_bind, run_underlying Tryd.underlying65, Result.andThen_ok]
  have hs : (sizeOf 3).run Tryd.prog W = .ok 1 W := by kernel_rfl
  rw [hs, Result.andThen_ok, Std.Legacy.Range.forIn_eq_forIn_range']
  rw [run_forIn_all _ _ (some false, ()) (fun i => xs.getD i 0 == ys.getD i 0) _ (fun i hi => ?_)]
  · rw [Result.andThen_ok]
    by_cases he : xs = ys
    · subst he
      rw [if_pos (by simp), decide_eq_true rfl]
      rfl
    · rw [if_neg ?_, decide_eq_false he]
      · rfl
      · intro ha
        apply he
        apply List.ext_getElem (by omega)
        intro i h1 h2
        have := List.all_eq_true.1 ha i (by simp [Std.Legacy.Range.size]; omega)
        simpa [List.getD, h1, h2] using this
  · have hi' : i < 60 := by simp [Std.Legacy.Range.size] at hi; omega
    rw [Sem.run_bind, part_int xs i (by omega), Result.andThen_ok, Sem.run_bind, part_int ys i (by omega), Result.andThen_ok, Sem.run_bind, run_equalIn_int W 9998 3 .i64 .i64 _ _ Tryd.underlying3, Result.andThen_ok]
    cases (xs.getD i 0 == ys.getD i 0) <;> rfl

end Go.Proofs.YthnealhaleccpaaDoor
