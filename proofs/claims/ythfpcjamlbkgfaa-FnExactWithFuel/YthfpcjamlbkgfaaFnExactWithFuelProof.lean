/-
  Proved here: at every disk and every number impl.WithFuel answers as spec.WithFuel does, it writes into no argument, and its answer owns its memory (the law FnExactWithFuel returns true, and its arguments read as before; the law itself passes disks of more than 1048576 bytes by).
-/
import Derived.Test.YthfpcjamlbkgfaaRows
import Derived.Test.YthfpcjamlbkgfaaOpenDisk
import Derived.Test.YthfpcjamlbkgfaaLawWithFuel
import Derived.Test.YthfpcjamlbkgfaaFuel
import Derived.WalkKit
import Derived.ProofKit
import Derived.OpenShut
import Derived.ShutString
import Derived.ChangeOld
import Derived.Carry
import Derived.Below
namespace Go.Proofs.Ythfpcjamlbkgfaa
namespace fnExactWithFuel
open Go.ChangeShapes Go.WideShapes Go.ChangeAt Go.RowKit
open Go.ChangeMaps (open_string shut_string)

theorem own : ownKnob Try.prog.godebug = none := by kernel_rfl
theorem laidOut : laidOutB Try.prog = true := by kernel_rfl

set_option maxRecDepth 100000 in
theorem lifted (os : Os) (started : os.Started) (H : Type) (enc : TypeId × Value → H) :
    ReturnsInHanded {} Try.checked os 6 .any (Rows.fnExactWithFuelSpec.pre6 enc Try.prog Try.f6 Rows.fnExactWithFuelRow.domain false) (Rows.fnExactWithFuelSpec.post enc Try.prog Try.f6 false true false false) := by
  refine returnsInHanded_of_change (C := Try.checked) own started (by kernel_rfl) Try.func6
    (ChangeSpec.witness6 (enc := enc) (C := Try.checked) false ⟨#[], #[.agg #[.slice none 0 0, .int .i64 0, .int .i64 0, .bool false], .int .i64 0], []⟩ 8 (by kernel_rfl) (by kernel_rfl) (by kernel_rfl) (by kernel_rfl)) ?_
  intro W base args ds gs before hval0 hW hcnd _
  have hval : ∀ (j : Nat) t v, Try.f6.params[j]? = some t → args[j]? = some v → Value.okWide Try.prog W .any base t v := hval0
  have hW' := hW
  obtain ⟨p, q, hA0, hV, rfl, hfz, hnd⟩ := hW
  have hA : DataW.TrodAll enc Try.prog W 0 (fun _ => true) true Try.f6.params.toList args.toList ds p := hA0
  rw [Try.params6] at hA hval
  obtain ⟨v0, vs0, d0, ds0, p0, q0, hargs, rfl, rfl, h0, r0⟩ := trodAll_cons hA
  obtain ⟨v1, vs1, d1, ds1, p1, q1, rfl, rfl, rfl, h1, r1⟩ := trodAll_cons r0
  obtain ⟨rfl, rfl, rfl⟩ := trodAll_nil r1
  obtain rfl : args = #[v0, v1] := by cases args; simp_all
  obtain ⟨rfl, rfl⟩ := trodVars_none hV
  obtain ⟨m, rfl, rfl, rfl, wm⟩ := open_int Try.underlying3 (hval 1 3 v1 rfl rfl) h1
  obtain ⟨cs, rfl, hcs⟩ := okWide_struct Try.underlying39 (hval 0 39 v0 rfl rfl)
  have k0 := h0
  have lt0 : ∀ x ∈ p0, x.block < W.heap.size := by obtain ⟨m, hm⟩ := k0; exact DataW.trod_lt m _ _ _ hm
  obtain ⟨fuel, hf⟩ := h0
  obtain ⟨a, n, cap, c, u, d, fs, ecs, hr, hfit, hn, wc, wu, ws⟩ := open_disk hf
  obtain rfl : cs = #[.slice a n cap, .int .i64 c, .int .i64 u, .bool d] := by
    cases cs
    simpa [Value.cells] using ecs
  clear hA0 hval0
  refine (law6_walk W a n cap fs hr hfit hn c u d m fs (wfU fs c u m) (wfD fs c u d m) (fun hz => (by have := hr.len; omega))
    (fun hz w g hg => by
      have h := specWf_any w (some ⟨g, 0, none⟩) n n fs hg (fun e => by cases e) (by omega) (by omega) c u d m
      rw [hr.len]
      exact h)
    (fun hz w hb g hg => by
      have h := implWf_any w (some ⟨g, 0, none⟩) n n fs (.inr ⟨g, rfl⟩) hg (by omega) (by omega) c u d m
      rw [hr.len]
      exact h)).mono fun e W' ⟨he, hg⟩ => ?_
  subst he
  exact ⟨_, rfl, _, _, _, [], _, [], hW', trodAll_mk1 (shut_bool Try.underlying4 _), trodAll_cons_mk (Below.trod laidOut (by kernel_rfl) (of_decide_eq_true (by kernel_rfl)) k0 hg lt0) (trodAll_cons_mk (shut_int Try.underlying3 wm) trodAll_mk0), rfl, hg.frame _, fun h => by cases h⟩

theorem over : Rows.FnExactWithFuelSaid :=
  OpenClaim.holds_of_wide 6 Try.f6 rfl rfl rfl rfl rfl rfl rfl ⟨rfl, rfl, rfl, rfl, rfl⟩ rfl rfl rfl rfl rfl (by kernel_rfl) Try.func6 (by kernel_rfl)
    (of_decide_eq_true (by kernel_rfl)) (by unfold Func.isWrapper; first | (rw [if_pos (by decide +kernel)]; kernel_rfl) | (rw [if_neg (by decide +kernel)]; exact ⟨rfl, rfl⟩))
    (fun os started H enc _ => lifted os started H enc)
#print axioms over
end fnExactWithFuel
theorem fnExactWithFuel_holds : Rows.FnExactWithFuelSaid := fnExactWithFuel.over
end Go.Proofs.Ythfpcjamlbkgfaa
