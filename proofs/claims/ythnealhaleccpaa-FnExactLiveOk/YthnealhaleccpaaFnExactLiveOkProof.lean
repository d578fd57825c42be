/-
  Proved here: at every list of segments impl.LiveOk answers as spec.LiveOk does, and writes into no argument (the law FnExactLiveOk returns true, and its argument reads as before; the law itself passes lists of more than 1048576 numbers by).
-/
import Derived.Test.YthnealhaleccpaaRows
import Derived.Test.YthnealhaleccpaaOpenLive
import Derived.Test.YthnealhaleccpaaLawLiveOk
import Derived.Test.YthnealhaleccpaaLiveOkSpec
import Derived.Test.YthnealhaleccpaaLiveOkImpl
import Derived.WalkKit
import Derived.ProofKit
import Derived.OpenShut
import Derived.ShutString
import Derived.ChangeOld
import Derived.Carry
import Derived.Below
namespace Go.Proofs.Ythnealhaleccpaa
namespace fnExactLiveOk
open Go.ChangeShapes Go.WideShapes Go.ChangeAt Go.RowKit
open Go.ChangeMaps (open_string shut_string)

theorem own : ownKnob Try.prog.godebug = none := by kernel_rfl
theorem laidOut : laidOutB Try.prog = true := by kernel_rfl

set_option maxRecDepth 100000 in
theorem lifted (os : Os) (started : os.Started) (H : Type) (enc : TypeId × Value → H) :
    ReturnsInHanded {} Try.checked os 3 .any (Rows.fnExactLiveOkSpec.pre6 enc Try.prog Try.f3 Rows.fnExactLiveOkRow.domain false) (Rows.fnExactLiveOkSpec.post enc Try.prog Try.f3 false true false false) := by
  refine returnsInHanded_of_change (C := Try.checked) own started (by kernel_rfl) Try.func3
    (ChangeSpec.witness6 (enc := enc) (C := Try.checked) false ⟨#[], #[.agg #[.int .i64 0, .slice none 0 0]], []⟩ 8 (by kernel_rfl) (by kernel_rfl) (by kernel_rfl) (by kernel_rfl)) ?_
  intro W base args ds gs before hval0 hW hcnd _
  have hval : ∀ (j : Nat) t v, Try.f3.params[j]? = some t → args[j]? = some v → Value.okWide Try.prog W .any base t v := hval0
  have hW' := hW
  obtain ⟨p, q, hA0, hV, rfl, hfz, hnd⟩ := hW
  have hA : DataW.TrodAll enc Try.prog W 0 (fun _ => true) true Try.f3.params.toList args.toList ds p := hA0
  rw [Try.params3] at hA hval
  obtain ⟨v0, vs0, d0, ds0, p0, q0, hargs, rfl, rfl, h0, r0⟩ := trodAll_cons hA
  obtain ⟨rfl, rfl, rfl⟩ := trodAll_nil r0
  obtain rfl : args = #[v0] := by cases args; simp_all
  obtain ⟨rfl, rfl⟩ := trodVars_none hV
  obtain ⟨cs, rfl, hcs⟩ := okWide_struct Try.underlying24 (hval 0 24 v0 rfl rfl)
  have k0 := h0
  have lt0 : ∀ x ∈ p0, x.block < W.heap.size := by obtain ⟨m, hm⟩ := k0; exact DataW.trod_lt m _ _ _ hm
  obtain ⟨fuel, hf⟩ := h0
  obtain ⟨x, a, n, cap, zs, ecs, hr, hn, wx⟩ := open_live hf
  obtain rfl : cs = #[.int .i64 x, .slice a n cap] := by
    cases cs
    simpa [Value.cells] using ecs
  clear hA0 hval0
  refine (law3_walk (fun _ => True) (fun _ _ _ _ => trivial) W trivial x a n cap zs hr (by unfold maxLen at hn; omega) (liveB (LiveV.mk x zs)) (fun hz w g _ hg => specLive_any w x (some ⟨g, 0, none⟩) n n zs hg hz) (fun hz w g _ hg => implLive_any w x (some ⟨g, 0, none⟩) n n zs hg hz)).mono fun e W' ⟨he, hg⟩ => ?_
  subst he
  exact ⟨_, rfl, _, _, _, [], _, [], hW', trodAll_mk1 (shut_bool Try.underlying4 _), trodAll_cons_mk (Below.trod laidOut (by kernel_rfl) (of_decide_eq_true (by kernel_rfl)) k0 hg lt0) trodAll_mk0, rfl, hg.frame _, fun h => by cases h⟩

theorem over : Rows.FnExactLiveOkSaid :=
  OpenClaim.holds_of_wide 3 Try.f3 rfl rfl rfl rfl rfl rfl rfl ⟨rfl, rfl, rfl, rfl, rfl⟩ rfl rfl rfl rfl rfl (by kernel_rfl) Try.func3 (by kernel_rfl)
    (of_decide_eq_true (by kernel_rfl)) (by unfold Func.isWrapper; first | (rw [if_pos (by decide +kernel)]; kernel_rfl) | (rw [if_neg (by decide +kernel)]; exact ⟨rfl, rfl⟩))
    (fun os started H enc _ => lifted os started H enc)
#print axioms over
end fnExactLiveOk
theorem fnExactLiveOk_holds : Rows.FnExactLiveOkSaid := fnExactLiveOk.over
end Go.Proofs.Ythnealhaleccpaa
