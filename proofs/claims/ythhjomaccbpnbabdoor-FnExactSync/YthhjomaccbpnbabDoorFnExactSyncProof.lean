/-
  Proved here: at every disk and every text impl.Sync answers as spec.Sync does, it writes into no argument, and its answer owns its memory (the law FnExactSync returns true, and its arguments read as before; the law itself passes arguments of more than 1048576 bytes by); the five errors of the disk are tied to the program's text by the card.
-/
import Derived.Test.YthhjomaccbpnbabDoorRows
import Derived.Test.YthhjomaccbpnbabDoorOpenDisk
import Derived.Test.YthhjomaccbpnbabDoorLawSync
import Derived.Test.YthhjomaccbpnbabDoorSyncImpl
import Derived.Test.YthhjomaccbpnbabDoorSpecs
import Derived.Test.YthhjomaccbpnbabDoorLaid5
import Derived.Test.YthhjomaccbpnbabDoorTie
import Derived.Test.YthhjomaccbpnbabDoorCards
import Derived.OpenVars
import Derived.ChangeVars
import Derived.SevenTiedAt
import Derived.WalkKit
import Derived.ProofKit
import Derived.OpenShut
import Derived.ShutString
import Derived.ChangeOld
import Derived.Carry
import Derived.Below
namespace Go.Proofs.YthhjomaccbpnbabDoor
namespace fnExactSync
open Go.ChangeShapes Go.WideShapes Go.ChangeAt Go.RowKit
open Go.ChangeMaps (open_string shut_string)

theorem own : ownKnob Tryd.prog.godebug = none := by kernel_rfl
theorem laidOut : laidOutB Tryd.prog = true := by kernel_rfl

theorem door_met (os : Os) (args : Array Value) : laidMetH Tryd.prog Rows.fnExactSyncRow.laid ((World.doorLaid Tryd.prog 104 os).forCall (fun _ _ => 0) ⟨#[], args, []⟩).memory :=
  laidMetH_of_parts3 (fuel := 8) (laidMet_of_run' 8 (by kernel_rfl) (by kernel_rfl)) (by kernel_rfl) (by kernel_rfl)
theorem of_laid {W : World} (h : laidMetH Tryd.prog Rows.fnExactSyncRow.laid W) : ∃ A, SentIn W A := by
  rw [MakeChecks.laidMetH_plain _ _ _ (by kernel_rfl)] at h
  exact sent_of_laid rowErr h

set_option maxRecDepth 100000 in
theorem lifted (os : Os) (started : os.Started) (H : Type) (enc : TypeId × Value → H) :
    ReturnsInHanded {} Tryd.checked os 5 .any (fun w args => (Rows.fnExactSyncSpec.pre enc Tryd.prog Tryd.f5 [] false w args ∧ laidMetH Tryd.prog Rows.fnExactSyncRow.laid w) ∧ sizedMet enc Tryd.prog Tryd.f5 (OpenSpec.ofChange Rows.fnExactSyncSpec) false w args)
      (Rows.fnExactSyncSpec.post enc Tryd.prog Tryd.f5 false true false false) := by
  refine returnsInHanded_of_change_and (C := Tryd.checked) (X := fun w _ => laidMetH Tryd.prog Rows.fnExactSyncRow.laid w) (fun _ _ _ hh h => h.of_heap hh) own started (by kernel_rfl) Tryd.func5
    (ChangeSpec.witness_shaped (enc := enc) (C := Tryd.checked) (os := os) (X := fun w _ => laidMetH Tryd.prog Rows.fnExactSyncRow.laid w) false (World.doorLaid Tryd.prog 104 os) #[.agg #[.slice none 0 0, .int .i64 0, .int .i64 0, .bool false], .string ByteArray.empty] 8 rfl (World.shaped_of_RefB (by kernel_rfl) (by kernel_rfl)) (by kernel_rfl) (by kernel_rfl) (by kernel_rfl) (door_met os _)) ?_
  intro W base args ds gs before hval0 hW _ _ hL _
  have hval : ∀ (j : Nat) t v, Tryd.f5.params[j]? = some t → args[j]? = some v → Value.okWide Tryd.prog W .any base t v := hval0
  have hW' := hW
  obtain ⟨p, q, hA0, hV, rfl, hfz, hnd⟩ := hW
  have hA : DataW.TrodAll enc Tryd.prog W 0 (fun _ => true) true Tryd.f5.params.toList args.toList ds p := hA0
  rw [Tryd.params5] at hA hval
  obtain ⟨v0, vs0, d0, ds0, p0, q0, hargs, rfl, rfl, h0, r0⟩ := trodAll_cons hA
  obtain ⟨v1, vs1, d1, ds1, p1, q1, rfl, rfl, rfl, h1, r1⟩ := trodAll_cons r0
  obtain ⟨rfl, rfl, rfl⟩ := trodAll_nil r1
  obtain rfl : args = #[v0, v1] := by cases args; simp_all
  obtain ⟨g1, g2, g3, g4, g5, rfl⟩ := vars5 hV
  obtain ⟨A, hSA⟩ := of_laid hL
  obtain ⟨nm, rfl, rfl, rfl, wnm⟩ := open_string Tryd.underlying9 (hval 1 9 v1 rfl rfl) h1
  obtain ⟨cs, rfl, hcs⟩ := okWide_struct Tryd.underlying24 (hval 0 24 v0 rfl rfl)
  have k0 := h0
  have lt0 : ∀ x ∈ p0, x.block < W.heap.size := by obtain ⟨m, hm⟩ := k0; exact DataW.trod_lt m _ _ _ hm
  obtain ⟨fuel, hf⟩ := h0
  obtain ⟨a, n, cap, c, u, d, fs, ecs, hr, hfit, hn, wc, wu, ws⟩ := open_disk hf
  obtain rfl : cs = #[.slice a n cap, .int .i64 c, .int .i64 u, .bool d] := by
    cases cs
    simpa [Value.cells] using ecs
  clear hA0 hval0
  have wu1 : -9223372036854775808 ≤ u ∧ u ≤ 9223372036854775807 := wf64 wu
  refine (law5_walk W a n cap fs hr hfit hn c u d nm wnm (synF fs c u d nm).1 (begU fs c u d) (begD fs c u d) (synF fs c u d nm).2 (fun hz => (by rw [synF_len fs c u d nm]; have := hr.len; omega))
    (fun hz hm w g hg => by
      have h := specSync_some w ⟨g, 0, none⟩ n n fs hg (by omega) (by omega) c u d wu1.1 wu1.2 nm
      have e : (synF fs c u d nm).1.length = n := (synF_len fs c u d nm).trans hr.len
      rw [e]
      exact h)
    (fun hz hm w hb g hg => implSync_any w A (hSA.later hb (Nat.le_refl _)) (some ⟨g, 0, none⟩) n n fs (.inr ⟨g, rfl⟩) hg (by omega) (by omega) c u d wu1.1 wu1.2 nm hm)).mono fun e W' ⟨he, hg⟩ => ?_
  subst he
  exact ⟨_, rfl, _, _, _, [], _, _, hW', trodAll_mk1 (shut_bool Tryd.underlying4 _), trodAll_cons_mk (Below.trod laidOut (by kernel_rfl) (of_decide_eq_true (by kernel_rfl)) k0 hg lt0) (trodAll_cons_mk (shut_string Tryd.underlying9 wnm) trodAll_mk0), Below.trodVars laidOut hg (by kernel_rfl) hV, hg.frame _, fun h => by cases h⟩

theorem over : Rows.FnExactSyncSaid :=
  OpenClaim.holds_of_wide 5 Tryd.f5 rfl rfl rfl rfl rfl rfl rfl ⟨rfl, rfl, rfl, rfl, rfl⟩ rfl rfl rfl rfl rfl (by kernel_rfl) Tryd.func5 (by kernel_rfl)
    (of_decide_eq_true (by kernel_rfl)) (by unfold Func.isWrapper; first | (rw [if_pos (by decide +kernel)]; kernel_rfl) | (rw [if_neg (by decide +kernel)]; exact ⟨rfl, rfl⟩))
    (fun os started H enc _ => lifted os started H enc)
/-- The given card. -/
theorem card : Rows.FnExactSyncCardSaid :=
  Claim7.holds_tied_plain_at .later [] [.sentinel, .sentinel, .sentinel, .sentinel, .sentinel] true (true, "55da2302afdcd02e88cfdb02cbb81a48cfbae97991c26994b3ee25ecd5947bc8") true
    over (fun _ h => by cases h) (by kernel_rfl) (fun _ h => by cases h) fnExactSync_row_tie rfl ⟨rfl, rfl⟩ (by kernel_rfl) rfl
    (fun f fn hf hfn => by
      obtain rfl : f = 5 := Option.some.inj ((show Tryd.prog.funcNamed "loop.example/g01397/laws.FnExactSync" = some 5 by kernel_rfl).symm.trans hf) |>.symm
      obtain rfl : fn = Tryd.f5 := (Option.some.inj (Tryd.func5.symm.trans hfn)).symm
      exact ⟨by kernel_rfl, fun j t ht => by
        rw [Tryd.params5] at ht
        rcases j with _ | _ | j
        · have h3 : t = 24 := by simpa using ht.symm
          subst h3
          exact (show Tryd.prog.wantsStandIn 24 = false by kernel_rfl)
        · have h3 : t = 9 := by simpa using ht.symm
          subst h3
          exact (show Tryd.prog.wantsStandIn 9 = false by kernel_rfl)
        · simp at ht⟩)
    (by kernel_rfl)
#print axioms card
end fnExactSync
theorem fnExactSync_holds : Rows.FnExactSyncCardSaid := fnExactSync.card
end Go.Proofs.YthhjomaccbpnbabDoor
