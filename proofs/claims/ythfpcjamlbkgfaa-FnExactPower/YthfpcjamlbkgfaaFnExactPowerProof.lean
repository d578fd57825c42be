/-
  Proved here: at every disk and every list of numbers impl.Power answers as spec.Power does, it writes into no argument, and its answer owns its memory (the law FnExactPower returns true, and its arguments read as before; the law itself passes disks of more than 1048576 bytes and lists of more than 1048576 numbers by).
-/
import Derived.Test.YthfpcjamlbkgfaaRows
import Derived.Test.YthfpcjamlbkgfaaOpenDisk
import Derived.Test.YthfpcjamlbkgfaaLawPower
import Derived.Test.YthfpcjamlbkgfaaPowSpec
import Derived.Test.YthfpcjamlbkgfaaPowImpl
import Derived.WalkKit
import Derived.ProofKit
import Derived.OpenShut
import Derived.ShutString
import Derived.ChangeOld
import Derived.Carry
import Derived.Below
namespace Go.Proofs.Ythfpcjamlbkgfaa
namespace fnExactPower
open Go.ChangeShapes Go.WideShapes Go.ChangeAt Go.RowKit
open Go.ChangeMaps (open_string shut_string)

theorem own : ownKnob Try.prog.godebug = none := by kernel_rfl
theorem laidOut : laidOutB Try.prog = true := by kernel_rfl

theorem irow_of {w : World} {x : Addr} {len cap : Nat} {zs : List Int} (h1 : len ≤ cap) (h3 : zs.length = cap) (h4 : ∀ i, i < zs.length → w.cell? (x.add i) = some (.int .i64 (zs.getD i 0))) : IRow w 0 (some x) len (zs.take len) := by
  refine ⟨by rw [List.length_take]; omega, fun j hj => ?_⟩
  have hjl : j < len := by rw [List.length_take] at hj; omega
  obtain ⟨b, off, spot⟩ := x
  have hc := h4 j (by omega)
  have hc0 := h4 0 (by omega)
  have hspot : spot = none := by simpa [Addr.add] using World.cell?_spot hc0
  subst hspot
  have hadd : (⟨b, off, none⟩ : Addr).add j = ⟨b, off + j, none⟩ := by unfold Addr.add; split <;> simp_all
  rw [hadd] at hc
  refine ⟨b, off, rfl, Nat.zero_le _, ?_, ?_⟩
  · rcases Nat.lt_or_ge b w.heap.size with h | h
    · exact h
    · simp [World.cell?, Array.getElem?_eq_none h] at hc
  · rw [hc]
    have hz : j < zs.length := by omega
    simp [List.getD, hz]

set_option maxRecDepth 100000 in
theorem lifted (os : Os) (started : os.Started) (H : Type) (enc : TypeId × Value → H) :
    ReturnsInHanded {} Try.checked os 4 .any (Rows.fnExactPowerSpec.pre6 enc Try.prog Try.f4 Rows.fnExactPowerRow.domain false) (Rows.fnExactPowerSpec.post enc Try.prog Try.f4 false true false false) := by
  refine returnsInHanded_of_change (C := Try.checked) own started (by kernel_rfl) Try.func4
    (ChangeSpec.witness6 (enc := enc) (C := Try.checked) false ⟨#[], #[.agg #[.slice none 0 0, .int .i64 0, .int .i64 0, .bool false], .slice none 0 0], []⟩ 8 (by kernel_rfl) (by kernel_rfl) (by kernel_rfl) (by kernel_rfl)) ?_
  intro W base args ds gs before hval0 hW hcnd _
  have hval : ∀ (j : Nat) t v, Try.f4.params[j]? = some t → args[j]? = some v → Value.okWide Try.prog W .any base t v := hval0
  have hW' := hW
  obtain ⟨p, q, hA0, hV, rfl, hfz, hnd⟩ := hW
  have hA : DataW.TrodAll enc Try.prog W 0 (fun _ => true) true Try.f4.params.toList args.toList ds p := hA0
  rw [Try.params4] at hA hval
  obtain ⟨v0, vs0, d0, ds0, p0, q0, hargs, rfl, rfl, h0, r0⟩ := trodAll_cons hA
  obtain ⟨v1, vs1, d1, ds1, p1, q1, rfl, rfl, rfl, h1, r1⟩ := trodAll_cons r0
  obtain ⟨rfl, rfl, rfl⟩ := trodAll_nil r1
  obtain rfl : args = #[v0, v1] := by cases args; simp_all
  obtain ⟨rfl, rfl⟩ := trodVars_none hV
  obtain ⟨b, m, capb, rfl⟩ := okWide_slice Try.underlying27 (hval 1 27 v1 rfl rfl)
  have k1 := h1
  have lt1 : ∀ x ∈ p1, x.block < W.heap.size := by obtain ⟨m, hm⟩ := k1; exact DataW.trod_lt m _ _ _ hm
  obtain ⟨zs, hzr, hml⟩ : ∃ zs, IRow W 0 b m zs ∧ m ≤ maxLen := by
    obtain ⟨fuel, hf⟩ := h1
    rcases open_ints Try.underlying27 Try.underlying3 (by kernel_rfl) hf with ⟨hcs, _⟩ | ⟨x, l, c, zs, hcs, _, hl, hm, hz, _, hcell, hwz⟩
    · simp [Value.cells] at hcs
      obtain ⟨rfl, rfl, rfl⟩ := hcs
      exact ⟨[], ⟨rfl, fun i hi => by simp at hi⟩, by unfold maxLen; omega⟩
    · simp [Value.cells] at hcs
      obtain ⟨rfl, rfl, rfl⟩ := hcs
      exact ⟨zs.take m, irow_of hl (by simpa using hz) hcell, Nat.le_trans hl hm⟩
  obtain ⟨cs, rfl, hcs⟩ := okWide_struct Try.underlying39 (hval 0 39 v0 rfl rfl)
  have k0 := h0
  have lt0 : ∀ x ∈ p0, x.block < W.heap.size := by obtain ⟨m, hm⟩ := k0; exact DataW.trod_lt m _ _ _ hm
  obtain ⟨fuel, hf⟩ := h0
  obtain ⟨a, n, cap, c, u, d, fs, ecs, hr, hfit, hn, wc, wu, ws⟩ := open_disk hf
  obtain rfl : cs = #[.slice a n cap, .int .i64 c, .int .i64 u, .bool d] := by
    cases cs
    simpa [Value.cells] using ecs
  clear hA0 hval0
  refine (law4_walk W a n cap fs hr hfit hn c u d b m capb zs hzr hml (powF fs c u zs) (powU fs c u) (powD fs c u d) (fun hz => (by rw [powF_length]; have := hr.len; omega))
    (fun hz hm w g h hg hh => by
      have h := specPow_any w (some ⟨g, 0, none⟩) n n fs hg (fun e => by cases e) (by omega) (by omega) c u d (some ⟨h, 0, none⟩) m m zs hh (by omega)
      rw [powF_length, hr.len]
      exact h)
    (fun hz hm w g h hg hh => by
      have h := implPow_any w (some ⟨g, 0, none⟩) n n fs (.inr ⟨g, rfl⟩) hg (by omega) (by omega) c u d (some ⟨h, 0, none⟩) m m zs hh (by omega)
      rw [powF_length, hr.len]
      exact h)).mono fun e W' ⟨he, hg⟩ => ?_
  subst he
  exact ⟨_, rfl, _, _, _, [], _, [], hW', trodAll_mk1 (shut_bool Try.underlying4 _), trodAll_cons_mk (Below.trod laidOut (by kernel_rfl) (of_decide_eq_true (by kernel_rfl)) k0 hg lt0) (trodAll_cons_mk (Below.trod laidOut (by kernel_rfl) (of_decide_eq_true (by kernel_rfl)) k1 hg lt1) trodAll_mk0), rfl, hg.frame _, fun h => by cases h⟩

theorem over : Rows.FnExactPowerSaid :=
  OpenClaim.holds_of_wide 4 Try.f4 rfl rfl rfl rfl rfl rfl rfl ⟨rfl, rfl, rfl, rfl, rfl⟩ rfl rfl rfl rfl rfl (by kernel_rfl) Try.func4 (by kernel_rfl)
    (of_decide_eq_true (by kernel_rfl)) (by unfold Func.isWrapper; first | (rw [if_pos (by decide +kernel)]; kernel_rfl) | (rw [if_neg (by decide +kernel)]; exact ⟨rfl, rfl⟩))
    (fun os started H enc _ => lifted os started H enc)
#print axioms over
end fnExactPower
theorem fnExactPower_holds : Rows.FnExactPowerSaid := fnExactPower.over
end Go.Proofs.Ythfpcjamlbkgfaa
