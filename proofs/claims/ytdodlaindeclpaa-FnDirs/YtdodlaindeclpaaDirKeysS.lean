/-
  spec.DirKeys.
-/
import Derived.Test.YtdodlaindeclpaaDirPlain
import Derived.Test.YtdodlaindeclpaaStrBase
namespace Go.Proofs.Ytdodlaindeclpaa
open Go.RowKit
open Plain

/-- 'out = append(out, z)', out a row of texts of the call's own: a law for the walk. -/
theorem wpList_app_text {ops : Array Oper} {rest : List Oper} {o : Oper} {act : Act} {Q : Exit → Act → World → Prop} (hgd : o.guard = none) (s x : Operand)
    (ho : o.op = .call { callee := .builtin .append, args := #[s, x], argTypes := #[34, 34] }) {w : World} {base : Nat} {v : Value} {zs : List ByteArray} (z : ByteArray) (hown : TOwn w base v zs) (hb : base ≤ w.heap.size)
    (hn : zs.length ≤ 4194304) {N : Nat} (hs : act.eval s = v) (hx : act.eval x = .slice (some ⟨N, 0, none⟩) 1 1) (hN : w.heap.size = N)
    (h : ∀ a' n' cap' w', n' = zs.length + 1 → TOwn w' base (.slice a' n' cap') (zs ++ [z]) → Below base w w' → wpList Try.prog ops Q rest (act.put o.dst (.slice a' n' cap')) w') :
    wpList Try.prog ops Q (o :: rest) act (w.alloc (.cells #[.string z] 9)) := by
  subst hN
  obtain ⟨i0, hi, hz0, hz1, hz2⟩ := info_parts Try.infoS
  have ho1 : (w.alloc (.cells #[.string z] 9)).ownsRow base 9 1 v zs.length (zs.map Value.string) := own_later hown (al1 w _) (Nat.le_refl _)
  refine wpList_append_own (P := Try.prog) (w.alloc (.cells #[.string z] 9)) hgd s x 34 ho base 9 i0 _ 1 16 Try.underlying34 hi hz0 hz1 hz2 rfl (by decide) v zs.length _ hs ho1 ⟨w.heap.size, 0, none⟩ 1 1 [.string z] hx rfl (fun j u h => ?_) (fun u hu => by simp at hu; subst hu; rfl) (by unfold maxLen; omega) (by omega) (by simp; omega) ?_
  · rw [addr_add, Nat.zero_add, cell_of_row _ _ _ _ _ _ (heap_alloc_new w _)]
    simpa using h
  · intro v' w' ho' hg _
    obtain ⟨a', cap', rfl⟩ : ∃ a' cap', v' = .slice a' (zs.length + 1) cap' := by
      rcases ho'.2 with ⟨e, h0⟩ | ⟨g, c, cur, e, _⟩
      · exact ⟨none, 0, by rw [e, h0]⟩
      · exact ⟨_, _, e⟩
    refine h a' _ cap' w' rfl ?_ ?_
    · unfold TOwn
      rw [List.length_append, List.map_append]
      exact ho'
    · exact ((al1 w _).mono hb).trans ((Below.refl _ _).grown hg (by simp; omega) (fun g hg => (World.ownsRow.lt hown g hg).1))

set_option maxRecDepth 100000 in
set_option maxHeartbeats 1000000 in
theorem specKeys_any (w : World) (a : Option Addr) (n cap : Nat) (xs : List EntV) (hr : entSh.Row w a n xs) (hn : n ≤ 1048576) :
    Calls Try.prog 29 #[.slice a n cap] w fun e w' => (∃ a' cap', e = .returned (.slice a' n cap') ∧ TOwn w' w.heap.size (.slice a' n cap') (xs.map EntV.key)) ∧ Below w.heap.size w w' := by
  have hlen := hr.len
  have HR := hide hr
  have HO0 := hide (TOwn.empty w)
  have HB0 := hide (al1 w (.cells #[] 9))
  clear hr
  go_enter Try.func29, Try.ntmps29
  go_wp2
  go_loopw [3, 4] (fun v i wr => ∃ (k : Nat) (a' : Option Addr) (c' : Nat), k ≤ n ∧ v = .slice a' k c' ∧ i = .int .i64 k ∧ Hid (TOwn wr w.heap.size (.slice a' k c') ((xs.take k).map EntV.key)) ∧ Hid (Below w.heap.size w wr)) (fun _ i _ => n - (intOf i).toNat)
  case atStart => exact ⟨0, _, 0, by omega, rfl, rfl, HO0, HB0⟩
  case round =>
    clear HO0 HB0
    obtain ⟨k, a', c', hk, rfl, rfl, HO, HB⟩ := hrel
    by_cases hlt : k < n
    · have hkf : k < xs.length := by omega
      obtain ⟨b, off, rfl, hbw, e0, -, -, -, -⟩ := ent_cells (HR.out.later HB.out) k hkf
      have HL := hide HO.out.len
      have HE : Hid ((xs.take (k + 1)).map EntV.key = (xs.take k).map EntV.key ++ [(xs[k]).key]) := hide (by rw [List.take_succ_eq_append_getElem hkf, List.map_append]; rfl)
      have HSZ := hide HB.out.size
      obtain ⟨z, hz⟩ : ∃ z, (xs[k]).key = z := ⟨_, rfl⟩
      rw [hz] at e0 HE
      clear hz
      go_wp2_with (at_builtin; refine wpList_app_text rfl _ _ rfl z HO.out HSZ.out (by have := HL.out; omega) rfl rfl rfl ?_; intro a3 n3 cap3 w3 hn3 ho3 hb3)
      have HO3 := hide ho3
      have HB3 := hide (HB.out.trans hb3)
      have e3 : n3 = k + 1 := by have := HL.out; omega
      subst e3
      clear ho3 hb3 HO HB hn3
      go_roundw
      case rel => exact ⟨k + 1, a3, cap3, by omega, rfl, by go_num, by rw [HE.out]; exact HO3, HB3⟩
      case measure => first | (simp [intOf]; done) | (simp [intOf]; omega)
    · obtain rfl : k = n := by omega
      have HT : Hid (xs.take k = xs) := hide (List.take_of_length_le (by omega))
      go_wp2
      go_ret
      exact ⟨⟨a', c', rfl, by have h := HO.out; rw [HT.out] at h; exact h⟩, HB.out⟩

end Go.Proofs.Ytdodlaindeclpaa
