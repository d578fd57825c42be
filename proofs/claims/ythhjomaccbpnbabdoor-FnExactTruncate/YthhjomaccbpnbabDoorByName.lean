/-
  impl.byName: the files in a map of the call's own.
-/
import Derived.Test.YthhjomaccbpnbabDoorMapFiles
import Derived.StringKeys
import Derived.Maps.Range
import Derived.Maps.RangeWalk
import Derived.WalkKit
namespace Go.Proofs.YthhjomaccbpnbabDoor
open Go.RowKit Go.Maps
open Plain

theorem keyLaw : Keyed Tryd.prog 9 := string_keyed Tryd.underlying9
/-- Block B is a map of at most n entries that holds these files. -/
def MOwn (w : World) (B n : Nat) (S : List FileV) : Prop := ∃ D, w.ownsMap Tryd.prog 9 fileElem B n D ∧ Shows D S

theorem makeMapN (n : Int) (w : World) : (Instr.makeMap 48 (some (.int .i64 n))).run Tryd.prog w = .ok (.map (some w.heap.size)) (w.alloc (.map #[] 0)) := by
  simp [Instr.makeMap, run_underlying Tryd.underlying48, go_sem]

set_option maxRecDepth 100000 in
set_option maxHeartbeats 1000000 in
theorem implByName_any (w : World) (a : Option Addr) (n cap : Nat) (fs : List FileV) (hr : FRow w 0 a n fs) (hn : n ≤ 130) (hz : szFs fs ≤ 1099511627776) (hap : fs.Pairwise (fun f g => f.name ≠ g.name)) :
    Calls Tryd.prog 56 #[.slice a n cap] w fun e w' => (e = .returned (.map (some w.heap.size)) ∧ MOwn w' w.heap.size 131 fs) ∧ Below w.heap.size w w' := by
  have HR := hide hr
  have hlen := hr.len
  have hmm := makeMapN
  clear hr
  go_enter Tryd.func56, Tryd.ntmps56
  go_wp2
  go_loopw [11] (fun i wr => ∃ k : Nat, k ≤ n ∧ i = .int .i64 k ∧ Hid (MOwn wr w.heap.size k (fs.take k).reverse) ∧ Hid (Below w.heap.size w wr)) (fun i _ => n - (intOf i).toNat)
  case atStart => exact ⟨0, by omega, rfl, hide ⟨_, World.ownsMap_made w _ _ _, by simpa using Shows.empty⟩, hide ((Below.refl _ _).alloc (Nat.le_refl _) _)⟩
  case round =>
    obtain ⟨k, hk, rfl, HM, HB⟩ := hrel
    by_cases hlt : k < n
    · have hkf : k < fs.length := by omega
      obtain ⟨b, off, rfl, -, hbw, e1, e2, e3⟩ := (HR.out.later HB.out (Nat.le_refl _)).cells k hkf
      have hnsz : (fs[k]).name.size ≤ 1099511627776 := Nat.le_trans (name_le fs k hkf) hz
      obtain ⟨D, hown, hsh⟩ := HM.out
      have HSH : Hid (Shows (D.put (litN (fs[k])) (fileD (fs[k]))) (fs.take (k + 1)).reverse) := hide (by
        have h1 := hsh.put (fs[k])
        rw [others_none (fun g hg e => by
          rw [List.mem_reverse] at hg
          obtain ⟨j, hj, rfl⟩ := List.mem_iff_getElem.1 hg
          rw [List.length_take] at hj
          rw [List.getElem_take] at e
          exact List.pairwise_iff_getElem.1 hap j k (by omega) hkf (by omega) e)] at h1
        rw [List.take_succ_eq_append_getElem hkf, List.reverse_append]
        exact h1)
      have HOW := hide (hown.alloc (.cells #[.string (fs[k]).name, .string (fs[k]).text, .int .i64 (fs[k]).safe] 45))
      have hkey : keyOf Tryd.prog 9 (.string (fs[k]).name) = some (litN (fs[k])) := WideMaps.keyOf_string_mk Tryd.underlying9 (by unfold maxLen; omega)
      have hB := hown.lt
      clear hown hsh HM
      go_wp2_with (at_mapUpdate; refine wpList_mapUpdate_own _ rfl _ _ _ 48 rfl 9 45 keyLaw Tryd.underlying48 _ w.heap.size k _ rfl HOW.out (by unfold maxLen; omega) _ _ _ rfl rfl hkey _ [] (fileElem_mk (fs[k])) ?_; intro w1 hown1 hgrow1; have HO1 := hide hown1; have HG1 := hide hgrow1; clear hown1 hgrow1)
      go_roundw
      case rel => exact ⟨k + 1, by omega, by go_num, hide ⟨_, HO1.out, HSH.out⟩, hide ((HB.out.alloc HB.out.size _).grown HG1.out (HB.out.alloc HB.out.size _).size (fun j hj => by cases hj; exact Nat.le_refl _))⟩
      case measure => first | (simp [intOf]; done) | (simp [intOf]; omega)
    · obtain rfl : k = n := by omega
      have HE : Hid (MOwn wr w.heap.size 131 fs) := hide (by
        obtain ⟨D, hown, hsh⟩ := HM.out
        rw [List.take_of_length_le (by omega)] at hsh
        exact ⟨D, hown.mono (by omega), hsh.perm (List.reverse_perm fs)⟩)
      clear HM
      go_wp2
      go_ret
      exact ⟨⟨rfl, HE.out⟩, HB.out⟩

end Go.Proofs.YthhjomaccbpnbabDoor
