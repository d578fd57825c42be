/-
  Entries in a map by their places: how an entry in it reads, and what the map holds; impl.byPlace.
-/
import Derived.Test.YtimpokbcfjgdaaaGreatDoorHG05
import Derived.Maps.Ext
import Derived.Maps.Range
import Derived.Maps.RangeWalk
import Derived.Sort.KeysCollected
import Derived.Shelf.SlIterI.Nil
import Derived.WalkKit
namespace Go.Proofs.YtimpokbcfjgdaaaGreatDoor
open Go.RowKit Go.Maps
open Plain

def nI : Value → Int
  | .int _ q => q
  | _ => 0
def EntV.val (e : EntV) : Value := .agg #[.string e.key, .int .i64 e.seg, .int .i64 e.pos, .int .i64 e.len, .int .i64 e.bat]
def entD (e : EntV) : DataW Unit := .agg [.lit (.string e.key.data.toList), .lit (.int .i64 e.seg), .lit (.int .i64 e.pos), .lit (.int .i64 e.len), .lit (.int .i64 e.bat)]
theorem entD_inj {f g : EntV} (h : entD f = entD g) : f = g := by
  obtain ⟨⟨⟨n⟩⟩, a, b, c, d⟩ := f
  obtain ⟨⟨⟨n'⟩⟩, a', b', c', d'⟩ := g
  simp [entD] at h
  obtain ⟨rfl, rfl, rfl, rfl, rfl⟩ := h
  rfl
/-- How an entry in the map reads. -/
def entElem : Value → Option (DataW Unit × List MemPlace)
  | .agg cs => match cs.toList with
    | [.string n, .int .i64 a, .int .i64 b, .int .i64 c, .int .i64 d] => some (entD ⟨n, a, b, c, d⟩, [])
    | _ => none
  | _ => none
theorem entElem_mk (e : EntV) : entElem e.val = some (entD e, []) := rfl
theorem entElem_inv {v : Value} {z : DataW Unit × List MemPlace} (h : entElem v = some z) : ∃ f : EntV, v = f.val ∧ z = (entD f, []) := by
  unfold entElem at h
  split at h
  · rename_i cs
    split at h
    · rename_i n a b c d e
      cases h
      refine ⟨⟨n, a, b, c, d⟩, ?_, rfl⟩
      obtain ⟨l⟩ := cs
      simp only at e
      subst e
      rfl
    · cases h
  · cases h
def litP (i : Nat) : Lit := .int .i64 (i : Int)
theorem litP_key (i : Nat) : WideAt.IsKeyLit (litP i) := trivial
theorem litP_ne {x : Int} {i : Nat} (h : ¬ x = (i : Int)) : (Lit.int .i64 x) ≠ litP i := fun e => h (by simpa [litP] using e)

/-- The map holds just the entries of these places. -/
structure PShows (D : DataW Unit) (xs : List EntV) (s : Nat → Bool) : Prop where
  map : IsMap D
  at_ : ∀ i, (h : i < xs.length) → s i = true → ∀ z, D.atKey (litP i) z = entD (xs[i])
  has_ : ∀ x : Int, has D (.int .i64 x) = true ↔ ∃ i : Nat, x = (i : Int) ∧ i < xs.length ∧ s i = true
theorem PShows.empty (xs : List EntV) : PShows (.map []) xs (fun i => decide (i < 0)) where
  map := isMap_empty
  at_ := fun i h hs => by simp at hs
  has_ := fun x => by simp [has]
theorem PShows.put {D : DataW Unit} {xs : List EntV} {s t : Nat → Bool} (h : PShows D xs s) (i : Nat) (hi : i < xs.length) (ht : ∀ j, t j = true ↔ (s j = true ∨ j = i)) : PShows (D.put (litP i) (entD (xs[i]))) xs t where
  map := h.map.put _ _
  at_ := fun j hj hs z => by
    by_cases e : j = i
    · subst e; exact atKey_put_same h.map (litP_key j) _ _
    · rw [atKey_put_other (show litP j ≠ litP i from litP_ne (by omega))]
      exact h.at_ j hj (((ht j).1 hs).resolve_right e) z
  has_ := fun x => by
    by_cases e : x = (i : Int)
    · subst e
      rw [show has (D.put (litP i) (entD (xs[i]))) (.int .i64 (i : Int)) = true from has_put_same h.map (litP_key i) _]
      exact ⟨fun _ => ⟨i, rfl, hi, (ht i).2 (.inr rfl)⟩, fun _ => rfl⟩
    · rw [has_put_other (litP_ne e), h.has_ x]
      constructor
      · rintro ⟨j, rfl, h1, h2⟩
        exact ⟨j, rfl, h1, (ht j).2 (.inl h2)⟩
      · rintro ⟨j, rfl, h1, h2⟩
        exact ⟨j, rfl, h1, ((ht j).1 h2).resolve_right (fun q => e (by rw [q]))⟩
theorem PShows.del {D : DataW Unit} {xs : List EntV} {s t : Nat → Bool} (h : PShows D xs s) (i : Nat) (ht : ∀ j, t j = true ↔ (s j = true ∧ j ≠ i)) (hm : IsMap (D.del (litP i))) : PShows (D.del (litP i)) xs t where
  map := hm
  at_ := fun j hj hs z => by
    rw [atKey_del_other (show litP j ≠ litP i from litP_ne (by have := ((ht j).1 hs).2; omega))]
    exact h.at_ j hj ((ht j).1 hs).1 z
  has_ := fun x => by
    by_cases e : x = (i : Int)
    · subst e
      rw [show has (D.del (litP i)) (.int .i64 (i : Int)) = false from has_del_same]
      constructor
      · intro h; cases h
      · rintro ⟨j, h1, h2, h3⟩
        exact absurd (by omega) ((ht j).1 h3).2
    · rw [has_del_other (litP_ne e), h.has_ x]
      constructor
      · rintro ⟨j, rfl, h1, h2⟩
        exact ⟨j, rfl, h1, (ht j).2 ⟨h2, fun q => e (by rw [q])⟩⟩
      · rintro ⟨j, rfl, h1, h2⟩
        exact ⟨j, rfl, h1, ((ht j).1 h2).1⟩
theorem PShows.same {D : DataW Unit} {xs : List EntV} {s t : Nat → Bool} (h : PShows D xs s) (ht : ∀ j, j < xs.length → t j = s j) : PShows D xs t where
  map := h.map
  at_ := fun j hj hs z => h.at_ j hj (by rw [← ht j hj]; exact hs) z
  has_ := fun x => (h.has_ x).trans ⟨fun ⟨j, h1, h2, h3⟩ => ⟨j, h1, h2, by rw [ht j h2]; exact h3⟩, fun ⟨j, h1, h2, h3⟩ => ⟨j, h1, h2, by rw [← ht j h2]; exact h3⟩⟩

theorem keyLawP : Keyed Tryz.prog 3 := int_keyed Tryz.underlying3
/-- Block B is a map of at most n entries that holds the entries of these places. -/
def POwn (w : World) (B n : Nat) (xs : List EntV) (s : Nat → Bool) : Prop := ∃ D, w.ownsMap Tryz.prog 3 entElem B n D ∧ PShows D xs s
theorem POwn.lt {w : World} {B n : Nat} {xs : List EntV} {s : Nat → Bool} (h : POwn w B n xs s) : B < w.heap.size := by obtain ⟨D, h1, _⟩ := h; exact h1.lt
theorem POwn.kept {w w' : World} {B n : Nat} {xs : List EntV} {s : Nat → Bool} {r : Option Nat} (h : POwn w B n xs s) (hg : w.grownBy w' r) (hr : some B ≠ r) : POwn w' B n xs s := by obtain ⟨D, h1, h2⟩ := h; exact ⟨D, h1.kept hg hr, h2⟩
theorem POwn.later {w w' : World} {B n : Nat} {xs : List EntV} {s : Nat → Bool} (h : POwn w B n xs s) (hb : Below w.heap.size w w') : POwn w' B n xs s :=
  h.kept (r := none) ⟨hb.os, hb.tape, hb.output, hb.size, fun k hk _ => hb.block k hk⟩ (by simp)

theorem makeMapN (n : Int) (w : World) : (Instr.makeMap 179 (some (.int .i64 n))).run Tryz.prog w = .ok (.map (some w.heap.size)) (w.alloc (.map #[] 0)) := by
  simp [Instr.makeMap, run_underlying Tryz.underlying179, go_sem]

set_option maxRecDepth 100000 in
set_option maxHeartbeats 1000000 in
theorem implByPlace_any (w : World) (a : Option Addr) (n cap : Nat) (xs : List EntV) (hr : entSh.Row w a n xs) (hn : n ≤ 4194305) :
    Calls Tryz.prog 122 #[.slice a n cap] w fun e w' => (e = .returned (.map (some w.heap.size)) ∧ POwn w' w.heap.size n xs (fun _ => true)) ∧ Below w.heap.size w w' := by
  have HR := hide hr
  have hlen := hr.len
  have hmm := makeMapN
  clear hr
  go_enter Tryz.func122, Tryz.ntmps122
  go_wp2
  go_loopw [11] (fun i wr => ∃ k : Nat, k ≤ n ∧ i = .int .i64 k ∧ Hid (POwn wr w.heap.size k xs (fun j => decide (j < k))) ∧ Hid (Below w.heap.size w wr)) (fun i _ => n - (nI i).toNat)
  case atStart => exact ⟨0, by omega, rfl, hide ⟨_, World.ownsMap_made w _ _ _, PShows.empty xs⟩, hide ((Below.refl _ _).alloc (Nat.le_refl _) _)⟩
  case round =>
    obtain ⟨k, hk, rfl, HM, HB⟩ := hrel
    by_cases hlt : k < n
    · have hkf : k < xs.length := by omega
      obtain ⟨b, off, rfl, hbw, e0, e1, e2, e3, e4⟩ := ent_cells (HR.out.later HB.out) k hkf
      obtain ⟨D, hown, hsh⟩ := HM.out
      have HSH : Hid (PShows (D.put (litP k) (entD (xs[k]))) xs (fun j => decide (j < k + 1))) := hide (hsh.put k hkf (fun j => by simp; omega))
      have HOW := hide (hown.alloc (.cells #[.string (xs[k]).key, .int .i64 (xs[k]).seg, .int .i64 (xs[k]).pos, .int .i64 (xs[k]).len, .int .i64 (xs[k]).bat] 71))
      have hkey : keyOf Tryz.prog 3 (.int .i64 (k : Int)) = some (litP k) := keyOf_int_mk Tryz.underlying3 (by simp [Lit.wf, show IntKind.i64.min = -9223372036854775808 from rfl, show IntKind.i64.max = 9223372036854775807 from rfl]; omega)
      have hel := entElem_mk (xs[k])
      have hB := hown.lt
      obtain ⟨z, hz⟩ : ∃ z, xs[k] = z := ⟨_, rfl⟩
      rw [hz] at e0 e1 e2 e3 e4 HSH HOW hel
      have HEL := hide hel
      have HKEY := hide hkey
      clear hown hsh HM hz hel hkey
      go_wp2_with (at_mapUpdate; refine wpList_mapUpdate_own _ rfl _ _ _ 179 rfl 3 71 keyLawP Tryz.underlying179 _ w.heap.size k _ rfl HOW.out (by unfold maxLen; omega) _ _ _ rfl rfl HKEY.out _ [] HEL.out ?_; intro w1 hown1 hgrow1; have HO1 := hide hown1; have HG1 := hide hgrow1; clear hown1 hgrow1)
      go_roundw
      case rel => exact ⟨k + 1, by omega, by go_num, hide ⟨_, HO1.out, HSH.out⟩, hide ((HB.out.alloc HB.out.size _).grown HG1.out (HB.out.alloc HB.out.size _).size (fun j hj => by cases hj; exact Nat.le_refl _))⟩
      case measure => first | (simp [nI]; done) | (simp [nI]; omega)
    · obtain rfl : k = n := by omega
      have HE : Hid (POwn wr w.heap.size k xs (fun _ => true)) := hide (by
        obtain ⟨D, hown, hsh⟩ := HM.out
        exact ⟨D, hown, hsh.same (fun j hj => (decide_eq_true (by omega)).symm)⟩)
      clear HM
      go_wp2
      go_ret
      exact ⟨⟨rfl, HE.out⟩, HB.out⟩

end Go.Proofs.YtimpokbcfjgdaaaGreatDoor
