/-
  Files of a disk in a map by their names: how a file in it reads, and what the map holds, as a list of files in no order.
-/
import Derived.Test.YthhjomaccbpnbabDoorRise
import Derived.Maps.Ext
import Derived.Sort.KeysCollected
namespace Go.Proofs.YthhjomaccbpnbabDoor
open Go.RowKit Go.Maps
open Plain

def FileV.val (f : FileV) : Value := .agg #[.string f.name, .string f.text, .int .i64 f.safe]
def fileD (f : FileV) : DataW Unit := .agg [.lit (.string f.name.data.toList), .lit (.string f.text.data.toList), .lit (.int .i64 f.safe)]
theorem fileD_inj {f g : FileV} (h : fileD f = fileD g) : f = g := by
  obtain ⟨⟨⟨n⟩⟩, ⟨⟨t⟩⟩, s⟩ := f
  obtain ⟨⟨⟨n'⟩⟩, ⟨⟨t'⟩⟩, s'⟩ := g
  simp [fileD] at h
  obtain ⟨rfl, rfl, rfl⟩ := h
  rfl
/-- How a file in the map reads. -/
def fileElem : Value → Option (DataW Unit × List MemPlace)
  | .agg cs => match cs.toList with
    | [.string n, .string t, .int .i64 s] => some (fileD ⟨n, t, s⟩, [])
    | _ => none
  | _ => none
theorem fileElem_mk (f : FileV) : fileElem f.val = some (fileD f, []) := rfl
theorem fileElem_inv {v : Value} {z : DataW Unit × List MemPlace} (h : fileElem v = some z) : ∃ f : FileV, v = f.val ∧ z = (fileD f, []) := by
  unfold fileElem at h
  split at h
  · rename_i cs
    split at h
    · rename_i n t s e
      cases h
      refine ⟨⟨n, t, s⟩, ?_, rfl⟩
      obtain ⟨l⟩ := cs
      simp only at e
      subst e
      rfl
    · cases h
  · cases h
def litN (f : FileV) : Lit := .string f.name.data.toList
theorem litN_key (f : FileV) : WideAt.IsKeyLit (litN f) := trivial

/-- The map holds just these files. -/
structure Shows (D : DataW Unit) (S : List FileV) : Prop where
  tidy : Tidy D
  apart : S.Pairwise (fun f g => f.name ≠ g.name)
  size : Maps.size D = S.length
  at_ : ∀ f, f ∈ S → ∀ z, D.atKey (litN f) z = fileD f
  has_ : ∀ x : ByteArray, has D (.string x.data.toList) = true ↔ ∃ f, f ∈ S ∧ f.name = x
theorem Shows.empty : Shows (.map []) [] where
  tidy := tidy_empty
  apart := List.Pairwise.nil
  size := rfl
  at_ := fun f hf => by simp at hf
  has_ := fun x => by simp [has]
theorem Shows.perm {D : DataW Unit} {S S' : List FileV} (h : Shows D S) (hp : S.Perm S') : Shows D S' where
  tidy := h.tidy
  apart := (hp.pairwise_iff (fun {_ _} hne => Ne.symm hne)).1 h.apart
  size := by rw [h.size, hp.length_eq]
  at_ := fun f hf => h.at_ f (hp.mem_iff.2 hf)
  has_ := fun x => (h.has_ x).trans ⟨fun ⟨f, h1, h2⟩ => ⟨f, hp.mem_iff.1 h1, h2⟩, fun ⟨f, h1, h2⟩ => ⟨f, hp.mem_iff.2 h1, h2⟩⟩
theorem lit_ne {x y : ByteArray} (h : x ≠ y) : (Lit.string x.data.toList) ≠ Lit.string y.data.toList := fun e => h (name_of_data (by simpa using e))
/-- The files of another name. -/
def others (S : List FileV) (x : ByteArray) : List FileV := S.filter (fun g => decide (g.name ≠ x))
theorem mem_others {S : List FileV} {x : ByteArray} {g : FileV} : g ∈ others S x ↔ g ∈ S ∧ g.name ≠ x := by simp [others]
theorem apart_eq {S : List FileV} (h : S.Pairwise (fun f g => f.name ≠ g.name)) {f g : FileV} (hf : f ∈ S) (hg : g ∈ S) (e : f.name = g.name) : f = g := by
  induction S with
  | nil => simp at hf
  | cons a r ih =>
    obtain ⟨h1, h2⟩ := List.pairwise_cons.1 h
    rcases List.mem_cons.1 hf with ef | hf'
    · rcases List.mem_cons.1 hg with eg | hg'
      · rw [ef, eg]
      · exact absurd (ef ▸ e) (h1 g hg')
    · rcases List.mem_cons.1 hg with eg | hg'
      · exact absurd (eg ▸ e).symm (h1 f hf')
      · exact ih h2 hf' hg'
theorem others_none {S : List FileV} {x : ByteArray} (h : ∀ g, g ∈ S → g.name ≠ x) : others S x = S := by
  unfold others
  rw [List.filter_eq_self]
  intro g hg
  simpa using h g hg
theorem length_others {S : List FileV} (h : S.Pairwise (fun f g => f.name ≠ g.name)) {f : FileV} (hf : f ∈ S) : (others S f.name).length + 1 = S.length := by
  induction S with
  | nil => simp at hf
  | cons a r ih =>
    obtain ⟨h1, h2⟩ := List.pairwise_cons.1 h
    rcases List.mem_cons.1 hf with rfl | hf
    · have : others (f :: r) f.name = r := by
        have e := others_none (S := r) (x := f.name) (fun g hg e => h1 g hg e.symm)
        unfold others at e ⊢
        rw [List.filter_cons_of_neg (by simp), e]
      rw [this]
      rfl
    · have hne : a.name ≠ f.name := h1 f hf
      have : others (a :: r) f.name = a :: others r f.name := by
        unfold others
        rw [List.filter_cons_of_pos (by simpa using hne)]
      rw [this, List.length_cons, List.length_cons, ih h2 hf]
theorem Shows.put {D : DataW Unit} {S : List FileV} (h : Shows D S) (f : FileV) : Shows (D.put (litN f) (fileD f)) (f :: others S f.name) where
  tidy := h.tidy.put (litN_key f) _
  apart := List.pairwise_cons.2 ⟨fun g hg e => (mem_others.1 hg).2 e.symm, h.apart.sublist List.filter_sublist⟩
  size := by
    rw [size_put h.tidy]
    by_cases hh : has D (litN f) = true
    · obtain ⟨g, hg, e⟩ := (h.has_ f.name).1 hh
      have := length_others h.apart hg
      rw [e] at this
      rw [if_pos hh, h.size, List.length_cons, this]
    · have hn : ∀ g, g ∈ S → g.name ≠ f.name := fun g hg e => hh ((h.has_ f.name).2 ⟨g, hg, e⟩)
      rw [if_neg hh, h.size, others_none hn, List.length_cons]
  at_ := fun g hg z => by
    rcases List.mem_cons.1 hg with rfl | hg
    · exact atKey_put_same h.tidy.isMap (litN_key g) _ _
    · obtain ⟨h1, h2⟩ := mem_others.1 hg
      rw [atKey_put_other (show litN g ≠ litN f from lit_ne h2)]
      exact h.at_ g h1 z
  has_ := fun x => by
    by_cases e : x = f.name
    · subst e
      rw [show has (D.put (litN f) (fileD f)) (.string f.name.data.toList) = true from has_put_same h.tidy.isMap (litN_key f) _]
      exact ⟨fun _ => ⟨f, List.mem_cons_self, rfl⟩, fun _ => rfl⟩
    · rw [has_put_other (show (Lit.string x.data.toList) ≠ litN f from lit_ne e), h.has_ x]
      constructor
      · rintro ⟨g, h1, rfl⟩
        exact ⟨g, List.mem_cons_of_mem _ (mem_others.2 ⟨h1, e⟩), rfl⟩
      · rintro ⟨g, h1, rfl⟩
        rcases List.mem_cons.1 h1 with rfl | h1
        · exact absurd rfl e
        · exact ⟨g, (mem_others.1 h1).1, rfl⟩
theorem Shows.del {D : DataW Unit} {S : List FileV} (h : Shows D S) (x : ByteArray) : Shows (D.del (.string x.data.toList)) (others S x) where
  tidy := h.tidy.del _
  apart := h.apart.sublist List.filter_sublist
  size := by
    have hs := size_del (k := .string x.data.toList) h.tidy
    by_cases hh : has D (.string x.data.toList) = true
    · obtain ⟨g, hg, rfl⟩ := (h.has_ x).1 hh
      have := length_others h.apart hg
      rw [if_pos hh, h.size] at hs
      omega
    · have hn : ∀ g, g ∈ S → g.name ≠ x := fun g hg e => hh ((h.has_ x).2 ⟨g, hg, e⟩)
      rw [if_neg hh, h.size] at hs
      rw [others_none hn]
      omega
  at_ := fun g hg z => by
    obtain ⟨h1, h2⟩ := mem_others.1 hg
    rw [atKey_del_other (show litN g ≠ .string x.data.toList from lit_ne h2)]
    exact h.at_ g h1 z
  has_ := fun y => by
    by_cases e : y = x
    · subst e
      rw [has_del_same]
      constructor
      · intro h; cases h
      · rintro ⟨g, h1, h2⟩
        exact absurd h2 (mem_others.1 h1).2
    · rw [has_del_other (lit_ne e), h.has_ y]
      constructor
      · rintro ⟨g, h1, rfl⟩
        exact ⟨g, mem_others.2 ⟨h1, e⟩, rfl⟩
      · rintro ⟨g, h1, rfl⟩
        exact ⟨g, (mem_others.1 h1).1, rfl⟩
theorem Shows.no {D : DataW Unit} {S : List FileV} (h : Shows D S) {x : ByteArray} (hn : ∀ g, g ∈ S → g.name ≠ x) : has D (.string x.data.toList) = false := by
  cases hh : has D (.string x.data.toList) with
  | false => rfl
  | true =>
    obtain ⟨g, h1, h2⟩ := (h.has_ x).1 hh
    exact absurd h2 (hn g h1)

theorem Rising.apart {S : List FileV} (h : Rising S) : S.Pairwise (fun f g => f.name ≠ g.name) := h.imp (fun {a b} hab e => by rw [e] at hab; exact List.lt_irrefl _ hab)
/-- A list that is sorted by name, of the files of one that rises: that one. -/
theorem Rising.eq_of {S T : List FileV} (h : Rising S) (hp : T.Perm S) (hs : T.Pairwise (fun f g => ¬ g.name.data.toList < f.name.data.toList)) : T = S := by
  refine List.Perm.eq_of_pairwise (le := fun f g => ¬ g.name.data.toList < f.name.data.toList) (fun a b ha hb h1 h2 => ?_) hs (h.imp (fun {a b} hab => List.lt_asymm hab)) hp
  refine apart_eq h.apart (hp.mem_iff.1 ha) hb (name_of_data ?_)
  rcases List.le_iff_lt_or_eq.1 (List.not_lt.1 h1) with h3 | h3
  · exact absurd h3 h2
  · exact h3

end Go.Proofs.YthhjomaccbpnbabDoor
