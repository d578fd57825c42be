/-
  String of strings.Builder at this seat, of a builder that is read and stays one.
-/
import Derived.Test.YtimpokbcfjgdaaaDoorBuilderI
import Derived.Shelf.Strings.BuilderF
namespace Go.Proofs.YtimpokbcfjgdaaaDoor
open Go.RowKit
open Plain

theorem bldStringF_any (B b : Nat) (t : ByteArray) (w : World) (h : Lib.IsBuilderF 48 5 B b (Lib.strCells t) w) (hBw : B ≤ w.heap.size) :
    Calls Tryd.prog 26 #[.pointer (some ⟨b, 0, none⟩)] w fun e w' => e = .returned (.string t) ∧ Lib.IsBuilderF 48 5 B b (Lib.strCells t) w' ∧ Below B w w' := Any.Builder_String_any_f Tryd.lays169 Tryd.Builder_Extra_169 B b t.data.toList w h hBw
theorem bldF_later {B b : Nat} {p : Value} {bs : List Value} {w w' : World} (h : Lib.BuilderAtF 48 5 B b p bs w) (hb : Below w.heap.size w w') : Lib.BuilderAtF 48 5 B b p bs w' := by
  have hlt := h.lt
  obtain ⟨hB, v, hbk, hown, hne⟩ := h
  refine ⟨hB, v, (hb.block b hlt).trans hbk, ⟨hown.1, ?_⟩, hne⟩
  rcases hown.2 with h | ⟨g, c, cur, fz, e, hbg, hg, h1⟩
  · exact .inl h
  · exact .inr ⟨g, c, cur, fz, e, hbg, (hb.block g (Array.getElem?_eq_some_iff.1 hg).1).trans hg, h1⟩
theorem isbF_later {B b : Nat} {bs : List Value} {w w' : World} (h : Lib.IsBuilderF 48 5 B b bs w) (hb : Below w.heap.size w w') : Lib.IsBuilderF 48 5 B b bs w' := by
  rcases h with h | h
  · exact .inl (bldF_later h hb)
  · exact .inr (bldF_later h hb)
theorem isbF_lt {B b : Nat} {bs : List Value} {w : World} (h : Lib.IsBuilderF 48 5 B b bs w) : b < w.heap.size := by
  rcases h with h | h
  · exact h.lt
  · exact h.lt

end Go.Proofs.YtimpokbcfjgdaaaDoor
