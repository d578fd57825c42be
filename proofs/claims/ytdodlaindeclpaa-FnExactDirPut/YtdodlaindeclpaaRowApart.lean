/-
  Rows that stand while another one is written.
-/
import Derived.Test.YtdodlaindeclpaaOwnB
namespace Go.Proofs.Ytdodlaindeclpaa
open Go.RowKit
open Plain

/-- A row in other blocks stands. -/
theorem row_apart {w w' : World} {base base' e sz n e' sz' n' : Nat} {v u : Value} {xs ys : List Value} (h : w.ownsRow base e sz v n xs) {W : World} (h0 : W.ownsRow base e sz v n xs) (hW : W.heap.size ≤ base') (hu : w.ownsRow base' e' sz' u n' ys) (hg : w.grownBy w' u.ownBlock) : w'.ownsRow base e sz v n xs := by
  refine World.ownsRow.kept h hg ?_
  cases q : v.ownBlock with
  | none => exact .inl rfl
  | some g =>
    refine .inr (fun e => ?_)
    have h1 := (World.ownsRow.lt h0 g q).2
    have h2 := (World.ownsRow.lt hu g e.symm).1
    omega
/-- .. of a row ahead of it. -/
theorem row_behind {w w' : World} {base base' e sz n e' sz' n' : Nat} {v u : Value} {xs ys : List Value} (h : w.ownsRow base e sz v n xs) {W : World} (hu0 : W.ownsRow base' e' sz' u n' ys) (hW : W.heap.size ≤ base) (hg : w.grownBy w' u.ownBlock) : w'.ownsRow base e sz v n xs := by
  refine World.ownsRow.kept h hg ?_
  cases q : v.ownBlock with
  | none => exact .inl rfl
  | some g =>
    refine .inr (fun e => ?_)
    have h1 := (World.ownsRow.lt hu0 g e.symm).2
    have h2 := (World.ownsRow.lt h g q).1
    omega
theorem grown_to {w w' : World} {u : Option Nat} {n : Nat} (hg : w.grownBy w' u) (hn : n ≤ w.heap.size) (hu : ∀ g, u = some g → n ≤ g) : Below n w w' := (Below.refl n w).grown hg hn hu

end Go.Proofs.Ytdodlaindeclpaa
