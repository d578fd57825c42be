/-
  What the card's list of variables gives: the table of sixteen, and the two errors of a log, each at a place of its own.
-/
import Derived.Test.YtimpokbcfjgdaaaGreatDoorRows
import Derived.Test.YtimpokbcfjgdaaaGreatDoorHG29
import Derived.Stop.LaidTwo
import Derived.LaidMore
import Derived.Stop.Joined
import Derived.Lib.LaidTab
namespace Go.Proofs.YtimpokbcfjgdaaaGreatDoor
open Go.RowKit

theorem gTorn : Tryz.prog.globalNamed "loop.example/g01397/impl.errTorn" = some 0 := by kernel_rfl
theorem gNoRec : Tryz.prog.globalNamed "loop.example/g01397/impl.errNoRec" = some 1 := by kernel_rfl
theorem tyTorn : (Tryz.prog.globals[0]?).map (·.type) = some 66 := by kernel_rfl
theorem tyNoRec : (Tryz.prog.globals[1]?).map (·.type) = some 66 := by kernel_rfl
theorem tyTab : (Tryz.prog.globals[2]?).map (·.type) = some 152 := by kernel_rfl
theorem cellsE : Tryz.prog.cellsOf 109 = 1 := by kernel_rfl
theorem cellsT : Tryz.prog.cellsOf 152 = 16 := by kernel_rfl
theorem cellsErr : Tryz.prog.cellsOf 253 = 1 := by kernel_rfl
theorem cellsStr : Tryz.prog.cellsOf 9 = 1 := by kernel_rfl
theorem starErr : "*" ++ "errors.errorString" = "*errors.errorString" := by decide
theorem rowErr (u : TypeId) (h : Tryz.prog.typeName? 3 u = some "*errors.errorString") : u = 231 :=
  typeName_ptr_named (nm := "errors.errorString") (by rw [starErr]; kernel_rfl) (by kernel_rfl) (by decide) u (by rw [starErr]; exact h)
theorem vars3 {H : Type} {enc : TypeId × Value → H} {P : Program} {w : World} {sp : Nat → Bool} {n0 n1 n2 : String} {gs : List (DataW H)} {ps : List MemPlace} (h : DataW.TrodVars enc P w sp [n0, n1, n2] gs ps) : ∃ g1 g2 g3, gs = [g1, g2, g3] := by
  rcases gs with _ | ⟨g1, gs⟩
  · exact h.elim
  obtain ⟨_, _, _, _, _, _, _, _, _, _, h, _⟩ := h
  rcases gs with _ | ⟨g2, gs⟩
  · exact h.elim
  obtain ⟨_, _, _, _, _, _, _, _, _, _, h, _⟩ := h
  rcases gs with _ | ⟨g3, gs⟩
  · exact h.elim
  obtain ⟨_, _, _, _, _, _, _, _, _, _, h, _⟩ := h
  rcases gs with _ | ⟨g4, gs⟩
  · exact ⟨g1, g2, g3, rfl⟩
  · exact h.elim

set_option maxRecDepth 100000 in
theorem err_of_laid {W : World} {dt : DataW Unit} {x1 x2 : List UInt8} {nm : String} (hrow : ∀ u, Tryz.prog.typeName? 3 u = some nm → u = 231)
    (h : laidMet Tryz.prog [("loop.example/g01397/impl.sumTable", dt), ("loop.example/g01397/impl.errTorn", .iface nm (.ptr (.agg [.lit (.string x1)]))), ("loop.example/g01397/impl.errNoRec", .iface nm (.ptr (.agg [.lit (.string x2)])))] W) :
    ∃ A B, ErrIn W A B := by
  obtain ⟨ps, ⟨g0, t0, cs0, f0, p0, q0, hg0, ht0, hv0, hd0, ⟨g1, t1, cs1, f1, p1, q1, hg1, ht1, hv1, hd1, ⟨g2, t2, cs2, f2, p2, q2, hg2, ht2, hv2, hd2, hq2, e2⟩, e1⟩, e0⟩, hnd, hrows⟩ := h
  obtain rfl := Option.some.inj (gTorn.symm.trans hg1)
  obtain rfl := Option.some.inj (gNoRec.symm.trans hg2)
  obtain rfl := Option.some.inj (tyTorn.symm.trans ht1)
  obtain rfl := Option.some.inj (tyNoRec.symm.trans ht2)
  subst e2 e1 e0
  obtain ⟨l1⟩ := cs1
  obtain ⟨l2⟩ := cs2
  have ok1 : ∀ u v, l1 = [.iface u v] → Value.okWide Tryz.prog W .any 0 u v := fun u v e => by
    subst e; exact (hrows 0 0 (by simp [MemPlace.row])).2 u v (by simpa using World.var?_cell hg1 hv1 0)
  have ok2 : ∀ u v, l2 = [.iface u v] → Value.okWide Tryz.prog W .any 0 u v := fun u v e => by
    subst e; exact (hrows 1 0 (by simp [MemPlace.row])).2 u v (by simpa using World.var?_cell hg2 hv2 0)
  obtain ⟨a1, s1, rfl, hc1, hs1, hz1, rfl⟩ := errorString_of_trod Tryz.underlying66 hrow Tryz.underlying231 Tryz.underlying253 rfl rfl Tryz.underlying9 cellsErr cellsStr hd1 ok1
  obtain ⟨a2, s2, rfl, hc2, hs2, hz2, rfl⟩ := errorString_of_trod Tryz.underlying66 hrow Tryz.underlying231 Tryz.underlying253 rfl rfl Tryz.underlying9 cellsErr cellsStr hd2 ok2
  refine ⟨a1, a2, ?_⟩
  have v1 := World.var?_cell hg1 hv1 0
  have v2 := World.var?_cell hg2 hv2 0
  refine { cTorn := by simpa using v1, cNoRec := by simpa using v2, bTorn := (hrows a1.block a1.off (by simp [MemPlace.row])).1, bNoRec := (hrows a2.block a2.off (by simp [MemPlace.row])).1, ne := ?_ }
  rintro rfl
  have hnd2 := (List.nodup_append.1 hnd).2.1
  simp [MemPlace.row] at hnd2

end Go.Proofs.YtimpokbcfjgdaaaGreatDoor
