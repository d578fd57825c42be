/-
  What the card's list of variables gives: the five errors of the disk, each at a place of its own.
-/
import Derived.Test.YthhjomaccbpnbaaDoorRows
import Derived.Test.YthhjomaccbpnbaaDoorG02
import Derived.Stop.LaidTwo
import Derived.LaidMore
import Derived.Stop.Joined
namespace Go.Proofs.YthhjomaccbpnbaaDoor
open Go.RowKit

theorem gDown : Tryd.prog.globalNamed "loop.example/g01397/impl.errDown" = some 3 := by kernel_rfl
theorem gFull : Tryd.prog.globalNamed "loop.example/g01397/impl.errFull" = some 0 := by kernel_rfl
theorem gNone : Tryd.prog.globalNamed "loop.example/g01397/impl.errNone" = some 4 := by kernel_rfl
theorem gHas : Tryd.prog.globalNamed "loop.example/g01397/impl.errHas" = some 2 := by kernel_rfl
theorem gArgs : Tryd.prog.globalNamed "loop.example/g01397/impl.errArgs" = some 1 := by kernel_rfl
theorem tyDown : (Tryd.prog.globals[3]?).map (·.type) = some 49 := by kernel_rfl
theorem tyFull : (Tryd.prog.globals[0]?).map (·.type) = some 49 := by kernel_rfl
theorem tyNone : (Tryd.prog.globals[4]?).map (·.type) = some 49 := by kernel_rfl
theorem tyHas : (Tryd.prog.globals[2]?).map (·.type) = some 49 := by kernel_rfl
theorem tyArgs : (Tryd.prog.globals[1]?).map (·.type) = some 49 := by kernel_rfl
theorem cellsErr : Tryd.prog.cellsOf 149 = 1 := by kernel_rfl
theorem cellsStr : Tryd.prog.cellsOf 9 = 1 := by kernel_rfl
theorem starErr : "*" ++ "errors.errorString" = "*errors.errorString" := by decide
theorem rowErr (u : TypeId) (h : Tryd.prog.typeName? 3 u = some "*errors.errorString") : u = 124 :=
  typeName_ptr_named (nm := "errors.errorString") (by rw [starErr]; kernel_rfl) (by kernel_rfl) (by decide) u (by rw [starErr]; exact h)
theorem wf64 {u : Int} (h : (Lit.int .i64 u).wf = true) : -9223372036854775808 ≤ u ∧ u ≤ 9223372036854775807 := by
  simp [Lit.wf, IntKind.min, IntKind.max, IntKind.signed, IntKind.bits] at h
  omega
theorem vars5 {H : Type} {enc : TypeId × Value → H} {P : Program} {w : World} {sp : Nat → Bool} {n0 n1 n2 n3 n4 : String} {gs : List (DataW H)} {ps : List MemPlace} (h : DataW.TrodVars enc P w sp [n0, n1, n2, n3, n4] gs ps) : ∃ g1 g2 g3 g4 g5, gs = [g1, g2, g3, g4, g5] := by
  rcases gs with _ | ⟨g1, gs⟩
  · exact h.elim
  obtain ⟨_, _, _, _, _, _, _, _, _, _, h, _⟩ := h
  rcases gs with _ | ⟨g2, gs⟩
  · exact h.elim
  obtain ⟨_, _, _, _, _, _, _, _, _, _, h, _⟩ := h
  rcases gs with _ | ⟨g3, gs⟩
  · exact h.elim
  obtain ⟨_, _, _, _, _, _, _, _, _, _, h, _⟩ := h
  rcases gs with _ | ⟨g4, gs⟩
  · exact h.elim
  obtain ⟨_, _, _, _, _, _, _, _, _, _, h, _⟩ := h
  rcases gs with _ | ⟨g5, gs⟩
  · exact h.elim
  obtain ⟨_, _, _, _, _, _, _, _, _, _, h, _⟩ := h
  rcases gs with _ | ⟨g6, gs⟩
  · exact ⟨g1, g2, g3, g4, g5, rfl⟩
  · exact h.elim

set_option maxRecDepth 100000 in
theorem sent_of_laid {W : World} {x0 x1 x2 x3 x4 : List UInt8} {nm : String} (hrow : ∀ u, Tryd.prog.typeName? 3 u = some nm → u = 124)
    (h : laidMet Tryd.prog [("loop.example/g01397/impl.errDown", .iface nm (.ptr (.agg [.lit (.string x0)]))), ("loop.example/g01397/impl.errFull", .iface nm (.ptr (.agg [.lit (.string x1)]))), ("loop.example/g01397/impl.errNone", .iface nm (.ptr (.agg [.lit (.string x2)]))), ("loop.example/g01397/impl.errHas", .iface nm (.ptr (.agg [.lit (.string x3)]))), ("loop.example/g01397/impl.errArgs", .iface nm (.ptr (.agg [.lit (.string x4)])))] W) :
    ∃ A, SentIn W A := by
  obtain ⟨ps, ⟨g0, t0, cs0, f0, p0, q0, hg0, ht0, hv0, hd0, ⟨g1, t1, cs1, f1, p1, q1, hg1, ht1, hv1, hd1, ⟨g2, t2, cs2, f2, p2, q2, hg2, ht2, hv2, hd2, ⟨g3, t3, cs3, f3, p3, q3, hg3, ht3, hv3, hd3, ⟨g4, t4, cs4, f4, p4, q4, hg4, ht4, hv4, hd4, hq4, e4⟩, e3⟩, e2⟩, e1⟩, e0⟩, hnd, hrows⟩ := h
  obtain rfl := Option.some.inj (gDown.symm.trans hg0)
  obtain rfl := Option.some.inj (gFull.symm.trans hg1)
  obtain rfl := Option.some.inj (gNone.symm.trans hg2)
  obtain rfl := Option.some.inj (gHas.symm.trans hg3)
  obtain rfl := Option.some.inj (gArgs.symm.trans hg4)
  obtain rfl := Option.some.inj (tyDown.symm.trans ht0)
  obtain rfl := Option.some.inj (tyFull.symm.trans ht1)
  obtain rfl := Option.some.inj (tyNone.symm.trans ht2)
  obtain rfl := Option.some.inj (tyHas.symm.trans ht3)
  obtain rfl := Option.some.inj (tyArgs.symm.trans ht4)
  subst e4 e3 e2 e1 e0
  obtain ⟨l0⟩ := cs0
  obtain ⟨l1⟩ := cs1
  obtain ⟨l2⟩ := cs2
  obtain ⟨l3⟩ := cs3
  obtain ⟨l4⟩ := cs4
  have ok0 : ∀ u v, l0 = [.iface u v] → Value.okWide Tryd.prog W .any 0 u v := fun u v e => by
    subst e; exact (hrows 3 0 (by simp [MemPlace.row])).2 u v (by simpa using World.var?_cell hg0 hv0 0)
  have ok1 : ∀ u v, l1 = [.iface u v] → Value.okWide Tryd.prog W .any 0 u v := fun u v e => by
    subst e; exact (hrows 0 0 (by simp [MemPlace.row])).2 u v (by simpa using World.var?_cell hg1 hv1 0)
  have ok2 : ∀ u v, l2 = [.iface u v] → Value.okWide Tryd.prog W .any 0 u v := fun u v e => by
    subst e; exact (hrows 4 0 (by simp [MemPlace.row])).2 u v (by simpa using World.var?_cell hg2 hv2 0)
  have ok3 : ∀ u v, l3 = [.iface u v] → Value.okWide Tryd.prog W .any 0 u v := fun u v e => by
    subst e; exact (hrows 2 0 (by simp [MemPlace.row])).2 u v (by simpa using World.var?_cell hg3 hv3 0)
  have ok4 : ∀ u v, l4 = [.iface u v] → Value.okWide Tryd.prog W .any 0 u v := fun u v e => by
    subst e; exact (hrows 1 0 (by simp [MemPlace.row])).2 u v (by simpa using World.var?_cell hg4 hv4 0)
  obtain ⟨a0, s0, rfl, hc0, hs0, hz0, rfl⟩ := errorString_of_trod Tryd.underlying49 hrow Tryd.underlying124 Tryd.underlying149 rfl rfl Tryd.underlying9 cellsErr cellsStr hd0 ok0
  obtain ⟨a1, s1, rfl, hc1, hs1, hz1, rfl⟩ := errorString_of_trod Tryd.underlying49 hrow Tryd.underlying124 Tryd.underlying149 rfl rfl Tryd.underlying9 cellsErr cellsStr hd1 ok1
  obtain ⟨a2, s2, rfl, hc2, hs2, hz2, rfl⟩ := errorString_of_trod Tryd.underlying49 hrow Tryd.underlying124 Tryd.underlying149 rfl rfl Tryd.underlying9 cellsErr cellsStr hd2 ok2
  obtain ⟨a3, s3, rfl, hc3, hs3, hz3, rfl⟩ := errorString_of_trod Tryd.underlying49 hrow Tryd.underlying124 Tryd.underlying149 rfl rfl Tryd.underlying9 cellsErr cellsStr hd3 ok3
  obtain ⟨a4, s4, rfl, hc4, hs4, hz4, rfl⟩ := errorString_of_trod Tryd.underlying49 hrow Tryd.underlying124 Tryd.underlying149 rfl rfl Tryd.underlying9 cellsErr cellsStr hd4 ok4
  refine ⟨⟨a4, a3, a1, a0, a2⟩, ?_⟩
  have v0 := World.var?_cell hg0 hv0 0
  have v1 := World.var?_cell hg1 hv1 0
  have v2 := World.var?_cell hg2 hv2 0
  have v3 := World.var?_cell hg3 hv3 0
  have v4 := World.var?_cell hg4 hv4 0
  refine { cArgs := by simpa using v4, cHas := by simpa using v3, cFull := by simpa using v1, cDown := by simpa using v0, cNone := by simpa using v2, bArgs := (hrows a4.block a4.off (by simp [MemPlace.row])).1, bHas := (hrows a3.block a3.off (by simp [MemPlace.row])).1, bFull := (hrows a1.block a1.off (by simp [MemPlace.row])).1, bDown := (hrows a0.block a0.off (by simp [MemPlace.row])).1, bNone := (hrows a2.block a2.off (by simp [MemPlace.row])).1, ne := ?_ }
  have n43 : a4 ≠ a3 := by rintro rfl; simp [MemPlace.row] at hnd
  have n41 : a4 ≠ a1 := by rintro rfl; simp [MemPlace.row] at hnd
  have n40 : a4 ≠ a0 := by rintro rfl; simp [MemPlace.row] at hnd
  have n42 : a4 ≠ a2 := by rintro rfl; simp [MemPlace.row] at hnd
  have n31 : a3 ≠ a1 := by rintro rfl; simp [MemPlace.row] at hnd
  have n30 : a3 ≠ a0 := by rintro rfl; simp [MemPlace.row] at hnd
  have n32 : a3 ≠ a2 := by rintro rfl; simp [MemPlace.row] at hnd
  have n10 : a1 ≠ a0 := by rintro rfl; simp [MemPlace.row] at hnd
  have n12 : a1 ≠ a2 := by rintro rfl; simp [MemPlace.row] at hnd
  have n02 : a0 ≠ a2 := by rintro rfl; simp [MemPlace.row] at hnd
  simp only [List.nodup_cons, List.mem_cons, List.not_mem_nil, or_false, not_or, List.nodup_nil, and_true, not_false_iff]
  exact ⟨⟨n43, n41, n40, n42⟩, ⟨n31, n30, n32⟩, ⟨n10, n12⟩, n02⟩

end Go.Proofs.YthhjomaccbpnbaaDoor
