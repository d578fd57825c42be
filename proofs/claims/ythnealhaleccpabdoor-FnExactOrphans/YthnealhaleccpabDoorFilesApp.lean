/-
  Files put behind a row of the call's own.
-/
import Derived.Test.YthnealhaleccpabDoorToDisk
import Derived.Test.YthnealhaleccpabDoorMarkDisk
namespace Go.Proofs.YthnealhaleccpabDoor
open Go.RowKit
open Plain

theorem FOwn.setNe {w : World} {base : Nat} {v : Value} {fs : List FileV} (h : FOwn w base v fs) (p : Addr) (u : Value) (hp : v.ownBlock ≠ some p.block) : FOwn (w.setCell p u) base v fs := by
  refine ⟨h.1, ?_⟩
  rcases h.2 with h | ⟨g, c, cur, e, hbg, hg, h1⟩
  · exact .inl h
  · refine .inr ⟨g, c, cur, e, hbg, ?_, h1⟩
    rw [Below.heap_setCell w p u g (by intro q; apply hp; rw [e, ← q]; rfl)]
    exact hg
theorem FOwn.blk {w : World} {base : Nat} {v : Value} {fs : List FileV} (h : FOwn w base v fs) : ∀ g, v.ownBlock = some g → base ≤ g ∧ g < w.heap.size := World.ownsRow.lt h
theorem set_get_self {α : Type} (xs : List α) (j : Nat) (x : α) (h : xs[j]? = some x) : xs.set j x = xs := by
  apply List.ext_getElem?
  intro i
  by_cases e : j = i
  · subst e
    rw [List.getElem?_set_self (List.getElem?_eq_some_iff.1 h).1, h]
  · rw [List.getElem?_set_ne e]
theorem FOwn.putSafe {w : World} {base g n cap : Nat} {fs : List FileV} (h : FOwn w base (.slice (some ⟨g, 0, none⟩) n cap) fs) (i : Nat) (hi : i < fs.length) (z : Int) :
    FOwn (w.setCell ⟨g, i * 3 + 2, none⟩ (.int .i64 z)) base (.slice (some ⟨g, 0, none⟩) n cap) (fs.set i ⟨(fs[i]).name, (fs[i]).text, z⟩) := by
  have hn := h.len
  have hg := fcells_get fs i hi
  unfold FOwn at h ⊢
  rw [hn] at h
  rw [List.length_set, hn, ← fcells_set fs i _ hi, set_get_self _ _ _ hg.1, set_get_self _ _ _ hg.2.1]
  exact (h.stored (i * 3 + 2) _).1
theorem FOwn.putText {w : World} {base g n cap : Nat} {fs : List FileV} (h : FOwn w base (.slice (some ⟨g, 0, none⟩) n cap) fs) (i : Nat) (hi : i < fs.length) (t : ByteArray) :
    FOwn (w.setCell ⟨g, i * 3 + 1, none⟩ (.string t)) base (.slice (some ⟨g, 0, none⟩) n cap) (fs.set i ⟨(fs[i]).name, t, (fs[i]).safe⟩) := by
  have hn := h.len
  have hg := fcells_get fs i hi
  unfold FOwn at h ⊢
  rw [hn] at h
  have e2 : ((fcells fs).set (i * 3 + 1) (.string t))[i * 3 + 2]? = some (.int .i64 (fs[i]).safe) := by rw [List.getElem?_set_ne (by omega)]; exact hg.2.2
  rw [List.length_set, hn, ← fcells_set fs i _ hi, set_get_self _ _ _ hg.1, set_get_self _ _ _ e2]
  exact (h.stored (i * 3 + 1) _).1
theorem addr_add (b off j : Nat) : (⟨b, off, none⟩ : Addr).add j = ⟨b, off + j, none⟩ := by unfold Addr.add; split <;> simp_all
theorem fcells_one (fs : List FileV) : ∀ u ∈ fcells fs, u.oneCell' = true := by
  induction fs with
  | nil => intro u h; simp [fcells] at h
  | cons f r ih =>
    intro u h
    simp only [fcells, List.mem_cons] at h
    rcases h with rfl | rfl | rfl | h
    · rfl
    · rfl
    · rfl
    · exact ih u h
/-- What a slice of files shows, cell by cell. -/
theorem FRow.src {w : World} {base : Nat} {ad : Addr} {n : Nat} {fs : List FileV} (h : FRow w base (some ad) n fs) : ∀ j u, (fcells fs)[j]? = some u → w.cell? (ad.add j) = some u := by
  intro j u hj
  have hjl : j < fs.length * 3 := by
    have := (List.getElem?_eq_some_iff.1 hj).1
    rw [fcells_length] at this
    exact this
  have hi : j / 3 < fs.length := by omega
  obtain ⟨b, off, e, _, _, c0, c1, c2⟩ := h.cells (j / 3) hi
  obtain ⟨g0, g1, g2⟩ := fcells_get fs (j / 3) hi
  injection e with e
  subst e
  rw [addr_add]
  rcases (by omega : j % 3 = 0 ∨ j % 3 = 1 ∨ j % 3 = 2) with q | q | q
  · have h2 : (fcells fs)[j]? = some (.string (fs[j / 3]).name) := by rw [← g0]; congr 1; omega
    rw [h2] at hj
    injection hj with hj
    rw [← hj, show off + j = off + j / 3 * 3 by omega]
    exact c0
  · have h2 : (fcells fs)[j]? = some (.string (fs[j / 3]).text) := by rw [← g1]; congr 1; omega
    rw [h2] at hj
    injection hj with hj
    rw [← hj, show off + j = off + j / 3 * 3 + 1 by omega]
    exact c1
  · have h2 : (fcells fs)[j]? = some (.int .i64 (fs[j / 3]).safe) := by rw [← g2]; congr 1; omega
    rw [h2] at hj
    injection hj with hj
    rw [← hj, show off + j = off + j / 3 * 3 + 2 by omega]
    exact c2

/-- 'out = append(out, fs...)', out a row of the call's own: a law for the walk. -/
theorem wpList_app_files {ops : Array Oper} {rest : List Oper} {o : Oper} {act : Act} {Q : Exit → Act → World → Prop} (hgd : o.guard = none) (s x : Operand)
    (ho : o.op = .call { callee := .builtin .append, args := #[s, x], argTypes := #[35, 35] }) {w : World} {base : Nat} {v : Value} {fs gs : List FileV} (hown : FOwn w base v fs) (hb : base ≤ w.heap.size)
    {ad : Addr} {m c : Nat} (hr : FRow w 0 (some ad) m gs) (hn : fs.length + m ≤ 1099511627776)
    (hs : act.eval s = v) (hx : act.eval x = .slice (some ad) m c)
    (h : ∀ a' n' cap' w', n' = fs.length + m → FOwn w' base (.slice a' n' cap') (fs ++ gs) → w.grownBy w' v.ownBlock → wpList Tryd.prog ops Q rest (act.put o.dst (.slice a' n' cap')) w') : wpList Tryd.prog ops Q (o :: rest) act w := by
  obtain ⟨i0, hi, hz0, hz1, hz2⟩ := info_parts Tryd.infoF
  have hm := hr.len
  refine wpList_append_own (P := Tryd.prog) w hgd s x 35 ho base 56 i0 _ 3 40 Tryd.underlying35 hi hz0 hz1 hz2 rfl (by decide) v fs.length (fcells fs) hs hown
    ad m c (fcells gs) hx (by rw [fcells_length, hm]) hr.src (fcells_one gs) (by unfold maxLen; omega) (by omega) hb ?_
  intro v' w' ho' hg _
  have hval : ∃ a' cap', v' = .slice a' (fs.length + m) cap' := by
    rcases ho'.2 with ⟨e, h0⟩ | ⟨g, cap, cur, e, _⟩
    · exact ⟨none, 0, by rw [e, h0]⟩
    · exact ⟨_, _, e⟩
  obtain ⟨a', cap', rfl⟩ := hval
  refine h a' _ cap' w' rfl ?_ hg
  unfold FOwn
  rw [List.length_append, hm, fcells_append]
  exact ho'

end Go.Proofs.YthnealhaleccpabDoor
