/-
  A disk that comes in as an argument: what its reading tells of the world.
-/
import Derived.Test.YtnckdfidehbcaaaSzDisk
import Derived.Deep.Slices
import Derived.Deep.Strs
namespace Go.Proofs.Ytnckdfidehbcaaa
open Go.RowKit Go.Deep
open Plain

theorem list_of {Q : Nat → FileV → Prop} : ∀ n, (∀ i, i < n → ∃ f, Q i f) → ∃ fs : List FileV, fs.length = n ∧ ∀ i, (h : i < fs.length) → Q i (fs[i])
  | 0, _ => ⟨[], rfl, fun i h => by simp at h⟩
  | n + 1, h => by
    obtain ⟨fs, hl, hq⟩ := list_of n (fun i hi => h i (by omega))
    obtain ⟨f, hf⟩ := h n (by omega)
    refine ⟨fs ++ [f], by simp [hl], fun i hi => ?_⟩
    rcases Nat.lt_or_ge i fs.length with h' | h'
    · rw [List.getElem_append_left h']; exact hq i h'
    · have e : i = n := by simp at hi; omega
      subst e
      rw [List.getElem_append_right h']
      simpa using hf

theorem cellsLF : Try.prog.cellsOf 86 = 3 := by kernel_rfl
theorem cells9' : Try.prog.cellsOf 9 = 1 := by kernel_rfl
theorem cells3' : Try.prog.cellsOf 3 = 1 := by kernel_rfl
theorem cellsLFS : Try.prog.cellsOf 37 = 1 := by kernel_rfl
theorem cells4' : Try.prog.cellsOf 4 = 1 := by kernel_rfl
theorem cellsLD : Try.prog.cellsOf 39 = 4 := by kernel_rfl

section
variable {H : Type} {enc : TypeId × Value → H} {w : World} {base : Nat} {spare : Nat → Bool} {held : Bool}

set_option maxRecDepth 100000 in
/-- A file's cells. -/
theorem open_file {fuel : Nat} {cs : List Value} {x : DataW H × List MemPlace} (h : DataW.trod enc Try.prog w base spare held fuel 86 cs = some x) :
    ∃ f : FileV, cs = [.string f.name, .string f.text, .int .i64 f.safe] ∧ f.name.size ≤ maxLen ∧ f.text.size ≤ maxLen ∧ (Lit.int .i64 f.safe).wf = true := by
  obtain ⟨y0, y1, y2, n, _, hl, h0, h1, h2⟩ := trod_struct3 Try.underlying86 h
  rw [cellsLF] at hl
  match cs, hl with
  | [v0, v1, v2], _ =>
    obtain ⟨s0, e0, _, z0⟩ := DataW.trod_string Try.underlying9 h0
    obtain ⟨s1, e1, _, z1⟩ := DataW.trod_string Try.underlying9 h1
    obtain ⟨k, e2, _, z2⟩ := DataW.trod_int Try.underlying3 h2
    simp [cells9', cells3'] at e0 e1 e2
    subst e0; subst e1; subst e2
    exact ⟨⟨s0, s1, k⟩, rfl, z0, z1, z2⟩

set_option maxRecDepth 100000 in
theorem open_files {fuel : Nat} {cs : List Value} {x : DataW H × List MemPlace} (h : DataW.trod enc Try.prog w base spare held fuel 37 cs = some x) :
    ∃ (a : Option Addr) (n cap : Nat) (fs : List FileV), cs = [.slice a n cap] ∧ FRow w 0 a n fs ∧ Fits fs ∧ n ≤ maxLen ∧ ∀ i, (h : i < fs.length) → (Lit.int .i64 (fs[i]).safe).wf = true := by
  rcases open_slice Try.underlying37 h with ⟨rfl, _⟩ | ⟨a, len, cap, m, n, D, Pl, rfl, hb, hl, hm, hmm, _, hx⟩
  · exact ⟨none, 0, 0, [], rfl, ⟨rfl, fun i hi => by simp at hi⟩, fun i hi => by simp at hi, by omega, fun i hi => by simp at hi⟩
  · have hlm : len ≤ m := by rw [hmm]; split <;> omega
    rw [cellsLF] at hx
    obtain ⟨fs, hfl, hfs⟩ := list_of (Q := fun i f => (∃ b off, a = ⟨b, off, none⟩ ∧ b < w.heap.size ∧ w.cell? ⟨b, off + i * 3, none⟩ = some (.string f.name) ∧ w.cell? ⟨b, off + i * 3 + 1, none⟩ = some (.string f.text) ∧ w.cell? ⟨b, off + i * 3 + 2, none⟩ = some (.int .i64 f.safe)) ∧ f.name.size ≤ maxLen ∧ f.text.size ≤ maxLen ∧ (Lit.int .i64 f.safe).wf = true) len (fun i hi => by
      obtain ⟨cs', h1, h2⟩ := hx i (by omega)
      obtain ⟨f, rfl, f1, f2, f3⟩ := open_file h2
      obtain ⟨_, _, hcell⟩ := World.cells?_some h1
      refine ⟨f, ?_, f1, f2, f3⟩
      have k0 : w.cell? ((a.add (i * 3)).add 0) = some (.string f.name) := hcell 0 (by omega)
      have k1 : w.cell? ((a.add (i * 3)).add 1) = some (.string f.text) := hcell 1 (by omega)
      have k2 : w.cell? ((a.add (i * 3)).add 2) = some (.int .i64 f.safe) := hcell 2 (by omega)
      obtain ⟨b, off, spot⟩ := a
      have hs : spot = none := by
        obtain ⟨cs0, h01, h02⟩ := hx 0 (by omega)
        obtain ⟨f0, rfl, -, -, -⟩ := open_file h02
        obtain ⟨_, _, hc0⟩ := World.cells?_some h01
        have hk : w.cell? (((⟨b, off, spot⟩ : Addr).add (0 * 3)).add 0) = some (.string f0.name) := hc0 0 (by omega)
        simpa [Addr.add] using World.cell?_spot hk
      subst hs
      have e : ∀ j k, ((⟨b, off, none⟩ : Addr).add j).add k = ⟨b, off + j + k, none⟩ := fun j k => by
        have e1 : ∀ o q, (⟨b, o, none⟩ : Addr).add q = ⟨b, o + q, none⟩ := fun o q => by unfold Addr.add; split <;> simp_all
        rw [e1, e1]
      rw [e] at k0 k1 k2
      refine ⟨b, off, rfl, ?_, k0, k1, k2⟩
      rcases Nat.lt_or_ge b w.heap.size with h' | h'
      · exact h'
      · simp [World.cell?, Array.getElem?_eq_none h'] at k0)
    refine ⟨some a, len, cap, fs, rfl, ⟨hfl, fun i hi => ?_⟩, fun i hi => ⟨(hfs i hi).2.1, (hfs i hi).2.2.1⟩, Nat.le_trans hl hm, fun i hi => (hfs i hi).2.2.2⟩
    obtain ⟨b, off, rfl, h1, h2, h3, h4⟩ := (hfs i hi).1
    exact ⟨b, off, rfl, Nat.zero_le _, h1, h2, h3, h4⟩

set_option maxRecDepth 100000 in
/-- The disk itself. -/
theorem open_disk {fuel : Nat} {cs : List Value} {x : DataW H × List MemPlace} (h : DataW.trod enc Try.prog w base spare held fuel 39 cs = some x) :
    ∃ (a : Option Addr) (n cap : Nat) (c u : Int) (d : Bool) (fs : List FileV), cs = [.slice a n cap, .int .i64 c, .int .i64 u, .bool d] ∧ FRow w 0 a n fs ∧ Fits fs ∧ n ≤ maxLen ∧ (Lit.int .i64 c).wf = true ∧ (Lit.int .i64 u).wf = true ∧ ∀ i, (h : i < fs.length) → (Lit.int .i64 (fs[i]).safe).wf = true := by
  obtain ⟨xs, n, _, _, hl, hlen, hf⟩ := DataW.trod_struct Try.underlying39 h
  rw [cellsLD] at hl
  match xs, hlen, cs, hl with
  | [y0, y1, y2, y3], _, [v0, v1, v2, v3], _ =>
    obtain ⟨a, m, cap, fs, e0, hr, hfit, hm, hw⟩ := open_files (by simpa using hf 0 _ rfl)
    obtain ⟨c, e1, _, z1⟩ := DataW.trod_int Try.underlying3 (by simpa using hf 1 _ rfl)
    obtain ⟨u, e2, _, z2⟩ := DataW.trod_int Try.underlying3 (by simpa using hf 2 _ rfl)
    obtain ⟨d, e3, _⟩ := DataW.trod_bool Try.underlying4 (by simpa using hf 3 _ rfl)
    simp [cellsLFS, cells3', cells4'] at e0 e1 e2 e3
    subst e0; subst e1; subst e2; subst e3
    exact ⟨a, m, cap, c, u, d, fs, rfl, hr, hfit, hm, z1, z2, hw⟩
end

end Go.Proofs.Ytnckdfidehbcaaa
