/-
  Logs with no Go in sight: what is scanned is found where it stands; cut anywhere a log tells a beginning.
-/
import Derived.Test.YtkcjlalkniaapaaDoorRecAtI
import Derived.Test.YtkcjlalkniaapaaDoorItems
namespace Go.Proofs.YtkcjlalkniaapaaDoor
open Go.RowKit
open Plain

theorem uf_more (s : ByteArray) (k p : Nat) (hk : k ≤ s.size) (hp : p ≤ k) (h : ¬ (uf ((s.extract 0 k).extract p k)).2 = 0) : uf (s.extract p s.size) = uf ((s.extract 0 k).extract p k) := by
  rcases uf_UF ((s.extract 0 k).extract p k) with ⟨a1, a2, T, a3⟩ | ⟨a1, _⟩
  · have e0 : (s.extract 0 k).extract p k = s.extract p k := by
      rw [ByteArray.extract_extract, Nat.zero_add, Nat.zero_add, Nat.min_self]
    have e : s.extract p s.size = frameS (uf ((s.extract 0 k).extract p k)).1 ++ (T ++ s.extract k s.size) := by
      rw [← ByteArray.append_assoc, ← a3, e0, ByteArray.extract_append_extract, Nat.min_eq_left (by omega), Nat.max_eq_right (by omega)]
    have e2 := uf_frame (uf ((s.extract 0 k).extract p k)).1 (T ++ s.extract k s.size) a1
    rw [← e, ← a2] at e2
    rw [e2]
  · exact absurd a1 h
/-- Cut anywhere a log tells a beginning. -/
theorem scanF_cut (s : ByteArray) (k : Nat) (hk : k ≤ s.size) (f : Nat) : ∀ (g p : Nat), f ≤ g → p ≤ k → (scanF (s.extract 0 k) f p).1 <+: (scanF s g p).1 := by
  have hz : (s.extract 0 k).size = k := by rw [ba_len _ _ _ (by omega) hk]; omega
  induction f with
  | zero => intro g p _ _; exact List.nil_prefix
  | succ f ih =>
    intro g p hg hp
    obtain ⟨g, rfl⟩ : ∃ g', g = g' + 1 := ⟨g - 1, by omega⟩
    by_cases h : p < k
    · have hp2 : p < (s.extract 0 k).size := by omega
      by_cases h1 : (uf ((s.extract 0 k).extract p (s.extract 0 k).size)).2 = 0
      · rw [scanF_stop _ _ _ (Or.inl h1)]; exact List.nil_prefix
      · cases h2 : (rr (uf ((s.extract 0 k).extract p (s.extract 0 k).size)).1).2 with
        | false => rw [scanF_stop _ _ _ (Or.inr h2)]; exact List.nil_prefix
        | true =>
          have hb := uf_bd ((s.extract 0 k).extract p (s.extract 0 k).size)
          rw [ba_len _ _ _ (by omega) (Nat.le_refl _)] at hb
          rw [scanF_go _ f p hp2 h1 h2]
          rw [hz] at h1 h2 hb ⊢
          have e := uf_more s k p hk (by omega) h1
          rw [← e] at h1 h2 hb ⊢
          rw [scanF_go s g p (by omega) h1 h2]
          exact List.cons_prefix_cons.2 ⟨rfl, ih g _ (by omega) (by omega)⟩
    · rw [scanF_end _ _ p (by omega)]; exact List.nil_prefix
theorem scanS_cut (s : ByteArray) (k : Nat) (hk : k ≤ s.size) : (scanS (s.extract 0 k)).1 <+: (scanS s).1 := by
  have hz : (s.extract 0 k).size = k := by rw [ba_len _ _ _ (by omega) hk]; omega
  unfold scanS
  exact scanF_cut s k hk _ _ 0 (by omega) (by omega)
theorem scanF_le (s : ByteArray) (f : Nat) : ∀ p, p ≤ s.size → (scanF s f p).2 ≤ s.size := by
  induction f with
  | zero => intro p h; exact h
  | succ f ih =>
    intro p hp
    by_cases h : p < s.size
    · by_cases h1 : (uf (s.extract p s.size)).2 = 0
      · rw [scanF_stop _ _ _ (Or.inl h1)]; exact hp
      · cases h2 : (rr (uf (s.extract p s.size)).1).2 with
        | false => rw [scanF_stop _ _ _ (Or.inr h2)]; exact hp
        | true =>
          have hb := uf_bd (s.extract p s.size)
          rw [ba_len _ _ _ (by omega) (Nat.le_refl _)] at hb
          rw [scanF_go s f p h h1 h2]
          exact ih _ (by omega)
    · rw [scanF_end _ _ p h]; exact hp
theorem scanS_le (s : ByteArray) : (scanS s).2 ≤ s.size := scanF_le s _ 0 (by omega)
/-- What is scanned is found where it stands. -/
theorem scanF_found (s : ByteArray) (f : Nat) : ∀ p, ∀ x ∈ (scanF s f p).1, x.pos + x.len ≤ s.size ∧ ra s (x.pos : Int) (x.len : Int) = (x.r, true) := by
  induction f with
  | zero => intro p x hx; cases hx
  | succ f ih =>
    intro p x hx
    by_cases h : p < s.size
    · by_cases h1 : (uf (s.extract p s.size)).2 = 0
      · rw [scanF_stop _ _ _ (Or.inl h1)] at hx; cases hx
      · cases h2 : (rr (uf (s.extract p s.size)).1).2 with
        | false => rw [scanF_stop _ _ _ (Or.inr h2)] at hx; cases hx
        | true =>
          have hb := uf_bd (s.extract p s.size)
          rw [ba_len _ _ _ (by omega) (Nat.le_refl _)] at hb
          rw [scanF_go s f p h h1 h2] at hx
          rcases List.mem_cons.1 hx with rfl | hx
          · exact ⟨by simp only; omega, ra_good s p (by omega) _ h1 h2 rfl⟩
          · exact ih _ x hx
    · rw [scanF_end _ _ p h] at hx; cases hx
theorem scanS_found (s : ByteArray) (i : Nat) (h : i < (scanS s).1.length) : (scanS s).1[i].pos + (scanS s).1[i].len ≤ s.size ∧ ra s ((scanS s).1[i].pos : Int) ((scanS s).1[i].len : Int) = ((scanS s).1[i].r, true) := scanF_found s _ 0 _ (List.getElem_mem h)
theorem scanS_len (s : ByteArray) : (scanS s).1.length ≤ s.size := by
  obtain ⟨t, _, e⟩ := itemF_scan s s.size 0
  have h := itemF_len s s.size 0
  rw [e, List.length_append, List.length_map] at h
  unfold scanS
  omega
theorem frameS_ne (s : ByteArray) (h : s.size ≤ 200) : 5 ≤ (frameS s).size := by
  rw [frameS_in s h, ByteArray.size_append, sumS_size]
  unfold textS
  rw [ByteArray.size_append]
  have := varS_pos s.size (by omega)
  omega

end Go.Proofs.YtkcjlalkniaapaaDoor
