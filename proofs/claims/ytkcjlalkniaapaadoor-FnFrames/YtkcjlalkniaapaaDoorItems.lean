/-
  What a range over the frames of a log hands out, one by one: the spots, and at the end why it goes no further; plain words.
-/
import Derived.Test.YtkcjlalkniaapaaDoorSpotAtI
namespace Go.Proofs.YtkcjlalkniaapaaDoor
open Go.RowKit
open Plain

/-- A spot, or (where, torn or not) an error. -/
abbrev Item := SpotV ⊕ (Nat × Bool)
def badOf (A B : Addr) (q : Nat) (k : Bool) : Value := .iface 105 (.agg #[.int .i64 q, .iface 146 (.pointer (some (if k then A else B)))])
def encI (A B : Addr) : Item → Array Value
  | .inl p => #[.agg #[.int .i64 (p.pos : Nat), .int .i64 (p.len : Nat), .int .i64 p.r.kind, .int .i64 p.r.batch, .string p.r.key, .string p.r.val, .int .i64 p.r.cnt, .int .i64 p.r.sum], .nilIface]
  | .inr (q, k) => #[.agg #[.int .i64 0, .int .i64 0, .int .i64 0, .int .i64 0, .string ⟨#[]⟩, .string ⟨#[]⟩, .int .i64 0, .int .i64 0], badOf A B q k]
/-- What comes from place p on. -/
def itemF (s : ByteArray) : Nat → Nat → List Item
  | 0, _ => []
  | f + 1, p =>
    if p < s.size then
      if (uf (s.extract p s.size)).2 = 0 then [.inr (p, true)]
      else if (rr (uf (s.extract p s.size)).1).2 = false then [.inr (p, false)]
      else .inl ⟨p, (uf (s.extract p s.size)).2, (rr (uf (s.extract p s.size)).1).1⟩ :: itemF s f (p + (uf (s.extract p s.size)).2)
    else []
def items (s : ByteArray) : List Item := itemF s s.size 0
theorem itemF_end (s : ByteArray) (f p : Nat) (h : ¬ p < s.size) : itemF s f p = [] := by
  cases f with
  | zero => rfl
  | succ f => rw [itemF, if_neg h]
theorem itemF_torn (s : ByteArray) (f p : Nat) (h : p < s.size) (h1 : (uf (s.extract p s.size)).2 = 0) : itemF s (f + 1) p = [.inr (p, true)] := by
  rw [itemF, if_pos h, if_pos h1]
theorem itemF_none (s : ByteArray) (f p : Nat) (h : p < s.size) (h1 : ¬ (uf (s.extract p s.size)).2 = 0) (h2 : (rr (uf (s.extract p s.size)).1).2 = false) : itemF s (f + 1) p = [.inr (p, false)] := by
  rw [itemF, if_pos h, if_neg h1, if_pos h2]
theorem itemF_go (s : ByteArray) (f p : Nat) (h : p < s.size) (h1 : ¬ (uf (s.extract p s.size)).2 = 0) (h2 : (rr (uf (s.extract p s.size)).1).2 = true) :
    itemF s (f + 1) p = .inl ⟨p, (uf (s.extract p s.size)).2, (rr (uf (s.extract p s.size)).1).1⟩ :: itemF s f (p + (uf (s.extract p s.size)).2) := by
  rw [itemF, if_pos h, if_neg h1, if_neg (by rw [h2]; simp)]
theorem itemF_len (s : ByteArray) (f : Nat) : ∀ p, (itemF s f p).length ≤ f := by
  induction f with
  | zero => intro p; exact Nat.le_refl _
  | succ f ih =>
    intro p
    rw [itemF]
    split
    · split
      · simp
      · split
        · simp
        · have := ih (p + (uf (s.extract p s.size)).2)
          simp only [List.length_cons]
          omega
    · simp
/-- It is what ScanRecs tells, and at most one error behind. -/
theorem itemF_scan (s : ByteArray) (f : Nat) : ∀ p, ∃ t, (t = [] ∨ ∃ e, t = [Sum.inr e]) ∧ itemF s f p = (scanF s f p).1.map Sum.inl ++ t := by
  induction f with
  | zero => intro p; exact ⟨[], .inl rfl, rfl⟩
  | succ f ih =>
    intro p
    by_cases h : p < s.size
    · by_cases h1 : (uf (s.extract p s.size)).2 = 0
      · rw [itemF_torn s f p h h1, scanF_stop s (f + 1) p (Or.inl h1)]
        exact ⟨_, .inr ⟨_, rfl⟩, rfl⟩
      · cases h2 : (rr (uf (s.extract p s.size)).1).2 with
        | false =>
          rw [itemF_none s f p h h1 h2, scanF_stop s (f + 1) p (Or.inr h2)]
          exact ⟨_, .inr ⟨_, rfl⟩, rfl⟩
        | true =>
          obtain ⟨t, ht, e⟩ := ih (p + (uf (s.extract p s.size)).2)
          refine ⟨t, ht, ?_⟩
          rw [itemF_go s f p h h1 h2, scanF_go s f p h h1 h2, e]
          rfl
    · rw [itemF_end s _ p h, scanF_end s _ p h]
      exact ⟨[], .inl rfl, rfl⟩
theorem only_spots {ps qs : List SpotV} {t : List Item} (ht : t = [] ∨ ∃ e, t = [Sum.inr e]) (h : ps.map Sum.inl = qs.map Sum.inl ++ t) : ps = qs := by
  rcases ht with rfl | ⟨e, rfl⟩
  · rw [List.append_nil] at h
    exact (List.map_inj_right (fun a b e => by injection e)).1 h
  · exfalso
    have : (Sum.inr e : Item) ∈ ps.map Sum.inl := by rw [h]; simp
    simp at this
theorem spots_stop {e : Nat × Bool} {t : List Item} (ht : t = [] ∨ ∃ e, t = [Sum.inr e]) : ∀ {ps qs : List SpotV}, (ps.map Sum.inl ++ [Sum.inr e] <+: qs.map Sum.inl ++ t) → ps = qs
  | [], [], _ => rfl
  | [], q :: qs, h => by
    obtain ⟨r, hr⟩ := h
    simp at hr
  | p :: ps, [], h => by
    obtain ⟨r, hr⟩ := h
    rcases ht with rfl | ⟨e', rfl⟩ <;> simp at hr
  | p :: ps, q :: qs, h => by
    obtain ⟨r, hr⟩ := h
    simp only [List.map_cons, List.cons_append, List.cons.injEq, Sum.inl.injEq] at hr
    rw [hr.1, spots_stop ht (ps := ps) (qs := qs) ⟨r, by simpa using hr.2⟩]
theorem wrap_in {n : Int} (h0 : -9223372036854775808 ≤ n) (h1 : n ≤ 9223372036854775807) : wrap64 n = n := by
  unfold wrap64
  omega
/-- Where the last spot ends. -/
def endW (ps : List SpotV) : Int := ps.foldl (fun _ x => wrap64 ((x.pos : Int) + (x.len : Int))) 0
theorem endW_snoc (ps : List SpotV) (x : SpotV) : endW (ps ++ [x]) = wrap64 ((x.pos : Int) + (x.len : Int)) := by
  unfold endW
  rw [List.foldl_append, List.foldl_cons, List.foldl_nil]
theorem scanF_endW (s : ByteArray) (hs : s.size ≤ 1048576) (f : Nat) : ∀ p, p ≤ s.size → (scanF s f p).1.foldl (fun _ x => wrap64 ((x.pos : Int) + (x.len : Int))) (p : Int) = ((scanF s f p).2 : Nat) := by
  induction f with
  | zero => intro p _; rfl
  | succ f ih =>
    intro p hp
    by_cases h : p < s.size
    · by_cases h1 : (uf (s.extract p s.size)).2 = 0
      · rw [scanF_stop s (f + 1) p (Or.inl h1)]; rfl
      · cases h2 : (rr (uf (s.extract p s.size)).1).2 with
        | false => rw [scanF_stop s (f + 1) p (Or.inr h2)]; rfl
        | true =>
          have hb := uf_bd (s.extract p s.size)
          rw [ba_len _ _ _ (by omega) (Nat.le_refl _)] at hb
          have e := ih (p + (uf (s.extract p s.size)).2) (by omega)
          rw [scanF_go s f p h h1 h2]
          simp only [List.foldl_cons]
          rw [← e]
          congr 1
          rw [show ((p : Int) + ((uf (s.extract p s.size)).2 : Int)) = ((p + (uf (s.extract p s.size)).2 : Nat) : Int) from by omega]
          exact wrap_in (by omega) (by omega)
    · rw [scanF_end s _ p h]; rfl
theorem items_done (s : ByteArray) (hs : s.size ≤ 1048576) (ps : List SpotV) (h : ps.map Sum.inl = items s) : ps = (scanS s).1 ∧ endW ps = ((scanS s).2 : Nat) := by
  obtain ⟨t, ht, e⟩ := itemF_scan s s.size 0
  have e1 : ps = (scanS s).1 := only_spots ht (h.trans e)
  rw [e1]
  exact ⟨rfl, scanF_endW s hs s.size 0 (by omega)⟩
theorem items_stop (s : ByteArray) (hs : s.size ≤ 1048576) (ps : List SpotV) (x : Nat × Bool) (h : ps.map Sum.inl ++ [Sum.inr x] <+: items s) : ps = (scanS s).1 ∧ endW ps = ((scanS s).2 : Nat) := by
  obtain ⟨t, ht, e⟩ := itemF_scan s s.size 0
  unfold items at h
  rw [e] at h
  have e1 : ps = (scanS s).1 := spots_stop ht h
  rw [e1]
  exact ⟨rfl, scanF_endW s hs s.size 0 (by omega)⟩

end Go.Proofs.YtkcjlalkniaapaaDoor
