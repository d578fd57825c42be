/-
  What holds of a right directory: a key that is put is found, one that is dropped is not, all else is as it was, keys rise. Hints with no Go in sight: which are right, what ShowHint makes of one, what is read back. A hint in the world: the struct's block, and what the laws' szHint, toHint, eqHint, markHint and heldHint answer. A hint of the law's own. What spec.Var answers at every number; it makes new memory only. What impl.putBehind does: it lays the bytes that it is handed behind those that a row of the call's own already bears, and tells the place behind them. What impl.Var answers at every number; it makes new memory only. What spec.Fixed answers at every number and every width; it makes new memory only. What impl.Fixed answers at every number and every width; it makes new memory only. What impl.ReadFixed answers, at every text of at most 1048576 bytes and every width; it leaves the world as it was.
-/
import Derived.Test.YtimpokbcfjgdaaaDoorMDirOkS
import Derived.Test.YtimpokbcfjgdaaaDoorG04
import Derived.Test.YtimpokbcfjgdaaaDoorMEntMark
import Derived.Test.YtimpokbcfjgdaaaDoorG00
namespace Go.Proofs.YtimpokbcfjgdaaaDoor
open Go.RowKit
open Plain

def RiseE (xs : List EntV) : Prop := xs.Pairwise (fun a b => klt a.key b.key = true)
theorem okAt_of {xs : List EntV} (h : dirOk xs = true) (i : Nat) (hi : i < xs.length) : okAt xs i = true := by
  unfold dirOk at h
  rw [Bool.and_eq_true] at h
  exact List.all_eq_true.1 h.2 i (by simpa using hi)
theorem len_of {xs : List EntV} (h : dirOk xs = true) : xs.length ≤ 20 := by
  unfold dirOk at h
  rw [Bool.and_eq_true] at h
  exact of_decide_eq_true h.1
theorem entOk_of {xs : List EntV} (h : dirOk xs = true) : ∀ x, x ∈ xs → entOk x = true := by
  intro x hx
  obtain ⟨i, hi, rfl⟩ := List.mem_iff_getElem.1 hx
  have h1 := okAt_of h i hi
  unfold okAt at h1
  rw [getD_at hi, Bool.and_eq_true] at h1
  exact h1.1
theorem rise_of {xs : List EntV} (h : dirOk xs = true) : RiseE xs := by
  have step : ∀ i, (hi : i + 1 < xs.length) → klt (xs[i]).key (xs[i + 1]).key = true := fun i hi => by
    have h1 := okAt_of h (i + 1) hi
    unfold okAt at h1
    rw [getD_at hi, show i + 1 - 1 = i from rfl, getD_at (show i < xs.length by omega), Bool.and_eq_true, Bool.or_eq_true] at h1
    rcases h1.2 with h2 | h2
    · simp at h2
    · exact h2
  have far : ∀ k i, (hi : i + k + 1 < xs.length) → klt (xs[i]).key (xs[i + k + 1]).key = true := by
    intro k
    induction k with
    | zero => intro i hi; exact step i hi
    | succ k ih => intro i hi; exact klt_trans (ih i (by omega)) (step (i + k + 1) hi)
  unfold RiseE
  rw [List.pairwise_iff_getElem]
  intro i j hi hj hij
  obtain ⟨k, rfl⟩ : ∃ k, j = i + k + 1 := ⟨j - i - 1, by omega⟩
  exact far k i hj
theorem dirOk_of {xs : List EntV} (h1 : xs.length ≤ 20) (h2 : ∀ x, x ∈ xs → entOk x = true) (h3 : RiseE xs) : dirOk xs = true := by
  refine dirOk_yes h1 (fun i hi => ?_)
  unfold okAt
  rw [getD_at hi, h2 _ (List.getElem_mem hi), Bool.true_and, Bool.or_eq_true]
  by_cases h0 : i = 0
  · exact .inl (decide_eq_true h0)
  · refine .inr ?_
    rw [getD_at (show i - 1 < xs.length by omega)]
    exact List.pairwise_iff_getElem.1 h3 (i - 1) i (by omega) hi (by omega)
theorem mem_dropE {xs : List EntV} {key : ByteArray} {x : EntV} : x ∈ dropE xs key ↔ x ∈ xs ∧ ¬ x.key = key := by
  unfold dropE
  rw [List.mem_filter]
  simp
theorem mem_insE {xs : List EntV} {p x : EntV} : x ∈ insE xs p ↔ x = p ∨ x ∈ xs := by
  induction xs with
  | nil => simp [insE]
  | cons a r ih =>
    rw [insE]
    split
    · rw [List.mem_cons]
    · rw [List.mem_cons, ih, List.mem_cons]
      constructor
      · rintro (h | h | h)
        · exact .inr (.inl h)
        · exact .inl h
        · exact .inr (.inr h)
      · rintro (h | h | h)
        · exact .inr (.inl h)
        · exact .inl h
        · exact .inr (.inr h)
theorem rise_insE {xs : List EntV} {p : EntV} (h : RiseE xs) (hn : ∀ x, x ∈ xs → ¬ x.key = p.key) : RiseE (insE xs p) := by
  induction xs with
  | nil => exact List.pairwise_singleton _ _
  | cons a r ih =>
    obtain ⟨h1, h2⟩ := List.pairwise_cons.1 h
    rw [insE]
    split
    · rename_i hk
      refine List.pairwise_cons.2 ⟨fun b hb => ?_, h⟩
      rcases List.mem_cons.1 hb with rfl | hb
      · exact hk
      · exact klt_trans hk (h1 b hb)
    · rename_i hk
      refine List.pairwise_cons.2 ⟨fun b hb => ?_, ih h2 (fun x hx => hn x (List.mem_cons_of_mem _ hx))⟩
      rcases mem_insE.1 hb with rfl | hb
      · exact klt_other (by simpa using hk) (hn a List.mem_cons_self)
      · exact h1 b hb
theorem getE_mem {xs : List EntV} (h : RiseE xs) {z : EntV} (hz : z ∈ xs) : getE xs z.key = some z := by
  induction xs with
  | nil => simp at hz
  | cons a r ih =>
    obtain ⟨h1, h2⟩ := List.pairwise_cons.1 h
    unfold getE
    by_cases he : a.key = z.key
    · rw [List.find?_cons_of_pos (by simpa using he)]
      rcases List.mem_cons.1 hz with rfl | hz
      · rfl
      · exact absurd he (klt_ne (h1 z hz))
    · rw [List.find?_cons_of_neg (by simpa using he)]
      rcases List.mem_cons.1 hz with rfl | hz
      · exact absurd rfl he
      · exact ih h2 hz
theorem getE_not {xs : List EntV} {key : ByteArray} (h : ∀ x, x ∈ xs → ¬ x.key = key) : getE xs key = none := by
  unfold getE
  rw [List.find?_eq_none]
  intro x hx
  simpa using h x hx
theorem dropE_self {xs : List EntV} {key : ByteArray} (h : ∀ x, x ∈ xs → ¬ x.key = key) : dropE xs key = xs := by
  unfold dropE
  rw [List.filter_eq_self]
  intro x hx
  simpa using h x hx
theorem dropE_insE (xs : List EntV) (p : EntV) : dropE (insE xs p) p.key = dropE xs p.key := by
  induction xs with
  | nil => simp [insE, dropE]
  | cons a r ih =>
    unfold dropE at ih ⊢
    rw [insE]
    split
    · rw [List.filter_cons_of_neg (by simp)]
    · by_cases he : a.key = p.key
      · rw [List.filter_cons_of_neg (by simpa using he), List.filter_cons_of_neg (by simpa using he), ih]
      · rw [List.filter_cons_of_pos (by simpa using he), List.filter_cons_of_pos (by simpa using he), ih]

/-- What the law asks of a right directory l, an entry p. -/
structure DirsP (l : List EntV) (p : EntV) : Prop where
  got : getE (putE l p) p.key = some p
  gone : getE (dropE (putE l p) p.key) p.key = none
  ok : dirOk (dropE (putE l p) p.key) = true
  len : (putE l p).length = (dropE (putE l p) p.key).length + 1
  there : ∀ z, z ∈ l → ¬ z.key = p.key → getE (putE l p) z.key = some z
  still : ∀ z, z ∈ l → ¬ z.key = p.key → getE (dropE (putE l p) p.key) z.key = some z
  rise : RiseE (putE l p)
  again : putE (putE l p) p = putE l p
  small : (putE l p).length ≤ 21
theorem dirs_of {l : List EntV} (h : dirOk l = true) (p : EntV) : DirsP l p := by
  have hn : ∀ x, x ∈ dropE l p.key → ¬ x.key = p.key := fun x hx => (mem_dropE.1 hx).2
  have hd : dropE (putE l p) p.key = dropE l p.key := by unfold putE; rw [dropE_insE, dropE_self hn]
  have hr : RiseE (dropE l p.key) := (rise_of h).sublist List.filter_sublist
  have hrp : RiseE (putE l p) := rise_insE hr hn
  have hl := len_of h
  have hdl := dropE_len l p.key
  have hpl : (putE l p).length = (dropE l p.key).length + 1 := insE_len _ _
  refine ⟨getE_mem hrp (mem_insE.2 (.inl rfl)), ?_, ?_, ?_, fun z hz hk => getE_mem hrp (mem_insE.2 (.inr (mem_dropE.2 ⟨hz, hk⟩))), ?_, hrp, ?_, by omega⟩
  · rw [hd]; exact getE_not hn
  · rw [hd]; exact dirOk_of (by omega) (fun x hx => entOk_of h x (mem_dropE.1 hx).1) hr
  · rw [hd, hpl]
  · intro z hz hk
    rw [hd]
    exact getE_mem hr (mem_dropE.2 ⟨hz, hk⟩)
  · show insE (dropE (putE l p) p.key) p = putE l p
    rw [hd]
    rfl

end Go.Proofs.YtimpokbcfjgdaaaDoor
namespace Go.Proofs.YtimpokbcfjgdaaaDoor
open Go.RowKit
open Plain

structure HintV where
  size : Int
  mark : Int
  list : List EntV
theorem HintV.ext' {h g : HintV} (h1 : h.size = g.size) (h2 : h.mark = g.mark) (h3 : h.list = g.list) : h = g := by
  cases h; cases g; simp_all
def zeroH : HintV := ⟨0, 0, []⟩
/-- Does an entry stand in this segment, and not too far back? -/
def segAt (g : Int) (e : EntV) : Bool := decide (e.seg = g) && decide (e.pos ≤ 100000)
def oneSeg (l : List EntV) : Bool := l.all (segAt (l.getD 0 zeroE).seg)
def listOk (l : List EntV) : Bool := dirOk l && oneSeg l
def hintB (h : HintV) : Bool := decide (0 ≤ h.size ∧ h.size ≤ 100000) && (decide (0 ≤ h.mark ∧ h.mark ≤ 1000000) && listOk h.list)
def entT (e : EntV) : ByteArray := textS e.key ++ varS e.seg ++ varS e.pos ++ varS e.len ++ varS e.bat
def catE : List EntV → ByteArray
  | [] => ⟨#[]⟩
  | e :: r => entT e ++ catE r
def headH (h : HintV) : ByteArray := varS h.size ++ varS h.mark ++ varS (h.list.length : Int)
/-- The head and the first k entries. -/
def bodyE (h : HintV) (k : Nat) : ByteArray := headH h ++ catE (h.list.take k)
def bodyH (h : HintV) : ByteArray := headH h ++ catE h.list
def showH (h : HintV) : ByteArray := if hintB h then sumS (bodyH h) ++ bodyH h else ⟨#[]⟩
theorem catE_snoc (l : List EntV) (e : EntV) : catE (l ++ [e]) = catE l ++ entT e := by
  induction l with
  | nil => rw [List.nil_append, catE, catE, catE]; exact ByteArray.append_empty.trans ByteArray.empty_append.symm
  | cons y r ih => rw [List.cons_append, catE, catE, ih, ByteArray.append_assoc]
theorem bodyE_zero (h : HintV) : bodyE h 0 = headH h := by unfold bodyE; rw [List.take_zero]; exact ByteArray.append_empty
theorem bodyE_succ (h : HintV) (k : Nat) (hk : k < h.list.length) : bodyE h (k + 1) = bodyE h k ++ entT (h.list[k]) := by
  unfold bodyE
  rw [List.take_succ_eq_append_getElem hk, catE_snoc, ByteArray.append_assoc]
theorem bodyE_all (h : HintV) : bodyE h h.list.length = bodyH h := by unfold bodyE bodyH; rw [List.take_length]
theorem showH_in {h : HintV} (q : hintB h = true) : showH h = sumS (bodyH h) ++ bodyH h := if_pos q
theorem showH_out {h : HintV} (q : hintB h = false) : showH h = ⟨#[]⟩ := if_neg (by rw [q]; simp)

/-! ### Sizes -/
theorem hint_bd {h : HintV} (q : hintB h = true) : (0 ≤ h.size ∧ h.size ≤ 100000) ∧ (0 ≤ h.mark ∧ h.mark ≤ 1000000) ∧ dirOk h.list = true ∧ oneSeg h.list = true := by
  unfold hintB listOk at q
  rw [Bool.and_eq_true, Bool.and_eq_true, Bool.and_eq_true, decide_eq_true_iff, decide_eq_true_iff] at q
  exact ⟨q.1, q.2.1, q.2.2.1, q.2.2.2⟩
theorem ent_bd {e : EntV} (q : entOk e = true) : e.key.size ≤ 8 ∧ (1 ≤ e.seg ∧ e.seg ≤ 100000) ∧ 0 ≤ e.pos ∧ (1 ≤ e.len ∧ e.len ≤ 210) ∧ (1 ≤ e.bat ∧ e.bat ≤ 1000000) := by
  unfold entOk at q
  rw [Bool.and_eq_true, Bool.and_eq_true, Bool.and_eq_true, Bool.and_eq_true, decide_eq_true_iff, decide_eq_true_iff, decide_eq_true_iff, decide_eq_true_iff] at q
  obtain ⟨a, b, c, d, e⟩ := q
  refine ⟨?_, b, c, d, e⟩
  unfold keyB at a
  simp at a
  omega
theorem seg_bd {l : List EntV} (q : oneSeg l = true) : ∀ e ∈ l, e.pos ≤ 100000 := fun e he => by
  have h := List.all_eq_true.1 q e he
  unfold segAt at h
  rw [Bool.and_eq_true] at h
  exact of_decide_eq_true h.2
/-- What can be written so that it is read back. -/
structure EntIn (e : EntV) : Prop where
  key : e.key.size ≤ 8
  seg : 0 ≤ e.seg ∧ e.seg ≤ 562949953421311
  pos : 0 ≤ e.pos ∧ e.pos ≤ 562949953421311
  len : 0 ≤ e.len ∧ e.len ≤ 562949953421311
  bat : 0 ≤ e.bat ∧ e.bat ≤ 562949953421311
theorem entIn_of {h : HintV} (q : hintB h = true) : ∀ e ∈ h.list, EntIn e := fun e he => by
  obtain ⟨-, -, h3, h4⟩ := hint_bd q
  have h1 := ent_bd (entOk_of h3 e he)
  have h2 := seg_bd h4 e he
  exact ⟨h1.1, by omega, by omega, by omega, by omega⟩
theorem entT_size (e : EntV) : (entT e).size ≤ e.key.size + 35 := by
  unfold entT
  have h0 := textS_size' e.key
  have h1 := varS_size e.seg
  have h2 := varS_size e.pos
  have h3 := varS_size e.len
  have h4 := varS_size e.bat
  simp only [ByteArray.size_append]
  omega
theorem headH_size (h : HintV) : (headH h).size ≤ 21 := by
  unfold headH
  have h1 := varS_size h.size
  have h2 := varS_size h.mark
  have h3 := varS_size (h.list.length : Int)
  simp only [ByteArray.size_append]
  omega
theorem catE_size {l : List EntV} (h : ∀ e ∈ l, EntIn e) : (catE l).size ≤ 43 * l.length := by
  induction l with
  | nil => exact Nat.zero_le _
  | cons e r ih =>
    have h1 := (h e List.mem_cons_self).key
    have h2 := entT_size e
    have h3 := ih (fun y hy => h y (List.mem_cons_of_mem _ hy))
    rw [catE, ByteArray.size_append, List.length_cons]
    omega
theorem bodyE_size {h : HintV} (q : hintB h = true) (k : Nat) : (bodyE h k).size ≤ 881 := by
  have h1 := headH_size h
  have h2 := catE_size (l := h.list.take k) (fun e he => entIn_of q e (List.mem_of_mem_take he))
  have h3 := len_of (hint_bd q).2.2.1
  rw [List.length_take] at h2
  unfold bodyE
  rw [ByteArray.size_append]
  omega
theorem bodyH_size {h : HintV} (q : hintB h = true) : (bodyH h).size ≤ 881 := by rw [← bodyE_all]; exact bodyE_size q _
theorem showH_size (h : HintV) : (showH h).size ≤ 885 := by
  unfold showH
  split
  · rename_i q
    have := bodyH_size q
    rw [ByteArray.size_append, sumS_size]
    omega
  · exact Nat.zero_le _
theorem showH_pos {h : HintV} (q : hintB h = true) : 4 ≤ (showH h).size := by
  rw [showH_in q, ByteArray.size_append, sumS_size]
  omega

/-! ### Reading -/
def numF (t : ByteArray) : Bool := decide ((rv t).2 = 0)
def entV (t : ByteArray) : EntV := ⟨txtV t, ((rv (txtR t)).1 : Nat), ((rv (numT (txtR t))).1 : Nat), ((rv (numT (numT (txtR t)))).1 : Nat), ((rv (numT (numT (numT (txtR t))))).1 : Nat)⟩
def entR (t : ByteArray) : ByteArray := numT (numT (numT (numT (txtR t))))
def entF (f : Bool) (t : ByteArray) : Bool := ((((f || txtF t) || numF (txtR t)) || numF (numT (txtR t))) || numF (numT (numT (txtR t)))) || numF (numT (numT (numT (txtR t))))
def entsF : Nat → ByteArray → List EntV
  | 0, _ => []
  | m + 1, t => entV t :: entsF m (entR t)
def restE : Nat → ByteArray → ByteArray
  | 0, t => t
  | m + 1, t => restE m (entR t)
def failE : Nat → Bool → ByteArray → Bool
  | 0, f, _ => f
  | m + 1, f, t => failE m (entF f t) (entR t)
theorem entF_true (t : ByteArray) : entF true t = true := by unfold entF; simp
theorem failE_true (m : Nat) : ∀ t, failE m true t = true := by
  induction m with
  | zero => intro t; rfl
  | succ m ih => intro t; rw [failE, entF_true, ih]
theorem entsF_length (m : Nat) : ∀ t, (entsF m t).length = m := by
  induction m with
  | zero => intro t; rfl
  | succ m ih => intro t; rw [entsF, List.length_cons, ih]
theorem entsF_snoc (m : Nat) : ∀ t, entsF (m + 1) t = entsF m t ++ [entV (restE m t)] := by
  induction m with
  | zero => intro t; rfl
  | succ m ih => intro t; rw [entsF, ih]; rfl
theorem restE_snoc (m : Nat) : ∀ t, restE (m + 1) t = entR (restE m t) := by
  induction m with
  | zero => intro t; rfl
  | succ m ih => intro t; rw [restE, ih]; rfl
theorem failE_snoc (m : Nat) : ∀ f t, failE (m + 1) f t = entF (failE m f t) (restE m t) := by
  induction m with
  | zero => intro f t; rfl
  | succ m ih => intro f t; rw [failE, ih]; rfl
theorem entR_size (t : ByteArray) : (entR t).size ≤ t.size := by
  unfold entR
  have h0 := txtR_size t
  have h1 := numT_size (txtR t)
  have h2 := numT_size (numT (txtR t))
  have h3 := numT_size (numT (numT (txtR t)))
  have h4 := numT_size (numT (numT (numT (txtR t))))
  omega
theorem restE_size (m : Nat) : ∀ t, (restE m t).size ≤ t.size := by
  induction m with
  | zero => intro t; exact Nat.le_refl _
  | succ m ih =>
    intro t
    have := ih (entR t)
    have := entR_size t
    rw [restE]
    omega
theorem numF_var (n : Int) (h : 0 ≤ n ∧ n ≤ 562949953421311) (T : ByteArray) : numF (varS n ++ T) = false ∧ numT (varS n ++ T) = T ∧ ((rv (varS n ++ T)).1 : Int) = n := by
  obtain ⟨m, rfl⟩ := Int.eq_ofNat_of_zero_le h.1
  have hp := varS_pos m (by omega)
  unfold numF
  rw [numT_var m (by omega), rv_var m (by omega)]
  exact ⟨decide_eq_false (by simp only; omega), rfl, rfl⟩
theorem ent_forth {e : EntV} (h : EntIn e) (T : ByteArray) : entV (entT e ++ T) = e ∧ entR (entT e ++ T) = T ∧ entF false (entT e ++ T) = false := by
  have e0 : entT e ++ T = textS e.key ++ (varS e.seg ++ (varS e.pos ++ (varS e.len ++ (varS e.bat ++ T)))) := by unfold entT; simp only [ByteArray.append_assoc]
  obtain ⟨t1, t2, t3⟩ := txt_text e.key (varS e.seg ++ (varS e.pos ++ (varS e.len ++ (varS e.bat ++ T)))) (by have := h.key; omega)
  obtain ⟨a1, a2, a3⟩ := numF_var e.seg h.seg (varS e.pos ++ (varS e.len ++ (varS e.bat ++ T)))
  obtain ⟨b1, b2, b3⟩ := numF_var e.pos h.pos (varS e.len ++ (varS e.bat ++ T))
  obtain ⟨c1, c2, c3⟩ := numF_var e.len h.len (varS e.bat ++ T)
  obtain ⟨d1, d2, d3⟩ := numF_var e.bat h.bat T
  rw [e0]
  unfold entV entR entF
  rw [t1, t2, t3, a1, a2, a3, b1, b2, b3, c1, c2, c3, d1, d2, d3]
  exact ⟨rfl, rfl, rfl⟩
theorem numF_no {t : ByteArray} (h : numF t = false) : (rv t).2 ≠ 0 := of_decide_eq_false h
theorem ent_back {f : Bool} {t : ByteArray} (h : entF f t = false) : f = false ∧ entT (entV t) ++ entR t = t := by
  unfold entF at h
  simp only [Bool.or_eq_false_iff] at h
  obtain ⟨⟨⟨⟨⟨h0, h1⟩, h2⟩, h3⟩, h4⟩, h5⟩ := h
  refine ⟨h0, ?_⟩
  unfold entT entV entR
  simp only [ByteArray.append_assoc]
  rw [numT_whole _ (numF_no h5), numT_whole _ (numF_no h4), numT_whole _ (numF_no h3), numT_whole _ (numF_no h2), txt_back t h1]
theorem takeE_forth (l : List EntV) (T : ByteArray) (h : ∀ e ∈ l, EntIn e) : entsF l.length (catE l ++ T) = l ∧ restE l.length (catE l ++ T) = T ∧ failE l.length false (catE l ++ T) = false := by
  induction l with
  | nil => exact ⟨rfl, ByteArray.empty_append, rfl⟩
  | cons e r ih =>
    obtain ⟨h1, h2, h3⟩ := ent_forth (h e List.mem_cons_self) (catE r ++ T)
    obtain ⟨i1, i2, i3⟩ := ih (fun y hy => h y (List.mem_cons_of_mem _ hy))
    rw [List.length_cons, catE, ByteArray.append_assoc, entsF, restE, failE, h1, h2, h3, i1, i2, i3]
    exact ⟨rfl, rfl, rfl⟩
theorem failE_back (m : Nat) : ∀ f t, failE m f t = false → f = false ∧ catE (entsF m t) ++ restE m t = t := by
  induction m with
  | zero => intro f t h; exact ⟨h, ByteArray.empty_append⟩
  | succ m ih =>
    intro f t h
    obtain ⟨h1, h2⟩ := ih _ _ h
    obtain ⟨h3, h4⟩ := ent_back h1
    refine ⟨h3, ?_⟩
    rw [entsF, catE, restE, ByteArray.append_assoc, h2, h4]
/-- Behind the sum: how many entries, and what follows the three numbers. -/
def cntH (t : ByteArray) : Nat := (rv (numT (numT t))).1
def tailH (t : ByteArray) : ByteArray := numT (numT (numT t))
def failH (f : Bool) (t : ByteArray) : Bool := ((f || numF t) || numF (numT t)) || numF (numT (numT t))
def hintOf (t : ByteArray) : HintV := ⟨((rv t).1 : Nat), ((rv (numT t)).1 : Nat), entsF (cntH t) (tailH t)⟩
theorem tailH_size (t : ByteArray) : (tailH t).size ≤ t.size := by
  unfold tailH
  have h1 := numT_size t
  have h2 := numT_size (numT t)
  have h3 := numT_size (numT (numT t))
  omega
/-- The whole text is there, and no more. -/
def CleanH (s : ByteArray) : Prop := sumF s = false ∧ failH false (sumR s) = false ∧ cntH (sumR s) ≤ 20 ∧ failE (cntH (sumR s)) false (tailH (sumR s)) = false ∧ (restE (cntH (sumR s)) (tailH (sumR s))).size = 0
theorem bodyH_forth {h : HintV} (q : hintB h = true) : failH false (bodyH h) = false ∧ cntH (bodyH h) = h.list.length ∧ tailH (bodyH h) = catE h.list ∧ ((rv (bodyH h)).1 : Int) = h.size ∧ ((rv (numT (bodyH h))).1 : Int) = h.mark := by
  obtain ⟨h1, h2, h3, h4⟩ := hint_bd q
  have hl := len_of h3
  have e0 : bodyH h = varS h.size ++ (varS h.mark ++ (varS (h.list.length : Int) ++ catE h.list)) := by unfold bodyH headH; simp only [ByteArray.append_assoc]
  obtain ⟨a1, a2, a3⟩ := numF_var h.size (by omega) (varS h.mark ++ (varS (h.list.length : Int) ++ catE h.list))
  obtain ⟨b1, b2, b3⟩ := numF_var h.mark (by omega) (varS (h.list.length : Int) ++ catE h.list)
  obtain ⟨c1, c2, c3⟩ := numF_var (h.list.length : Int) (by omega) (catE h.list)
  unfold failH cntH tailH
  rw [e0, a1, a2, a3, b1, b2, b3, c1, c2]
  refine ⟨rfl, ?_, rfl, rfl, rfl⟩
  exact Int.ofNat.inj c3
theorem catE_empty (l : List EntV) : catE l ++ (⟨#[]⟩ : ByteArray) = catE l := ByteArray.append_empty
theorem shown_read {h : HintV} (q : hintB h = true) : sumF (showH h) = false ∧ sumR (showH h) = bodyH h ∧ sumV (showH h) = crcN (bodyH h) := by
  rw [showH_in q]
  unfold sumS
  obtain ⟨h1, h2, h3⟩ := sum_fix (crcN (bodyH h)) (crcN_le _) (bodyH h)
  exact ⟨h3, h2, h1⟩
theorem shown_clean {h : HintV} (q : hintB h = true) : CleanH (showH h) ∧ hintOf (sumR (showH h)) = h := by
  obtain ⟨h1, h2, h3⟩ := shown_read q
  obtain ⟨b1, b2, b3, b4, b5⟩ := bodyH_forth q
  obtain ⟨k1, k2, k3⟩ := takeE_forth h.list ⟨#[]⟩ (entIn_of q)
  have hl := len_of (hint_bd q).2.2.1
  rw [catE_empty] at k1 k2 k3
  unfold CleanH hintOf
  rw [h1, h2, b1, b2, b3, b4, b5, k1, k2, k3]
  exact ⟨⟨rfl, rfl, hl, rfl, rfl⟩, rfl⟩
theorem clean_body {s : ByteArray} (hc : CleanH s) : bodyH (hintOf (sumR s)) = sumR s := by
  obtain ⟨-, h2, -, h4, h5⟩ := hc
  generalize sumR s = t at *
  unfold failH at h2
  simp only [Bool.or_eq_false_iff] at h2
  obtain ⟨⟨⟨-, f1⟩, f2⟩, f3⟩ := h2
  obtain ⟨-, k2⟩ := failE_back _ _ _ h4
  rw [empty_of h5, catE_empty] at k2
  unfold bodyH headH hintOf
  simp only
  rw [k2, entsF_length]
  simp only [ByteArray.append_assoc]
  unfold cntH tailH
  rw [numT_whole _ (numF_no f3), numT_whole _ (numF_no f2), numT_whole _ (numF_no f1)]
/-- ReadHint in words. -/
def RH (s : ByteArray) (h : HintV) (ok : Bool) : Prop := (ok = true ∧ hintB h = true ∧ showH h = s) ∨ (ok = false ∧ h = zeroH ∧ ∀ u, hintB u = true → showH u ≠ s)
theorem showH_inj {u v : HintV} (h : hintB u = true) (k : hintB v = true) (e : showH u = showH v) : u = v := by
  rw [← (shown_clean h).2, ← (shown_clean k).2, e]
theorem RH_one {s : ByteArray} {u v : HintV} {a b : Bool} (h : RH s u a) (k : RH s v b) : u = v ∧ a = b := by
  rcases h with ⟨rfl, h1, h2⟩ | ⟨rfl, rfl, h2⟩
  · rcases k with ⟨rfl, k1, k2⟩ | ⟨rfl, _, k2⟩
    · exact ⟨showH_inj h1 k1 (h2.trans k2.symm), rfl⟩
    · exact absurd h2 (k2 u h1)
  · rcases k with ⟨rfl, k1, k2⟩ | ⟨rfl, rfl, _⟩
    · exact absurd k2 (h2 v k1)
    · exact ⟨rfl, rfl⟩
/-- The same as a function. -/
def rh (s : ByteArray) : HintV × Bool := if hintB (hintOf (sumR s)) = true ∧ showH (hintOf (sumR s)) = s then (hintOf (sumR s), true) else (zeroH, false)
theorem rh_RH (s : ByteArray) : RH s (rh s).1 (rh s).2 := by
  unfold rh
  split
  · rename_i h
    exact .inl ⟨rfl, h.1, h.2⟩
  · rename_i h
    refine .inr ⟨rfl, rfl, fun u hu e => h ?_⟩
    subst e
    rw [(shown_clean hu).2]
    exact ⟨hu, rfl⟩
theorem rh_of {s : ByteArray} {v : HintV} {ok : Bool} (h : RH s v ok) : rh s = (v, ok) := by
  obtain ⟨h1, h2⟩ := RH_one (rh_RH s) h
  rw [← h1, ← h2]
theorem rh_show {v : HintV} (h : hintB v = true) : rh (showH v) = (v, true) := rh_of (Or.inl ⟨rfl, h, rfl⟩)
theorem rh_unclean {s : ByteArray} (h : ¬ CleanH s) : rh s = (zeroH, false) := rh_of (Or.inr ⟨rfl, rfl, fun u hu e => h (by rw [← e]; exact (shown_clean hu).1)⟩)
theorem rh_wrong {s : ByteArray} (h : hintB (hintOf (sumR s)) = false) : rh s = (zeroH, false) := rh_of (Or.inr ⟨rfl, rfl, fun u hu e => by
  subst e
  rw [(shown_clean hu).2, hu] at h
  cases h⟩)
theorem rh_sum {s : ByteArray} (h : crcN (sumR s) ≠ sumV s) : rh s = (zeroH, false) := rh_of (Or.inr ⟨rfl, rfl, fun u hu e => by
  subst e
  obtain ⟨h1, h2, h3⟩ := shown_read hu
  rw [h2, h3] at h
  exact h rfl⟩)
theorem rh_yes {s : ByteArray} (hc : CleanH s) (hb : hintB (hintOf (sumR s)) = true) (he : crcN (sumR s) = sumV s) : rh s = (hintOf (sumR s), true) := by
  refine rh_of (.inl ⟨rfl, hb, ?_⟩)
  rw [showH_in hb, clean_body hc]
  unfold sumS
  rw [he]
  exact sum_back s hc.1
theorem rh_eq {s : ByteArray} (hs : s.size ≠ 0) : rh s = if showH (hintOf (sumR s)) = s then (hintOf (sumR s), true) else (zeroH, false) := by
  unfold rh
  by_cases h : showH (hintOf (sumR s)) = s
  · have hb : hintB (hintOf (sumR s)) = true := by
      cases q : hintB (hintOf (sumR s)) with
      | true => rfl
      | false => rw [showH_out q] at h; exact absurd (by rw [← h]; rfl) hs
    rw [if_pos h, if_pos ⟨hb, h⟩]
  · rw [if_neg h, if_neg (fun q => h q.2)]
theorem rh_bd (s : ByteArray) : (rh s).1.list.length ≤ 20 := by
  rcases rh_RH s with ⟨_, h2, _⟩ | ⟨_, h2, _⟩
  · exact len_of (hint_bd h2).2.2.1
  · rw [h2]; exact Nat.zero_le _

end Go.Proofs.YtimpokbcfjgdaaaDoor
namespace Go.Proofs.YtimpokbcfjgdaaaDoor
open Go.RowKit
open Plain

theorem cells3h {w : World} {B : Nat} {x0 x1 x2 : Value} {ty : TypeId} (h : w.heap[B]? = some (.cells #[x0, x1, x2] ty (0, 0))) :
    w.cell? ⟨B, 0, none⟩ = some x0 ∧ w.cell? ⟨B, 1, none⟩ = some x1 ∧ w.cell? ⟨B, 2, none⟩ = some x2 ∧ w.frozen? ⟨B, 0, none⟩ = false ∧ w.frozen? ⟨B, 1, none⟩ = false ∧ w.frozen? ⟨B, 2, none⟩ = false := by
  have hf : ∀ j, w.frozen? ⟨B, j, none⟩ = false := fun j => by simp [World.frozen?, h]
  refine ⟨?_, ?_, ?_, hf 0, hf 1, hf 2⟩ <;> rw [cell_of_row w B _ _ _ _ h] <;> rfl
/-- Block B holds a hint, whose entries lie where they may be read; what was there in w is untouched. -/
structure HvAt (w : World) (B : Nat) (T : TypeId) (x m : Int) (a : Option Addr) (n cap : Nat) (xs : List EntV) (W : World) : Prop where
  row : W.heap[B]? = some (.cells #[.int .i64 x, .int .i64 m, .slice a n cap] T (0, 0))
  ents : entSh.Row W a n xs
  bel : Below w.heap.size w W
theorem HvAt.later {w : World} {B : Nat} {T : TypeId} {x m : Int} {a : Option Addr} {n cap : Nat} {xs : List EntV} {W W' : World} (h : HvAt w B T x m a n cap xs W) (hb : Below W.heap.size W W') : HvAt w B T x m a n cap xs W' :=
  ⟨(hb.block _ (lt_of_block h.row)).trans h.row, h.ents.later hb, h.bel.trans (hb.mono h.bel.size)⟩
theorem HvAt.cells {w : World} {B : Nat} {T : TypeId} {x m : Int} {a : Option Addr} {n cap : Nat} {xs : List EntV} {W : World} (h : HvAt w B T x m a n cap xs W) : W.cell? ⟨B, 0, none⟩ = some (.int .i64 x) ∧ W.cell? ⟨B, 1, none⟩ = some (.int .i64 m) ∧ W.cell? ⟨B, 2, none⟩ = some (.slice a n cap) := by
  obtain ⟨h0, h1, h2, -⟩ := cells3h h.row
  exact ⟨h0, h1, h2⟩
theorem HvAt.new {w : World} (T : TypeId) (x m : Int) {a : Option Addr} {n : Nat} (cap : Nat) {xs : List EntV} (h : entSh.Row w a n xs) : HvAt w w.heap.size T x m a n cap xs (w.alloc (.cells #[.int .i64 x, .int .i64 m, .slice a n cap] T)) :=
  ⟨heap_alloc_new w _, h.later ((Below.refl _ w).alloc (Nat.le_refl _) _), (Below.refl _ w).alloc (Nat.le_refl _) _⟩

set_option maxRecDepth 100000 in
set_option maxHeartbeats 1000000 in
theorem szHint_any (w : World) (x m : Int) (a : Option Addr) (n cap : Nat) (xs : List EntV) (hr : entSh.Row w a n xs) (hf : EFits xs) (hl : n ≤ maxLen) (l : Int) (h0 : 0 ≤ l) (h1 : l ≤ 1048576) :
    Calls Tryd.prog 5 #[.agg #[.int .i64 x, .int .i64 m, .slice a n cap], .int .i64 l] w fun e w' => e = .returned (.int .i64 (lessR l (n + szEs xs : Nat))) ∧ Below w.heap.size w w' := by
  have HB0 := hide (al1 w (.cells #[.int .i64 x, .int .i64 m, .slice a n cap] 24))
  have HS := hide (szEntS_any (w.alloc (.cells #[.int .i64 x, .int .i64 m, .slice a n cap] 24)) a n cap xs (hr.later HB0.out) hf hl l h0 h1)
  obtain ⟨v, hv⟩ : ∃ v, lessR l ((n + szEs xs : Nat) : Int) = v := ⟨_, rfl⟩
  have hsz : 0 ≤ v ∨ v = -1 := by rw [← hv]; unfold lessR; split <;> omega
  rw [hv] at HS ⊢
  clear hr hf hl h0 h1 hv
  by_cases c1 : v < 0
  · have t1 : decide (v < 0) = true := by simpa using c1
    have HE : Hid (v = -1) := hide (by omega)
    clear hsz c1
    go_enter Tryd.func5, Tryd.ntmps5
    go_wp2_with fail
    refine HS.out.mono ?_
    rintro e w1 ⟨rfl, hb1⟩
    have HB1 := hide (HB0.out.trans (hb1.mono HB0.out.size))
    clear hb1 HS
    go_wp2
    go_ret
    exact ⟨by rw [HE.out]; rfl, HB1.out⟩
  · have t1 : decide (v < 0) = false := by simpa using c1
    clear hsz c1
    go_enter Tryd.func5, Tryd.ntmps5
    go_wp2_with fail
    refine HS.out.mono ?_
    rintro e w1 ⟨rfl, hb1⟩
    have HB1 := hide (HB0.out.trans (hb1.mono HB0.out.size))
    clear hb1 HS
    go_wp2
    go_ret
    exact ⟨rfl, HB1.out⟩

set_option maxRecDepth 100000 in
set_option maxHeartbeats 1000000 in
theorem toHint_any (w : World) (x m : Int) (a : Option Addr) (n cap : Nat) (xs : List EntV) (hr : entSh.Row w a n xs) (hn : n ≤ 1048576) :
    Calls Tryd.prog 7 #[.agg #[.int .i64 x, .int .i64 m, .slice a n cap]] w fun e w' => (∃ q, e = .returned (.agg #[.int .i64 x, .int .i64 m, .slice (some ⟨q, 0, none⟩) n n]) ∧ entSh.Own 41 w' w.heap.size (.slice (some ⟨q, 0, none⟩) n n) xs) ∧ Below w.heap.size w w' := by
  obtain ⟨W, hW⟩ : ∃ W, W = ((w.alloc (.cells #[.int .i64 x, .int .i64 m, .slice a n cap] 24)).alloc (.cells #[.int .i64 0, .int .i64 0, .slice none 0 0] 29)).alloc (.cells #[.int .i64 x, .int .i64 m, .slice none 0 0] 29) := ⟨_, rfl⟩
  have HB0 : Hid (Below w.heap.size w W) := hide (by rw [hW]; exact al3 w _ _ _)
  have HAR : Hid (W.heap[w.heap.size]? = some (.cells #[.int .i64 x, .int .i64 m, .slice a n cap] 24 (0, 0))) := hide (by
    rw [hW, Below.heap_alloc _ _ _ (by simp; omega), Below.heap_alloc _ _ _ (by simp)]
    exact heap_alloc_new w _)
  have HRS : Hid (W.heap[w.heap.size + 1]? = some (.cells #[.int .i64 0, .int .i64 0, .slice none 0 0] 29 (0, 0))) := hide (by
    rw [hW, Below.heap_alloc _ _ _ (by simp)]
    have h := heap_alloc_new (w.alloc (.cells #[.int .i64 x, .int .i64 m, .slice a n cap] 24)) (.cells #[.int .i64 0, .int .i64 0, .slice none 0 0] 29)
    rw [World.size_alloc] at h
    exact h)
  have HOU : Hid (W.heap[w.heap.size + 1 + 1]? = some (.cells #[.int .i64 x, .int .i64 m, .slice none 0 0] 29 (0, 0))) := hide (by
    rw [hW]
    have h := heap_alloc_new ((w.alloc (.cells #[.int .i64 x, .int .i64 m, .slice a n cap] 24)).alloc (.cells #[.int .i64 0, .int .i64 0, .slice none 0 0] 29)) (.cells #[.int .i64 x, .int .i64 m, .slice none 0 0] 29)
    rw [World.size_alloc, World.size_alloc] at h
    exact h)
  have HT := hide (toEntS_any W a n cap xs (hr.later HB0.out) hn)
  have hws : w.heap.size + 1 + 1 < W.heap.size := (Array.getElem?_eq_some_iff.1 HOU.out).1
  have HWS := hide hws
  clear hr
  go_enter Tryd.func7, Tryd.ntmps7
  go_wp2_with fail
  rw [← hW]
  clear hW
  refine HT.out.mono ?_
  rintro e w1 ⟨rfl, ho1, hb1⟩
  have HB1 := hide (HB0.out.trans (hb1.mono HB0.out.size))
  have HO1 := hide ho1
  have har := (hb1.block _ (Array.getElem?_eq_some_iff.1 HAR.out).1).trans HAR.out
  have hrs := (hb1.block _ (Array.getElem?_eq_some_iff.1 HRS.out).1).trans HRS.out
  have hou := (hb1.block _ (Array.getElem?_eq_some_iff.1 HOU.out).1).trans HOU.out
  obtain ⟨z0, z1, z2, -⟩ := cells3h har
  obtain ⟨x0, x1, x2, x3, x4, x5⟩ := cells3h hrs
  obtain ⟨y0, y1, y2, y3, y4, y5⟩ := cells3h hou
  clear hb1 ho1 HT HB0 HAR HRS HOU har hrs hou
  go_wp2
  refine bodyPost_ret (v := .agg #[.int .i64 x, .int .i64 m, .slice (some ⟨W.heap.size, 0, none⟩) n n]) (by simp [results, Tryd.results7, go_sem, *]) rfl ⟨⟨_, rfl, ?_⟩, ?_⟩
  · refine Shape.Own.mono ?_ (show w.heap.size ≤ W.heap.size by have := HWS.out; omega)
    iterate 4 (refine Shape.Own.setCell ?_ _ _ (by dsimp only; have := HWS.out; omega))
    exact HO1.out
  · iterate 4 (refine Below.setCell ?_ (by dsimp only; omega) _)
    exact HB1.out

set_option maxRecDepth 100000 in
set_option maxHeartbeats 1000000 in
theorem eqHint_same (w : World) (x m : Int) (a b : Option Addr) (n cap cap' : Nat) (xs : List EntV) (ha : entSh.Row w a n xs) (hb : entSh.Row w b n xs) (hn : n ≤ 1099511627776) :
    Calls Tryd.prog 9 #[.agg #[.int .i64 x, .int .i64 m, .slice a n cap], .agg #[.int .i64 x, .int .i64 m, .slice b n cap']] w fun e w' => e = .returned (.bool true) ∧ Below w.heap.size w w' := by
  have HB0 := hide (al2 w (.cells #[.int .i64 x, .int .i64 m, .slice a n cap] 29) (.cells #[.int .i64 x, .int .i64 m, .slice b n cap'] 29))
  have HE := hide (eqEntS_same _ a b n cap cap' xs (ha.later HB0.out) (hb.later HB0.out) hn)
  have t1 : (x != x) = false := by simp
  have t2 : (m != m) = false := by simp
  clear ha hb
  go_enter Tryd.func9, Tryd.ntmps9
  go_wp2_with fail
  refine HE.out.mono ?_
  rintro e w1 ⟨rfl, hb1⟩
  have HB1 := hide (HB0.out.trans (hb1.mono HB0.out.size))
  clear hb1 HE
  go_wp2
  go_ret
  exact ⟨rfl, HB1.out⟩

set_option maxRecDepth 100000 in
set_option maxHeartbeats 1000000 in
theorem markHint_any (w : World) (base : Nat) (x m : Int) (a : Option Addr) (n cap : Nat) (xs : List EntV) (ho : entSh.Own 41 w base (.slice a n cap) xs) (hn : n ≤ 1099511627776) (k : Nat) (hk0 : 0 < k) (hk : k ≤ 1099511627776) :
    Calls Tryd.prog 12 #[.agg #[.int .i64 x, .int .i64 m, .slice a n cap], .int .i64 k] w fun e w' => e = .returned (.int .i64 (k + 5 * n : Nat)) ∧ entSh.Own 41 w' base (.slice a n cap) (markE n k) ∧ w.grownBy w' (Value.slice a n cap).ownBlock := by
  have hA := al1 w (.cells #[.int .i64 x, .int .i64 m, .slice a n cap] 29)
  have HG0 : Hid (w.grownBy (w.alloc (.cells #[.int .i64 x, .int .i64 m, .slice a n cap] 29)) (Value.slice a n cap).ownBlock) := hide ⟨hA.os, hA.tape, hA.output, hA.size, fun k hk _ => hA.block k hk⟩
  have HM := hide (markEntS_any (w.alloc (.cells #[.int .i64 x, .int .i64 m, .slice a n cap] 29)) base a n cap xs (ho.later hA (Nat.le_refl _)) hn k hk0 hk)
  clear ho hA
  go_enter Tryd.func12, Tryd.ntmps12
  go_wp2_with fail
  refine HM.out.mono ?_
  rintro e w1 ⟨rfl, ho1, hg1⟩
  have HO1 := hide ho1
  have HG1 := hide (gchain HG0.out hg1)
  clear ho1 hg1 HM HG0
  go_wp2
  go_ret
  exact ⟨rfl, HO1.out, HG1.out⟩

set_option maxRecDepth 100000 in
set_option maxHeartbeats 1000000 in
theorem heldHint_any (w : World) (x m : Int) (a : Option Addr) (n cap : Nat) (hn : n ≤ 1099511627776) (k : Nat) (hk0 : 0 < k) (hk : k ≤ 1099511627776) (hr : entSh.Row w a n (markE n k)) :
    Calls Tryd.prog 13 #[.agg #[.int .i64 x, .int .i64 m, .slice a n cap], .int .i64 k] w fun e w' => e = .returned (.int .i64 (k + 5 * n : Nat)) ∧ Below w.heap.size w w' := by
  have HB0 := hide (al1 w (.cells #[.int .i64 x, .int .i64 m, .slice a n cap] 29))
  have HM := hide (heldEntS_any (w.alloc (.cells #[.int .i64 x, .int .i64 m, .slice a n cap] 29)) a n cap hn k hk0 hk (hr.later HB0.out))
  obtain ⟨t, ht⟩ : ∃ t : Int, ((k + 5 * n : Nat) : Int) = t := ⟨_, rfl⟩
  have t1 : decide (t < 0) = false := by simp; omega
  rw [ht] at HM ⊢
  clear hr ht
  go_enter Tryd.func13, Tryd.ntmps13
  go_wp2_with fail
  refine HM.out.mono ?_
  rintro e w1 ⟨rfl, hb1⟩
  have HB1 := hide (HB0.out.trans (hb1.mono HB0.out.size))
  clear hb1 HM
  go_wp2
  go_ret
  exact ⟨rfl, HB1.out⟩

end Go.Proofs.YtimpokbcfjgdaaaDoor
namespace Go.Proofs.YtimpokbcfjgdaaaDoor
open Go.RowKit
open Plain

/-- Block B holds a hint of the law's own; its entries lie in a row from block lo on, ahead of B; what was there in w is untouched. -/
structure HOwn (w : World) (lo B : Nat) (x m : Int) (a : Option Addr) (n cap : Nat) (zs : List EntV) (W : World) : Prop where
  row : W.heap[B]? = some (.cells #[.int .i64 x, .int .i64 m, .slice a n cap] 29 (0, 0))
  own : entSh.Own 41 W lo (.slice a n cap) zs
  top : ∀ g, (Value.slice a n cap).ownBlock = some g → g < B
  bel : Below w.heap.size w W
  low : w.heap.size ≤ lo
  pos : w.heap.size ≤ B
theorem HOwn.later {w : World} {lo B : Nat} {x m : Int} {a : Option Addr} {n cap : Nat} {zs : List EntV} {W W' : World} (h : HOwn w lo B x m a n cap zs W) (hb : Below W.heap.size W W') : HOwn w lo B x m a n cap zs W' :=
  ⟨(hb.block _ (lt_of_block h.row)).trans h.row, h.own.later hb (Nat.le_refl _), h.top, h.bel.trans (hb.mono h.bel.size), h.low, h.pos⟩
theorem HOwn.new {w W : World} {lo : Nat} (x m : Int) {a : Option Addr} {n cap : Nat} {zs : List EntV} (h : entSh.Own 41 W lo (.slice a n cap) zs) (hb : Below w.heap.size w W) (hl : w.heap.size ≤ lo) : HOwn w lo W.heap.size x m a n cap zs (W.alloc (.cells #[.int .i64 x, .int .i64 m, .slice a n cap] 29)) :=
  ⟨heap_alloc_new W _, h.later (al1 W _) (Nat.le_refl _), fun g hg => (h.blk g hg).2, hb.alloc hb.size _, hl, hb.size⟩
/-- Another row is written, behind this hint. -/
theorem HOwn.other {w : World} {lo B : Nat} {x m : Int} {a : Option Addr} {n cap : Nat} {zs : List EntV} {W W' : World} {r : Option Nat} (h : HOwn w lo B x m a n cap zs W) (hg : W.grownBy W' r) (hr : ∀ g, r = some g → B < g) : HOwn w lo B x m a n cap zs W' := by
  have hB := lt_of_block h.row
  have hp := h.pos
  refine ⟨(hg.block _ hB (fun e => by have := hr _ e.symm; omega)).trans h.row, ⟨h.own.1, ?_⟩, h.top, h.bel.grown hg h.bel.size (fun g e => by have h1 := hr g e; omega), h.low, h.pos⟩
  rcases h.own.2 with h1 | ⟨g, c, cur, e, hbg, hg1, h2⟩
  · exact .inl h1
  · have ht := h.top g (by rw [e]; rfl)
    exact .inr ⟨g, c, cur, e, hbg, (hg.block g (lt_of_block hg1) (fun e2 => by have := hr g e2.symm; omega)).trans hg1, h2⟩
theorem HOwn.written {w : World} {lo B : Nat} {x m : Int} {a : Option Addr} {n cap : Nat} {zs ys : List EntV} {W W' : World} (h : HOwn w lo B x m a n cap zs W) (hg : W.grownBy W' (Value.slice a n cap).ownBlock) (ho : entSh.Own 41 W' lo (.slice a n cap) ys) : HOwn w lo B x m a n cap ys W' := by
  refine ⟨(hg.block _ (lt_of_block h.row) (fun e => by have := h.top _ e.symm; omega)).trans h.row, ho, h.top, h.bel.grown hg h.bel.size (fun g e => Nat.le_trans h.low (h.own.blk g e).1), h.low, h.pos⟩
theorem HOwn.cells {w : World} {lo B : Nat} {x m : Int} {a : Option Addr} {n cap : Nat} {zs : List EntV} {W : World} (h : HOwn w lo B x m a n cap zs W) : W.cell? ⟨B, 0, none⟩ = some (.int .i64 x) ∧ W.cell? ⟨B, 1, none⟩ = some (.int .i64 m) ∧ W.cell? ⟨B, 2, none⟩ = some (.slice a n cap) := by
  obtain ⟨h1, h2, h3, -⟩ := cells3h h.row
  exact ⟨h1, h2, h3⟩

end Go.Proofs.YtimpokbcfjgdaaaDoor
namespace Go.Proofs.YtimpokbcfjgdaaaDoor
open Go.RowKit
open Plain

set_option maxHeartbeats 400000 in
theorem specVar_no (n : Int) (w : World) (h : n < 0 ∨ 562949953421311 < n) :
    Calls Tryd.prog 16 #[.int .i64 n] w fun e w' => e = .returned (.string ⟨#[]⟩) ∧ w = w' := by
  have hin : decide (0 ≤ n ∧ n ≤ 562949953421311) = false := by simp; omega
  go_enter Tryd.func16, Tryd.ntmps16
  go_wp2_with (go_at_call 35; refine (in_any _ _ _ _).mono ?_; rw [hin]; rintro e w' ⟨rfl, rfl⟩)
  go_ret
  exact ⟨rfl, rfl⟩

set_option maxRecDepth 100000 in
set_option maxHeartbeats 400000 in
theorem specVar_yes (n : Nat) (w : World) (hn : n ≤ 562949953421311) :
    Calls Tryd.prog 16 #[.int .i64 n] w fun e w' => e = .returned (.string (strOfNums (vb n))) ∧ Below w.heap.size w w' := by
  have hin : decide ((0:Int) ≤ n ∧ (n:Int) ≤ 562949953421311) = true := by simp; omega
  have H7 := vb_len7 n hn
  go_enter Tryd.func16, Tryd.ntmps16
  go_wp2_with (go_at_call 35; refine (in_any _ _ _ _).mono ?_; rw [hin]; rintro e w' ⟨rfl, rfl⟩)
  go_loopw [0, 3] (fun a v wr => ∃ (q : Nat) (p : List Int), q ≤ 562949953421311 ∧ a = .int .i64 q ∧ wr.ownsRow w.heap.size 5 1 v p.length (p.map (Value.int .u8)) ∧ Hid (p ++ vb q = vb n) ∧ Below w.heap.size w wr) (fun a _ _ => (intOf a).toNat)
  case atStart => exact ⟨n, [], hn, rfl, World.ownsRow_lit w #[] 0 (Nat.le_refl _) (by unfold maxLen; omega) rfl, hide rfl, (Below.refl _ _).alloc (Nat.le_refl _) _⟩
  case round =>
    obtain ⟨q, p, hq, rfl, hown, HP, hB⟩ := hrel
    have hpl : p.length ≤ 7 := by have := congrArg List.length HP.out; simp at this; omega
    by_cases hs : q < 128
    · go_wp2_with (at_builtin; refine wpList_app_byte rfl (.tmp 19) (.tmp 22) rfl hown hB.size _ (by omega) rfl rfl ?_; intro v' w2 hown2 hB2; have hcv := cv_own (L := vb n) (by rw [← HP.out, vb_small q hs]; simpa using hown2))
      go_ret
      exact ⟨rfl, hB.trans ‹_›⟩
    · go_wp2_with (at_builtin; refine wpList_app_byte rfl (.tmp 10) (.tmp 15) rfl hown hB.size _ (by omega) rfl rfl ?_; intro v' w2 hown2 hB2)
      rename_i v' w2 hown2 hB2
      go_roundw
      case rel => exact ⟨q / 128, p ++ [128 + (q : Int) % 128], by omega, by go_num, by simpa using hown2, hide (by rw [← HP.out, vb_big q hs]; simp), hB.trans hB2⟩
      case measure => simp [intOf]; omega

end Go.Proofs.YtimpokbcfjgdaaaDoor
namespace Go.Proofs.YtimpokbcfjgdaaaDoor
open Go.RowKit
open Plain

set_option maxHeartbeats 400000 in
theorem put_any (g N at' : Nat) (cur : List Value) (ad : Addr) (m : Nat) (cs : List Value) (w : World) (hg : w.heap[g]? = some (.cells cur.toArray 5 (0, 0))) (hN : cur.length = N) (hN2 : N ≤ 4194304)
    (hm : cs.length = m) (hm0 : 0 < m) (hfit : at' + m ≤ N) (hsrc : ∀ j v, cs[j]? = some v → w.cell? (ad.add j) = some v) (h1 : ∀ v ∈ cs, v.oneCell' = true) :
    Calls Tryd.prog 40 #[.slice (some ⟨g, 0, none⟩) N N, .int .i64 at', .slice (some ad) m m] w fun e w' => e = .returned (.int .i64 ((at' : Int) + (m : Int))) ∧ w' = w.setRow g (splice cur at' cs).toArray := by
  have hcp : (Builtin.copy_ #[46, 46] 3 #[.slice (some ⟨g, at', none⟩) (N - at') (N - at'), .slice (some ad) m m]).run Tryd.prog w = .ok (.int .i64 (m : Int)) (w.setRow g (splice cur at' cs).toArray) := by
    have h := run_copy_row (P := Tryd.prog) w 46 46 3 5 g at' (N - at') (N - at') ad m m cur.toArray 5 cs Tryd.underlying46 Tryd.size5 hg (by rw [hm]; exact (Nat.min_eq_left (by omega)).symm) hsrc (by simp [hN, hm]; omega) h1
    rw [h, hm]
    simp [goInt, splice, hm]
  clear hg hsrc h1
  generalize w.setRow g (splice cur at' cs).toArray = wz at *
  clear hN hm
  go_enter Tryd.func40, Tryd.ntmps40
  go_wp2
  go_ret
  exact ⟨rfl, rfl⟩

/-- impl.putBehind on a row of the call's own, at the end of what is filled. -/
theorem put_row (g N B m : Nat) (p r : List Int) (w wr : World) (hm : r.length = m) (hm0 : 0 < m) (hfit : p.length + m ≤ N) (hN : N ≤ 4194304) (HR : Hid (wr.heap[g]? = some (.cells (rowOf N p).toArray 5 (0, 0)))) (hB : Below B w wr) (hBw : B ≤ wr.heap.size) (hBg : B ≤ g) :
    Calls Tryd.prog 40 #[.slice (some ⟨g, 0, none⟩) N N, .int .i64 p.length, .slice (some ⟨wr.heap.size, 0, none⟩) m m] (wr.alloc (.cells (r.map (Value.int .u8)).toArray 5))
      fun e w' => e = .returned (.int .i64 ((p.length : Int) + (m : Int))) ∧ Hid (w'.heap[g]? = some (.cells (rowOf N (p ++ r)).toArray 5 (0, 0))) ∧ Below B w w' := by
  have hg2 : (wr.alloc (.cells (r.map (Value.int .u8)).toArray 5)).heap[g]? = some (.cells (rowOf N p).toArray 5 (0, 0)) := by rw [Below.heap_alloc _ _ _ (lt_of_block HR.out)]; exact HR.out
  refine (put_any g N p.length (rowOf N p) ⟨wr.heap.size, 0, none⟩ m (r.map (Value.int .u8)) _ hg2 (rowOf_len _ _ (by omega)) hN (by simpa using hm) hm0 hfit (src_row wr r) (one_row r)).mono ?_
  rintro e w2 ⟨rfl, rfl⟩
  refine ⟨rfl, hide ?_, below_setRow (hB.alloc hBw _) hBg _⟩
  rw [← rowOf_step N p r (by omega)]
  exact setRow_heap _ _ _ _ _ _ hg2
theorem put1 (g N B : Nat) (p : List Int) (x : Int) (w wr : World) (hfit : p.length + 1 ≤ N) (hN : N ≤ 4194304) (HR : Hid (wr.heap[g]? = some (.cells (rowOf N p).toArray 5 (0, 0)))) (hB : Below B w wr) (hBw : B ≤ wr.heap.size) (hBg : B ≤ g) :
    Calls Tryd.prog 40 #[.slice (some ⟨g, 0, none⟩) N N, .int .i64 p.length, .slice (some ⟨wr.heap.size, 0, none⟩) 1 1] (wr.alloc (.cells #[.int .u8 x] 5))
      fun e w' => e = .returned (.int .i64 ((p.length : Int) + 1)) ∧ Hid (w'.heap[g]? = some (.cells (rowOf N (p ++ [x])).toArray 5 (0, 0))) ∧ Below B w w' :=
  put_row g N B 1 p [x] w wr rfl (by omega) hfit hN HR hB hBw hBg
theorem put2 (g N B : Nat) (p : List Int) (x y : Int) (w wr : World) (hfit : p.length + 2 ≤ N) (hN : N ≤ 4194304) (HR : Hid (wr.heap[g]? = some (.cells (rowOf N p).toArray 5 (0, 0)))) (hB : Below B w wr) (hBw : B ≤ wr.heap.size) (hBg : B ≤ g) :
    Calls Tryd.prog 40 #[.slice (some ⟨g, 0, none⟩) N N, .int .i64 p.length, .slice (some ⟨wr.heap.size, 0, none⟩) 2 2] (wr.alloc (.cells #[.int .u8 x, .int .u8 y] 5))
      fun e w' => e = .returned (.int .i64 ((p.length : Int) + 2)) ∧ Hid (w'.heap[g]? = some (.cells (rowOf N (p ++ [x, y])).toArray 5 (0, 0))) ∧ Below B w w' :=
  put_row g N B 2 p [x, y] w wr rfl (by omega) hfit hN HR hB hBw hBg

end Go.Proofs.YtimpokbcfjgdaaaDoor
namespace Go.Proofs.YtimpokbcfjgdaaaDoor
open Go.RowKit
open Plain

set_option maxHeartbeats 400000 in
theorem implVar_no (n : Int) (w : World) (h : n < 0 ∨ 562949953421311 < n) :
    Calls Tryd.prog 22 #[.int .i64 n] w fun e w' => e = .returned (.string ⟨#[]⟩) ∧ w = w' := by
  by_cases h1 : n < 0
  · go_enter Tryd.func22, Tryd.ntmps22
    go_wp2
    go_ret
    exact ⟨rfl, rfl⟩
  · have h2 : 562949953421311 < n := by omega
    go_enter Tryd.func22, Tryd.ntmps22
    go_wp2
    go_ret
    exact ⟨rfl, rfl⟩

set_option maxRecDepth 100000 in
set_option maxHeartbeats 400000 in
theorem implVar_yes (n : Nat) (w : World) (hn : n ≤ 562949953421311) :
    Calls Tryd.prog 22 #[.int .i64 n] w fun e w' => e = .returned (.string (strOfNums (vb n))) ∧ Below w.heap.size w w' := by
  have H7 := vb_len7 n hn
  obtain ⟨i0, hi, hz0, hz1, hz2⟩ := info_parts Tryd.info5
  obtain ⟨w1, hmk0, hown, hgrow⟩ := run_make_full (P := Tryd.prog) w w.heap.size 46 5 i0 (.int .u8 0) 1 Tryd.underlying46 hi hz0 hz1 .i64 .i64 7 (by rw [hz2]; omega) (by unfold maxLen; omega) (Nat.le_refl _)
  have hmk : (Instr.makeSlice 46 (.int .i64 7) (.int .i64 7)).run Tryd.prog w = .ok (.slice (some ⟨w.heap.size, 0, none⟩) 7 7) w1 := hmk0
  have hB1 : Below w.heap.size w w1 := (Below.refl _ _).grown hgrow (Nat.le_refl _) (by intro k h; cases h)
  have HR : Hid (w1.heap[w.heap.size]? = some (.cells (rowOf 7 []).toArray 5 (0, 0))) := hide (by rw [made_row hown, rowOf_nil])
  clear hown hgrow hi hz0 hz1 hz2 hmk0
  go_enter Tryd.func22, Tryd.ntmps22
  go_wp2
  go_loopw [0, 4] (fun a v wr => ∃ (q : Nat) (p : List Int), q ≤ 562949953421311 ∧ a = .int .i64 q ∧ v = .int .i64 p.length ∧ Hid (wr.heap[w.heap.size]? = some (.cells (rowOf 7 p).toArray 5 (0, 0))) ∧ Hid (p ++ vb q = vb n) ∧ Below w.heap.size w wr) (fun a _ _ => (intOf a).toNat)
  case atStart => exact ⟨n, [], hn, rfl, rfl, HR, hide rfl, hB1⟩
  case round =>
    clear HR hB1 hmk
    obtain ⟨q, p, hq, rfl, rfl, HR, HP, hB⟩ := hrel
    have hpl : p.length + (vb q).length ≤ 7 := by have := congrArg List.length HP.out; simp at this; omega
    have hvp := vb_pos q
    have hlt2 : w.heap.size < wr.heap.size := lt_of_block HR.out
    by_cases hs : q < 128
    · go_wp2_with fail
      refine (put1 w.heap.size 7 w.heap.size p (q : Int) w wr (by omega) (by omega) HR hB hB.size (Nat.le_refl _)).mono ?_
      rintro e w2 ⟨rfl, HR2, hB2⟩
      have hL : p ++ [(q : Int)] = vb n := by rw [← HP.out, vb_small q hs]
      have hl : (vb n).length = p.length + 1 := by rw [← hL]; simp
      rw [hL] at HR2
      have hcv := cv_pre HR2.out hl
      clear HR2 HR hL hl HP
      go_wp2
      go_ret
      exact ⟨rfl, hB2⟩
    · have e1 := i64_and127 (q : Int)
      have e2 := or128 ((q : Int) % 128) (by omega) (by omega)
      have HP2 : Hid ((p ++ [128 + (q : Int) % 128]) ++ vb (q / 128) = vb n) := hide (by rw [← HP.out, vb_big q hs]; simp)
      have hv2 := vb_pos (q / 128)
      have hp2 : p.length + 2 ≤ 7 := by rw [vb_big q hs] at hpl; simp at hpl; omega
      go_wp2_with fail
      refine (put1 w.heap.size 7 w.heap.size p (128 + (q : Int) % 128) w wr (by omega) (by omega) HR hB hB.size (Nat.le_refl _)).mono ?_
      rintro e w2 ⟨rfl, HR2, hB2⟩
      clear HR HP e1 e2
      go_wp2
      go_roundw
      case rel => exact ⟨q / 128, _, by omega, by go_num, by simp, HR2, HP2, hB2⟩
      case measure => simp [intOf]; omega

end Go.Proofs.YtimpokbcfjgdaaaDoor
namespace Go.Proofs.YtimpokbcfjgdaaaDoor
open Go.RowKit
open Plain

set_option maxHeartbeats 400000 in
theorem specFixed_no (n m : Int) (w : World) (h : n < 0 ∨ m < 1 ∨ 7 < m) :
    Calls Tryd.prog 17 #[.int .i64 n, .int .i64 m] w fun e w' => e = .returned (.string ⟨#[]⟩) ∧ w = w' := by
  by_cases h1 : 1 ≤ m ∧ m ≤ 7
  · have hin : decide (1 ≤ m ∧ m ≤ 7) = true := by simpa using h1
    go_enter Tryd.func17, Tryd.ntmps17
    go_wp2_with (go_at_call 35; refine (in_any _ _ _ _).mono ?_; rw [hin]; rintro e w' ⟨rfl, rfl⟩)
    go_ret
    exact ⟨rfl, rfl⟩
  · have hin : decide (1 ≤ m ∧ m ≤ 7) = false := by simpa using h1
    go_enter Tryd.func17, Tryd.ntmps17
    go_wp2_with (go_at_call 35; refine (in_any _ _ _ _).mono ?_; rw [hin]; rintro e w' ⟨rfl, rfl⟩)
    go_ret
    exact ⟨rfl, rfl⟩

set_option maxHeartbeats 400000 in
theorem specFixed_yes (n m : Nat) (w : World) (hn : n ≤ 9223372036854775807) (h1 : 1 ≤ m) (h2 : m ≤ 7) :
    Calls Tryd.prog 17 #[.int .i64 n, .int .i64 m] w fun e w' => e = .returned (.string (fixStr n m)) ∧ Below w.heap.size w w' := by
  have hin : decide ((1:Int) ≤ m ∧ (m:Int) ≤ 7) = true := by simp; omega
  go_enter Tryd.func17, Tryd.ntmps17
  go_wp2_with (go_at_call 35; refine (in_any _ _ _ _).mono ?_; rw [hin]; rintro e w' ⟨rfl, rfl⟩)
  go_loopw [0, 5, 6] (fun q o i wr => ∃ k : Nat, k ≤ m ∧ i = .int .i64 k ∧ q = .int .i64 ((n / 256 ^ k : Nat) : Int) ∧ o = .string (strOfNums (low n k)) ∧ Below w.heap.size w wr) (fun _ _ i _ => m - (intOf i).toNat)
  case atStart => exact ⟨0, Nat.zero_le _, rfl, by simp, by simp [low, strOfNums], Below.refl _ _⟩
  case round =>
    obtain ⟨k, hk, rfl, rfl, rfl, hB⟩ := hrel
    by_cases hlt : k < m
    · have HQ : Hid (n / 256 ^ (k + 1) = n / 256 ^ k / 256) := hide (div_step n k).symm
      have HL : Hid (low n (k + 1) = ((n / 256 ^ k % 256 : Nat) : Int) :: low n k) := hide (low_succ n k)
      have hq : n / 256 ^ k ≤ n := Nat.div_le_self _ _
      have ho : (strOfNums (low n k)).size ≤ 7 := by rw [strOfNums_size, low_length]; omega
      generalize hqq : n / 256 ^ k = q at *
      generalize hll : low n k = L at *
      have ho1 : (strOfNums [(q : Int) % 256]).size ≤ 1 := by rw [strOfNums_size]; simp
      clear hqq hll
      have hcv := cv_one wr
      go_wp2
      go_roundw
      case rel => exact ⟨k + 1, by omega, by go_num, val_int (by rw [HQ.out]; omega), by rw [strOfNums_append, HL.out]; rfl, hB.alloc hB.size _⟩
      case measure => simp [intOf]; omega
    · obtain rfl : k = m := by omega
      have hd := div_pos_iff n k
      have hpw : 0 < 256 ^ k := Nat.pow_pos (by omega)
      by_cases hbig : 256 ^ k ≤ n
      · have hp : 0 < n / 256 ^ k := hd.2 hbig
        have HF : Hid (fixStr n k = ⟨#[]⟩) := hide (by simp [fixStr]; omega)
        clear hd hbig hpw
        generalize n / 256 ^ k = q at *
        go_wp2
        go_ret
        exact ⟨by rw [HF.out]; rfl, hB⟩
      · have hp : n / 256 ^ k = 0 := Nat.div_eq_of_lt (by omega)
        have HF : Hid (fixStr n k = strOfNums (low n k)) := hide (by simp [fixStr]; omega)
        rw [hp]
        clear hd hbig hpw hp
        go_wp2
        go_ret
        exact ⟨by rw [HF.out]; rfl, hB⟩

end Go.Proofs.YtimpokbcfjgdaaaDoor
namespace Go.Proofs.YtimpokbcfjgdaaaDoor
open Go.RowKit
open Plain

set_option maxRecDepth 100000 in
set_option maxHeartbeats 400000 in
theorem implFixed_no (n m : Int) (w : World) (h : n < 0 ∨ m < 1 ∨ 7 < m) :
    Calls Tryd.prog 24 #[.int .i64 n, .int .i64 m] w fun e w' => e = .returned (.string ⟨#[]⟩) ∧ w = w' := by
  by_cases h1 : m < 1
  · go_enter Tryd.func24, Tryd.ntmps24
    go_wp2
    go_ret
    exact ⟨rfl, rfl⟩
  · by_cases h2 : 7 < m
    · go_enter Tryd.func24, Tryd.ntmps24
      go_wp2
      go_ret
      exact ⟨rfl, rfl⟩
    · have h3 : n < 0 := by omega
      go_enter Tryd.func24, Tryd.ntmps24
      go_wp2
      go_ret
      exact ⟨rfl, rfl⟩

def rowAt (L : List Int) (k : Nat) : List Value := (L.take k ++ List.replicate (L.length - k) 0).map (Value.int .u8)
theorem rowAt_len (L : List Int) (k : Nat) (h : k ≤ L.length) : (rowAt L k).length = L.length := by simp [rowAt]; omega
theorem rowAt_zero (L : List Int) : rowAt L 0 = List.replicate L.length (.int .u8 0) := by simp [rowAt]
theorem rowAt_full (L : List Int) : rowAt L L.length = L.map (Value.int .u8) := by simp [rowAt]
theorem rowAt_step (L : List Int) (k : Nat) (x : Int) (h : L[k]? = some x) : splice (rowAt L k) k [.int .u8 x] = rowAt L (k + 1) := by
  have hk : k < L.length := by
    rcases Nat.lt_or_ge k L.length with h' | h'
    · exact h'
    · rw [List.getElem?_eq_none h'] at h; simp at h
  have hx : L[k] = x := by rw [List.getElem?_eq_getElem hk] at h; simpa using h
  unfold splice rowAt
  rw [List.take_succ_eq_append_getElem hk, hx]
  have e : L.length - k = (L.length - (k + 1)) + 1 := by omega
  rw [e, List.replicate_succ]
  simp [List.drop_append, Nat.min_eq_left (Nat.le_of_lt hk)]

/-- A whole row of bytes of the call's own, as a string. -/
theorem cv_row {w : World} {g n k : Nat} {L : List Int} (h : w.heap[g]? = some (.cells (rowAt L k).toArray 5 (0, 0))) (hk : k = L.length) (hn : L.length = n) :
    (convert 46 9 (.slice (some ⟨g, 0, none⟩) n n)).run Tryd.prog w = .ok (.string (strOfNums L)) w := by
  subst hk
  refine run_convert_bytes_arg (P := Tryd.prog) w 46 5 Tryd.underlying46 Tryd.underlying5 g 0 n n L hn ?_ 9 Tryd.underlying9
  intro i hi
  rw [rowAt_full] at h
  have hi' : i < L.length := by omega
  simp [World.cell?, h, List.getD, hi']

theorem pow256 (k : Nat) : (2 : Nat) ^ (8 * k) = 256 ^ k := by rw [Nat.pow_mul]
theorem shr_pow (n k : Nat) : (n : Int) / 2 ^ (8 * k) = ((n / 256 ^ k : Nat) : Int) := by
  rw [← pow256]; norm_cast
theorem shr_byte (n k : Nat) : (n : Int) / 2 ^ (8 * k) % 256 = ((n / 256 ^ k % 256 : Nat) : Int) := by
  rw [shr_pow]
  generalize n / 256 ^ k = q
  omega

set_option maxRecDepth 100000 in
set_option maxHeartbeats 400000 in
theorem implFixed_great (n m : Nat) (w : World) (_hn : n ≤ 9223372036854775807) (h1 : 1 ≤ m) (h2 : m ≤ 7) (hb : 256 ^ m ≤ n) :
    Calls Tryd.prog 24 #[.int .i64 n, .int .i64 m] w fun e w' => e = .returned (.string ⟨#[]⟩) ∧ w = w' := by
  have hsh : ((n : Int) / 2 ^ (8 * m) != 0) = true := by
    rw [shr_pow]
    have := (div_pos_iff n m).2 hb
    simp only [bne_iff_ne, ne_eq]
    omega
  clear hb
  go_enter Tryd.func24, Tryd.ntmps24
  go_wp2
  go_ret
  exact ⟨rfl, rfl⟩

set_option maxRecDepth 100000 in
set_option maxHeartbeats 400000 in
theorem implFixed_fits (n m : Nat) (w : World) (hn : n ≤ 9223372036854775807) (h1 : 1 ≤ m) (h2 : m ≤ 7) (hb : n < 256 ^ m) :
    Calls Tryd.prog 24 #[.int .i64 n, .int .i64 m] w fun e w' => e = .returned (.string (strOfNums (low n m))) ∧ Below w.heap.size w w' := by
  have hsh : ((n : Int) / 2 ^ (8 * m) != 0) = false := by
    rw [shr_pow, Nat.div_eq_of_lt hb]; rfl
  clear hb
  obtain ⟨i0, hi, hz0, hz1, hz2⟩ := info_parts Tryd.info5
  obtain ⟨w1, hmk, hown, hgrow⟩ := run_make_full (P := Tryd.prog) w w.heap.size 46 5 i0 (.int .u8 0) 1 Tryd.underlying46 hi hz0 hz1 .i64 .i64 m (by rw [hz2]; omega) (by unfold maxLen; omega) (Nat.le_refl _)
  have hrow := made_row hown
  have hB1 : Below w.heap.size w w1 := (Below.refl _ _).grown hgrow (Nat.le_refl _) (by intro k h; cases h)
  have hlow := low_length n m
  have HL : Hid ((low n m).length = m) := hide hlow
  have HR : Hid (w1.heap[w.heap.size]? = some (.cells (rowAt (low n m) 0).toArray 5 (0, 0))) := hide (by rw [hrow, rowAt_zero, hlow])
  clear hown hgrow hrow hlow hi hz0 hz1 hz2
  go_enter Tryd.func24, Tryd.ntmps24
  go_wp2
  go_loopw [6, 28] (fun a i wr => ∃ k : Nat, k ≤ m ∧ a = .int .i64 k ∧ i = .int .i64 k ∧ Hid (wr.heap[w.heap.size]? = some (.cells (rowAt (low n m) k).toArray 5 (0, 0))) ∧ Below w.heap.size w wr) (fun _ i _ => m - (intOf i).toNat)
  case atStart => exact ⟨0, Nat.zero_le _, rfl, rfl, HR, hB1⟩
  case round =>
    clear HR hB1 hmk
    obtain ⟨k, hk, rfl, rfl, HR, hB⟩ := hrel
    by_cases hlt : k < m
    · have hx : (low n m)[k]? = some ((n : Int) / 2 ^ (8 * (m - 1 - k)) % 256) := by rw [low_get n m k hlt, shr_byte]
      go_wp2_with fail
      generalize (n : Int) / 2 ^ (8 * (m - 1 - k)) % 256 = x at *
      have hst := rowAt_step (low n m) k x hx
      have hlt2 : w.heap.size < wr.heap.size := lt_of_block HR.out
      have hg2 : (wr.alloc (.cells #[.int .u8 x] 5)).heap[w.heap.size]? = some (.cells (rowAt (low n m) k).toArray 5 (0, 0)) := by rw [Below.heap_alloc _ _ _ hlt2]; exact HR.out
      have hB2 : Below w.heap.size w (wr.alloc (.cells #[.int .u8 x] 5)) := hB.alloc hB.size _
      refine (put_any w.heap.size m k (rowAt (low n m) k) ⟨wr.heap.size, 0, none⟩ 1 [.int .u8 x] _ hg2 (by rw [rowAt_len _ _ (by rw [HL.out]; exact hk)]; exact HL.out) (by omega) rfl (by omega) (by omega) (src_one wr x) (one_one x)).mono ?_
      rintro e w2 ⟨rfl, hw2⟩
      have HR2 : Hid (w2.heap[w.heap.size]? = some (.cells (rowAt (low n m) (k + 1)).toArray 5 (0, 0))) := hide (by rw [hw2, ← hst]; exact setRow_heap _ _ _ _ _ _ hg2)
      have hB3 : Below w.heap.size w w2 := by rw [hw2]; exact below_setRow hB2 (Nat.le_refl _) _
      clear hw2 hg2 hst hx hB2 hlt2 HR hB
      go_wp2
      go_roundw
      case rel => exact ⟨k + 1, by omega, by go_num, by go_num, HR2, hB3⟩
      case measure => simp [intOf]; omega
    · obtain rfl : k = m := by omega
      have hcv : (convert 46 9 (.slice (some ⟨w.heap.size, 0, none⟩) k k)).run Tryd.prog wr = .ok (.string (strOfNums (low n k))) wr := cv_row HR.out (by rw [HL.out]) HL.out
      clear HR
      go_wp2
      go_ret
      exact ⟨rfl, hB⟩

theorem implFixed_yes (n m : Nat) (w : World) (hn : n ≤ 9223372036854775807) (h1 : 1 ≤ m) (h2 : m ≤ 7) :
    Calls Tryd.prog 24 #[.int .i64 n, .int .i64 m] w fun e w' => e = .returned (.string (fixStr n m)) ∧ Below w.heap.size w w' := by
  by_cases hb : n < 256 ^ m
  · have e : fixStr n m = strOfNums (low n m) := by simp [fixStr, hb]
    rw [e]
    exact implFixed_fits n m w hn h1 h2 hb
  · have e : fixStr n m = ⟨#[]⟩ := by simp [fixStr, hb]
    rw [e]
    refine (implFixed_great n m w hn h1 h2 (by omega)).mono ?_
    rintro e w' ⟨rfl, rfl⟩
    exact ⟨rfl, Below.refl _ _⟩

end Go.Proofs.YtimpokbcfjgdaaaDoor
namespace Go.Proofs.YtimpokbcfjgdaaaDoor
open Go.RowKit
open Plain

set_option maxHeartbeats 400000 in
theorem implReadFixed_no (s : ByteArray) (n : Int) (w : World) (_hs : s.size ≤ 1048576) (h : n < 1 ∨ 7 < n ∨ s.size < n) :
    Calls Tryd.prog 44 #[.string s, .int .i64 n] w fun e w' => e = .returned (.tuple #[.int .i64 0, .bool false]) ∧ w = w' := by
  by_cases h1 : n < 1
  · go_enter Tryd.func44, Tryd.ntmps44
    go_wp2
    go_ret2
    exact ⟨rfl, rfl⟩
  · by_cases h2 : 7 < n
    · go_enter Tryd.func44, Tryd.ntmps44
      go_wp2
      go_ret2
      exact ⟨rfl, rfl⟩
    · go_enter Tryd.func44, Tryd.ntmps44
      go_wp2
      go_ret2
      exact ⟨rfl, rfl⟩

set_option maxHeartbeats 400000 in
theorem implReadFixed_yes (s : ByteArray) (m : Nat) (w : World) (hs : s.size ≤ 1048576) (h1 : 1 ≤ m) (h2 : m ≤ 7) (h3 : m ≤ s.size) :
    Calls Tryd.prog 44 #[.string s, .int .i64 m] w fun e w' => e = .returned (.tuple #[.int .i64 (fixVal s m), .bool true]) ∧ w = w' := by
  go_enter Tryd.func44, Tryd.ntmps44
  go_wp2
  go_loop [6, 21] (fun n i => ∃ k : Nat, k ≤ m ∧ i = .int .i64 k ∧ n = .int .i64 (fixVal s k)) (fun _ i => m - (intOf i).toNat)
  case atStart => exact ⟨0, Nat.zero_le _, rfl, rfl⟩
  case round =>
    obtain ⟨k, hk, rfl, rfl⟩ := hrel
    by_cases hlt : k < m
    · have hb := fixVal_bd s k (by omega)
      have hk2 : k < s.size := by omega
      have hc := UInt8.toNat_lt s[k]
      have HS : Hid (fixVal s (k + 1) = fixVal s k * 256 + s[k].toNat) := by show _ = _; rw [fixVal, byteAt_eq s k hk2]
      go_wp2
      go_round
      case rel => exact ⟨k + 1, by omega, by go_num, val_int (by rw [HS.out]; rw [or_byte _ _ (by omega) (by omega) (by omega) (by omega)]; omega)⟩
      case measure => simp [intOf]; omega
    · obtain rfl : k = m := by omega
      go_wp2
      go_ret2
      exact ⟨rfl, rfl⟩

end Go.Proofs.YtimpokbcfjgdaaaDoor
