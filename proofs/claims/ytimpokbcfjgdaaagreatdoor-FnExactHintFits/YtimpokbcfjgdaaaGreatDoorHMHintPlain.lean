/-
  Hints with no Go in sight: which are right, what ShowHint makes of one, what is read back.
-/
import Derived.Test.YtimpokbcfjgdaaaGreatDoorHG05
namespace Go.Proofs.YtimpokbcfjgdaaaGreatDoor
open Go.RowKit
open Plain

structure HintV where
  size : Int
  mark : Int
  list : List EntV
theorem HintV.ext' {h g : HintV} (h1 : h.size = g.size) (h2 : h.mark = g.mark) (h3 : h.list = g.list) : h = g := by
  cases h; cases g; simp_all
def zeroH : HintV := ⟨0, 0, []⟩
/-- Does an entry stand in this segment, and not too far back? -/
def segAt (g : Int) (e : EntV) : Bool := decide (e.seg = g) && decide (e.pos ≤ 100000)
def oneSeg (l : List EntV) : Bool := l.all (segAt (l.getD 0 zeroE).seg)
def listOk (l : List EntV) : Bool := dirOk l && oneSeg l
def hintB (h : HintV) : Bool := decide (0 ≤ h.size ∧ h.size ≤ 100000) && (decide (0 ≤ h.mark ∧ h.mark ≤ 1000000) && listOk h.list)
def entT (e : EntV) : ByteArray := textS e.key ++ varS e.seg ++ varS e.pos ++ varS e.len ++ varS e.bat
def catE : List EntV → ByteArray
  | [] => ⟨#[]⟩
  | e :: r => entT e ++ catE r
def headH (h : HintV) : ByteArray := varS h.size ++ varS h.mark ++ varS (h.list.length : Int)
/-- The head and the first k entries. -/
def bodyE (h : HintV) (k : Nat) : ByteArray := headH h ++ catE (h.list.take k)
def bodyH (h : HintV) : ByteArray := headH h ++ catE h.list
def showH (h : HintV) : ByteArray := if hintB h then sumS (bodyH h) ++ bodyH h else ⟨#[]⟩
theorem catE_snoc (l : List EntV) (e : EntV) : catE (l ++ [e]) = catE l ++ entT e := by
  induction l with
  | nil => rw [List.nil_append, catE, catE, catE]; exact ByteArray.append_empty.trans ByteArray.empty_append.symm
  | cons y r ih => rw [List.cons_append, catE, catE, ih, ByteArray.append_assoc]
theorem bodyE_zero (h : HintV) : bodyE h 0 = headH h := by unfold bodyE; rw [List.take_zero]; exact ByteArray.append_empty
theorem bodyE_succ (h : HintV) (k : Nat) (hk : k < h.list.length) : bodyE h (k + 1) = bodyE h k ++ entT (h.list[k]) := by
  unfold bodyE
  rw [List.take_succ_eq_append_getElem hk, catE_snoc, ByteArray.append_assoc]
theorem bodyE_all (h : HintV) : bodyE h h.list.length = bodyH h := by unfold bodyE bodyH; rw [List.take_length]
theorem showH_in {h : HintV} (q : hintB h = true) : showH h = sumS (bodyH h) ++ bodyH h := if_pos q
theorem showH_out {h : HintV} (q : hintB h = false) : showH h = ⟨#[]⟩ := if_neg (by rw [q]; simp)

/-! ### Sizes -/
theorem hint_bd {h : HintV} (q : hintB h = true) : (0 ≤ h.size ∧ h.size ≤ 100000) ∧ (0 ≤ h.mark ∧ h.mark ≤ 1000000) ∧ dirOk h.list = true ∧ oneSeg h.list = true := by
  unfold hintB listOk at q
  rw [Bool.and_eq_true, Bool.and_eq_true, Bool.and_eq_true, decide_eq_true_iff, decide_eq_true_iff] at q
  exact ⟨q.1, q.2.1, q.2.2.1, q.2.2.2⟩
theorem ent_bd {e : EntV} (q : entOk e = true) : e.key.size ≤ 8 ∧ (1 ≤ e.seg ∧ e.seg ≤ 100000) ∧ 0 ≤ e.pos ∧ (1 ≤ e.len ∧ e.len ≤ 210) ∧ (1 ≤ e.bat ∧ e.bat ≤ 1000000) := by
  unfold entOk at q
  rw [Bool.and_eq_true, Bool.and_eq_true, Bool.and_eq_true, Bool.and_eq_true, decide_eq_true_iff, decide_eq_true_iff, decide_eq_true_iff, decide_eq_true_iff] at q
  obtain ⟨a, b, c, d, e⟩ := q
  refine ⟨?_, b, c, d, e⟩
  unfold keyB at a
  simp at a
  omega
theorem seg_bd {l : List EntV} (q : oneSeg l = true) : ∀ e ∈ l, e.pos ≤ 100000 := fun e he => by
  have h := List.all_eq_true.1 q e he
  unfold segAt at h
  rw [Bool.and_eq_true] at h
  exact of_decide_eq_true h.2
/-- What can be written so that it is read back. -/
structure EntIn (e : EntV) : Prop where
  key : e.key.size ≤ 8
  seg : 0 ≤ e.seg ∧ e.seg ≤ 562949953421311
  pos : 0 ≤ e.pos ∧ e.pos ≤ 562949953421311
  len : 0 ≤ e.len ∧ e.len ≤ 562949953421311
  bat : 0 ≤ e.bat ∧ e.bat ≤ 562949953421311
theorem entIn_of {h : HintV} (q : hintB h = true) : ∀ e ∈ h.list, EntIn e := fun e he => by
  obtain ⟨-, -, h3, h4⟩ := hint_bd q
  have h1 := ent_bd (entOk_of h3 e he)
  have h2 := seg_bd h4 e he
  exact ⟨h1.1, by omega, by omega, by omega, by omega⟩
theorem entT_size (e : EntV) : (entT e).size ≤ e.key.size + 35 := by
  unfold entT
  have h0 := textS_size' e.key
  have h1 := varS_size e.seg
  have h2 := varS_size e.pos
  have h3 := varS_size e.len
  have h4 := varS_size e.bat
  simp only [ByteArray.size_append]
  omega
theorem headH_size (h : HintV) : (headH h).size ≤ 21 := by
  unfold headH
  have h1 := varS_size h.size
  have h2 := varS_size h.mark
  have h3 := varS_size (h.list.length : Int)
  simp only [ByteArray.size_append]
  omega
theorem catE_size {l : List EntV} (h : ∀ e ∈ l, EntIn e) : (catE l).size ≤ 43 * l.length := by
  induction l with
  | nil => exact Nat.zero_le _
  | cons e r ih =>
    have h1 := (h e List.mem_cons_self).key
    have h2 := entT_size e
    have h3 := ih (fun y hy => h y (List.mem_cons_of_mem _ hy))
    rw [catE, ByteArray.size_append, List.length_cons]
    omega
theorem bodyE_size {h : HintV} (q : hintB h = true) (k : Nat) : (bodyE h k).size ≤ 881 := by
  have h1 := headH_size h
  have h2 := catE_size (l := h.list.take k) (fun e he => entIn_of q e (List.mem_of_mem_take he))
  have h3 := len_of (hint_bd q).2.2.1
  rw [List.length_take] at h2
  unfold bodyE
  rw [ByteArray.size_append]
  omega
theorem bodyH_size {h : HintV} (q : hintB h = true) : (bodyH h).size ≤ 881 := by rw [← bodyE_all]; exact bodyE_size q _
theorem showH_size (h : HintV) : (showH h).size ≤ 885 := by
  unfold showH
  split
  · rename_i q
    have := bodyH_size q
    rw [ByteArray.size_append, sumS_size]
    omega
  · exact Nat.zero_le _
theorem showH_pos {h : HintV} (q : hintB h = true) : 4 ≤ (showH h).size := by
  rw [showH_in q, ByteArray.size_append, sumS_size]
  omega

/-! ### Reading -/
def numF (t : ByteArray) : Bool := decide ((rv t).2 = 0)
def entV (t : ByteArray) : EntV := ⟨txtV t, ((rv (txtR t)).1 : Nat), ((rv (numT (txtR t))).1 : Nat), ((rv (numT (numT (txtR t)))).1 : Nat), ((rv (numT (numT (numT (txtR t))))).1 : Nat)⟩
def entR (t : ByteArray) : ByteArray := numT (numT (numT (numT (txtR t))))
def entF (f : Bool) (t : ByteArray) : Bool := ((((f || txtF t) || numF (txtR t)) || numF (numT (txtR t))) || numF (numT (numT (txtR t)))) || numF (numT (numT (numT (txtR t))))
def entsF : Nat → ByteArray → List EntV
  | 0, _ => []
  | m + 1, t => entV t :: entsF m (entR t)
def restE : Nat → ByteArray → ByteArray
  | 0, t => t
  | m + 1, t => restE m (entR t)
def failE : Nat → Bool → ByteArray → Bool
  | 0, f, _ => f
  | m + 1, f, t => failE m (entF f t) (entR t)
theorem entF_true (t : ByteArray) : entF true t = true := by unfold entF; simp
theorem failE_true (m : Nat) : ∀ t, failE m true t = true := by
  induction m with
  | zero => intro t; rfl
  | succ m ih => intro t; rw [failE, entF_true, ih]
theorem entsF_length (m : Nat) : ∀ t, (entsF m t).length = m := by
  induction m with
  | zero => intro t; rfl
  | succ m ih => intro t; rw [entsF, List.length_cons, ih]
theorem entsF_snoc (m : Nat) : ∀ t, entsF (m + 1) t = entsF m t ++ [entV (restE m t)] := by
  induction m with
  | zero => intro t; rfl
  | succ m ih => intro t; rw [entsF, ih]; rfl
theorem restE_snoc (m : Nat) : ∀ t, restE (m + 1) t = entR (restE m t) := by
  induction m with
  | zero => intro t; rfl
  | succ m ih => intro t; rw [restE, ih]; rfl
theorem failE_snoc (m : Nat) : ∀ f t, failE (m + 1) f t = entF (failE m f t) (restE m t) := by
  induction m with
  | zero => intro f t; rfl
  | succ m ih => intro f t; rw [failE, ih]; rfl
theorem entR_size (t : ByteArray) : (entR t).size ≤ t.size := by
  unfold entR
  have h0 := txtR_size t
  have h1 := numT_size (txtR t)
  have h2 := numT_size (numT (txtR t))
  have h3 := numT_size (numT (numT (txtR t)))
  have h4 := numT_size (numT (numT (numT (txtR t))))
  omega
theorem restE_size (m : Nat) : ∀ t, (restE m t).size ≤ t.size := by
  induction m with
  | zero => intro t; exact Nat.le_refl _
  | succ m ih =>
    intro t
    have := ih (entR t)
    have := entR_size t
    rw [restE]
    omega
theorem numF_var (n : Int) (h : 0 ≤ n ∧ n ≤ 562949953421311) (T : ByteArray) : numF (varS n ++ T) = false ∧ numT (varS n ++ T) = T ∧ ((rv (varS n ++ T)).1 : Int) = n := by
  obtain ⟨m, rfl⟩ := Int.eq_ofNat_of_zero_le h.1
  have hp := varS_pos m (by omega)
  unfold numF
  rw [numT_var m (by omega), rv_var m (by omega)]
  exact ⟨decide_eq_false (by simp only; omega), rfl, rfl⟩
theorem ent_forth {e : EntV} (h : EntIn e) (T : ByteArray) : entV (entT e ++ T) = e ∧ entR (entT e ++ T) = T ∧ entF false (entT e ++ T) = false := by
  have e0 : entT e ++ T = textS e.key ++ (varS e.seg ++ (varS e.pos ++ (varS e.len ++ (varS e.bat ++ T)))) := by unfold entT; simp only [ByteArray.append_assoc]
  obtain ⟨t1, t2, t3⟩ := txt_text e.key (varS e.seg ++ (varS e.pos ++ (varS e.len ++ (varS e.bat ++ T)))) (by have := h.key; omega)
  obtain ⟨a1, a2, a3⟩ := numF_var e.seg h.seg (varS e.pos ++ (varS e.len ++ (varS e.bat ++ T)))
  obtain ⟨b1, b2, b3⟩ := numF_var e.pos h.pos (varS e.len ++ (varS e.bat ++ T))
  obtain ⟨c1, c2, c3⟩ := numF_var e.len h.len (varS e.bat ++ T)
  obtain ⟨d1, d2, d3⟩ := numF_var e.bat h.bat T
  rw [e0]
  unfold entV entR entF
  rw [t1, t2, t3, a1, a2, a3, b1, b2, b3, c1, c2, c3, d1, d2, d3]
  exact ⟨rfl, rfl, rfl⟩
theorem numF_no {t : ByteArray} (h : numF t = false) : (rv t).2 ≠ 0 := of_decide_eq_false h
theorem ent_back {f : Bool} {t : ByteArray} (h : entF f t = false) : f = false ∧ entT (entV t) ++ entR t = t := by
  unfold entF at h
  simp only [Bool.or_eq_false_iff] at h
  obtain ⟨⟨⟨⟨⟨h0, h1⟩, h2⟩, h3⟩, h4⟩, h5⟩ := h
  refine ⟨h0, ?_⟩
  unfold entT entV entR
  simp only [ByteArray.append_assoc]
  rw [numT_whole _ (numF_no h5), numT_whole _ (numF_no h4), numT_whole _ (numF_no h3), numT_whole _ (numF_no h2), txt_back t h1]
theorem takeE_forth (l : List EntV) (T : ByteArray) (h : ∀ e ∈ l, EntIn e) : entsF l.length (catE l ++ T) = l ∧ restE l.length (catE l ++ T) = T ∧ failE l.length false (catE l ++ T) = false := by
  induction l with
  | nil => exact ⟨rfl, ByteArray.empty_append, rfl⟩
  | cons e r ih =>
    obtain ⟨h1, h2, h3⟩ := ent_forth (h e List.mem_cons_self) (catE r ++ T)
    obtain ⟨i1, i2, i3⟩ := ih (fun y hy => h y (List.mem_cons_of_mem _ hy))
    rw [List.length_cons, catE, ByteArray.append_assoc, entsF, restE, failE, h1, h2, h3, i1, i2, i3]
    exact ⟨rfl, rfl, rfl⟩
theorem failE_back (m : Nat) : ∀ f t, failE m f t = false → f = false ∧ catE (entsF m t) ++ restE m t = t := by
  induction m with
  | zero => intro f t h; exact ⟨h, ByteArray.empty_append⟩
  | succ m ih =>
    intro f t h
    obtain ⟨h1, h2⟩ := ih _ _ h
    obtain ⟨h3, h4⟩ := ent_back h1
    refine ⟨h3, ?_⟩
    rw [entsF, catE, restE, ByteArray.append_assoc, h2, h4]
/-- Behind the sum: how many entries, and what follows the three numbers. -/
def cntH (t : ByteArray) : Nat := (rv (numT (numT t))).1
def tailH (t : ByteArray) : ByteArray := numT (numT (numT t))
def failH (f : Bool) (t : ByteArray) : Bool := ((f || numF t) || numF (numT t)) || numF (numT (numT t))
def hintOf (t : ByteArray) : HintV := ⟨((rv t).1 : Nat), ((rv (numT t)).1 : Nat), entsF (cntH t) (tailH t)⟩
theorem tailH_size (t : ByteArray) : (tailH t).size ≤ t.size := by
  unfold tailH
  have h1 := numT_size t
  have h2 := numT_size (numT t)
  have h3 := numT_size (numT (numT t))
  omega
/-- The whole text is there, and no more. -/
def CleanH (s : ByteArray) : Prop := sumF s = false ∧ failH false (sumR s) = false ∧ cntH (sumR s) ≤ 20 ∧ failE (cntH (sumR s)) false (tailH (sumR s)) = false ∧ (restE (cntH (sumR s)) (tailH (sumR s))).size = 0
theorem bodyH_forth {h : HintV} (q : hintB h = true) : failH false (bodyH h) = false ∧ cntH (bodyH h) = h.list.length ∧ tailH (bodyH h) = catE h.list ∧ ((rv (bodyH h)).1 : Int) = h.size ∧ ((rv (numT (bodyH h))).1 : Int) = h.mark := by
  obtain ⟨h1, h2, h3, h4⟩ := hint_bd q
  have hl := len_of h3
  have e0 : bodyH h = varS h.size ++ (varS h.mark ++ (varS (h.list.length : Int) ++ catE h.list)) := by unfold bodyH headH; simp only [ByteArray.append_assoc]
  obtain ⟨a1, a2, a3⟩ := numF_var h.size (by omega) (varS h.mark ++ (varS (h.list.length : Int) ++ catE h.list))
  obtain ⟨b1, b2, b3⟩ := numF_var h.mark (by omega) (varS (h.list.length : Int) ++ catE h.list)
  obtain ⟨c1, c2, c3⟩ := numF_var (h.list.length : Int) (by omega) (catE h.list)
  unfold failH cntH tailH
  rw [e0, a1, a2, a3, b1, b2, b3, c1, c2]
  refine ⟨rfl, ?_, rfl, rfl, rfl⟩
  exact Int.ofNat.inj c3
theorem catE_empty (l : List EntV) : catE l ++ (⟨#[]⟩ : ByteArray) = catE l := ByteArray.append_empty
theorem shown_read {h : HintV} (q : hintB h = true) : sumF (showH h) = false ∧ sumR (showH h) = bodyH h ∧ sumV (showH h) = crcN (bodyH h) := by
  rw [showH_in q]
  unfold sumS
  obtain ⟨h1, h2, h3⟩ := sum_fix (crcN (bodyH h)) (crcN_le _) (bodyH h)
  exact ⟨h3, h2, h1⟩
theorem shown_clean {h : HintV} (q : hintB h = true) : CleanH (showH h) ∧ hintOf (sumR (showH h)) = h := by
  obtain ⟨h1, h2, h3⟩ := shown_read q
  obtain ⟨b1, b2, b3, b4, b5⟩ := bodyH_forth q
  obtain ⟨k1, k2, k3⟩ := takeE_forth h.list ⟨#[]⟩ (entIn_of q)
  have hl := len_of (hint_bd q).2.2.1
  rw [catE_empty] at k1 k2 k3
  unfold CleanH hintOf
  rw [h1, h2, b1, b2, b3, b4, b5, k1, k2, k3]
  exact ⟨⟨rfl, rfl, hl, rfl, rfl⟩, rfl⟩
theorem clean_body {s : ByteArray} (hc : CleanH s) : bodyH (hintOf (sumR s)) = sumR s := by
  obtain ⟨-, h2, -, h4, h5⟩ := hc
  generalize sumR s = t at *
  unfold failH at h2
  simp only [Bool.or_eq_false_iff] at h2
  obtain ⟨⟨⟨-, f1⟩, f2⟩, f3⟩ := h2
  obtain ⟨-, k2⟩ := failE_back _ _ _ h4
  rw [empty_of h5, catE_empty] at k2
  unfold bodyH headH hintOf
  simp only
  rw [k2, entsF_length]
  simp only [ByteArray.append_assoc]
  unfold cntH tailH
  rw [numT_whole _ (numF_no f3), numT_whole _ (numF_no f2), numT_whole _ (numF_no f1)]
/-- ReadHint in words. -/
def RH (s : ByteArray) (h : HintV) (ok : Bool) : Prop := (ok = true ∧ hintB h = true ∧ showH h = s) ∨ (ok = false ∧ h = zeroH ∧ ∀ u, hintB u = true → showH u ≠ s)
theorem showH_inj {u v : HintV} (h : hintB u = true) (k : hintB v = true) (e : showH u = showH v) : u = v := by
  rw [← (shown_clean h).2, ← (shown_clean k).2, e]
theorem RH_one {s : ByteArray} {u v : HintV} {a b : Bool} (h : RH s u a) (k : RH s v b) : u = v ∧ a = b := by
  rcases h with ⟨rfl, h1, h2⟩ | ⟨rfl, rfl, h2⟩
  · rcases k with ⟨rfl, k1, k2⟩ | ⟨rfl, _, k2⟩
    · exact ⟨showH_inj h1 k1 (h2.trans k2.symm), rfl⟩
    · exact absurd h2 (k2 u h1)
  · rcases k with ⟨rfl, k1, k2⟩ | ⟨rfl, rfl, _⟩
    · exact absurd k2 (h2 v k1)
    · exact ⟨rfl, rfl⟩
/-- The same as a function. -/
def rh (s : ByteArray) : HintV × Bool := if hintB (hintOf (sumR s)) = true ∧ showH (hintOf (sumR s)) = s then (hintOf (sumR s), true) else (zeroH, false)
theorem rh_RH (s : ByteArray) : RH s (rh s).1 (rh s).2 := by
  unfold rh
  split
  · rename_i h
    exact .inl ⟨rfl, h.1, h.2⟩
  · rename_i h
    refine .inr ⟨rfl, rfl, fun u hu e => h ?_⟩
    subst e
    rw [(shown_clean hu).2]
    exact ⟨hu, rfl⟩
theorem rh_of {s : ByteArray} {v : HintV} {ok : Bool} (h : RH s v ok) : rh s = (v, ok) := by
  obtain ⟨h1, h2⟩ := RH_one (rh_RH s) h
  rw [← h1, ← h2]
theorem rh_show {v : HintV} (h : hintB v = true) : rh (showH v) = (v, true) := rh_of (Or.inl ⟨rfl, h, rfl⟩)
theorem rh_unclean {s : ByteArray} (h : ¬ CleanH s) : rh s = (zeroH, false) := rh_of (Or.inr ⟨rfl, rfl, fun u hu e => h (by rw [← e]; exact (shown_clean hu).1)⟩)
theorem rh_wrong {s : ByteArray} (h : hintB (hintOf (sumR s)) = false) : rh s = (zeroH, false) := rh_of (Or.inr ⟨rfl, rfl, fun u hu e => by
  subst e
  rw [(shown_clean hu).2, hu] at h
  cases h⟩)
theorem rh_sum {s : ByteArray} (h : crcN (sumR s) ≠ sumV s) : rh s = (zeroH, false) := rh_of (Or.inr ⟨rfl, rfl, fun u hu e => by
  subst e
  obtain ⟨h1, h2, h3⟩ := shown_read hu
  rw [h2, h3] at h
  exact h rfl⟩)
theorem rh_yes {s : ByteArray} (hc : CleanH s) (hb : hintB (hintOf (sumR s)) = true) (he : crcN (sumR s) = sumV s) : rh s = (hintOf (sumR s), true) := by
  refine rh_of (.inl ⟨rfl, hb, ?_⟩)
  rw [showH_in hb, clean_body hc]
  unfold sumS
  rw [he]
  exact sum_back s hc.1
theorem rh_eq {s : ByteArray} (hs : s.size ≠ 0) : rh s = if showH (hintOf (sumR s)) = s then (hintOf (sumR s), true) else (zeroH, false) := by
  unfold rh
  by_cases h : showH (hintOf (sumR s)) = s
  · have hb : hintB (hintOf (sumR s)) = true := by
      cases q : hintB (hintOf (sumR s)) with
      | true => rfl
      | false => rw [showH_out q] at h; exact absurd (by rw [← h]; rfl) hs
    rw [if_pos h, if_pos ⟨hb, h⟩]
  · rw [if_neg h, if_neg (fun q => h q.2)]
theorem rh_bd (s : ByteArray) : (rh s).1.list.length ≤ 20 := by
  rcases rh_RH s with ⟨_, h2, _⟩ | ⟨_, h2, _⟩
  · exact len_of (hint_bd h2).2.2.1
  · rw [h2]; exact Nat.zero_le _

end Go.Proofs.YtimpokbcfjgdaaaGreatDoor
