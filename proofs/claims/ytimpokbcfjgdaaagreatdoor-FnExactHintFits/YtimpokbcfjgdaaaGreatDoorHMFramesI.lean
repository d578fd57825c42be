/-
  impl.framesOf: a range over the frames of a log, for every loop body that keeps the log's box and what lay below.
-/
import Derived.RangeFuncNested
import Derived.RangeFuncBound
import Derived.RangeFuncCalls
import Derived.RangeFuncLeaves
import Derived.RangeFuncBox
import Derived.Shelf.Abstract
import Derived.Shelf.RegionOpen
import Derived.OwnWalkIn
import Derived.TacticsInMore
import Derived.LoopNIn
import Derived.LoopIn
import Derived.Test.YtimpokbcfjgdaaaGreatDoorHG29
namespace Go.Proofs.YtimpokbcfjgdaaaGreatDoor
open Go.RowKit Go.Shelf
open Plain

attribute [local go_sem] Oper.semAt_some

/-- In which block lies the row that the box b shows? -/
def ownB (b : Nat) (W : World) : Option Nat := (W.cell? ⟨b, 0, none⟩).bind Value.ownBlock
/-- What a round keeps: what lay below n; and all cells but those of two boxes and of the row that the first of them shows; that row stays where it is, or is new. -/
structure KB (n b c : Nat) (W W' : World) : Prop where
  bel : Below n W W'
  keep : ∀ d cs t fr, W.heap[d]? = some (.cells cs t fr) → d ≠ b → d ≠ c → ownB b W ≠ some d → W'.heap[d]? = W.heap[d]?
  own : ownB b W' = ownB b W ∨ ∃ g, ownB b W' = some g ∧ W.heap.size ≤ g ∧ g < W'.heap.size
theorem KB.trans {n b c : Nat} {A B C : World} (h : KB n b c A B) (k : KB n b c B C) : KB n b c A C where
  bel := h.bel.trans k.bel
  keep := fun d cs t fr hd h1 h2 h3 => by
    have e := h.keep d cs t fr hd h1 h2 h3
    have hlt : d < A.heap.size := (Array.getElem?_eq_some_iff.1 hd).1
    rw [k.keep d cs t fr (e.trans hd) h1 h2 ?_, e]
    rcases h.own with q | ⟨g, q, h4, _⟩
    · rw [q]; exact h3
    · rw [q]; intro q'; injection q' with q'; omega
  own := by
    rcases k.own with q | ⟨g, q, h4, h5⟩
    · rcases h.own with q' | ⟨g, q', h4, h5⟩
      · exact .inl (q.trans q')
      · exact .inr ⟨g, q.trans q', h4, Nat.lt_of_lt_of_le h5 k.bel.size⟩
    · exact .inr ⟨g, q, Nat.le_trans h.bel.size h4, h5⟩
theorem ownB_below {b : Nat} {W W' : World} (h : Below W.heap.size W W') (hb : b < W.heap.size) : ownB b W' = ownB b W := by
  unfold ownB
  rw [h.cell (p := ⟨b, 0, none⟩) hb]

set_option maxRecDepth 100000 in
set_option maxHeartbeats 4000000 in
theorem frames1_in (n : Nat) (hn : 1 ≤ n) (l Bn b c n₀ : Nat) (s : ByteArray) (hs : s.size ≤ 1048576) (A B : Addr) (J Jx : List Item → World → Prop)
    (hY : ∀ pre x W, J pre W → pre.length < s.size → YieldAt Fence.wide (n - 1) Tryz.prog l (encI A B x) W fun e W' =>
      (e = .returned (.bool true) ∧ J (pre ++ [x]) W' ∧ KB n₀ b c W W') ∨ (e = .returned (.bool false) ∧ Jx (pre ++ [x]) W'))
    (hJ : ∀ pre W W', J pre W → Below W.heap.size W W' → J pre W')
    (W : World) (w : World) (hn₀ : w.heap.size = n₀) (hWw : Below n₀ w W) (ht : STab w) (he : ErrIn w A B) (hBn : W.heap[Bn]? = some (.cells #[.string s] 9 (0, 0))) (hne1 : Bn ≠ b) (hne2 : Bn ≠ c) (hbW : b < W.heap.size) (hcW : c < W.heap.size) (hown : ownB b W = none) (h0 : J [] W) :
    CallsIn Fence.wide n Tryz.prog 109 #[.func (.yield l) #[] #[], .pointer (some ⟨Bn, 0, none⟩)] W fun e W' => (∃ v, e = .returned v) ∧
      ((∃ ys, ys = items s ∧ J ys W') ∨ (∃ pre, pre <+: items s ∧ Jx pre W')) := by
  have HY := hide hY
  have HJ := hide hJ
  have HT := hide ht
  have HE := hide he
  have HW := hide hWw
  have H0 := hide h0
  have HBN := hide hBn
  have HOW := hide hown
  clear hY hJ ht he hWw h0 hBn hown
  refine callsIn_of_wp Tryz.func109 rfl trivial ?_ rfl
  simp only [Tryz.ntmps109, List.size_toArray, List.length_cons, List.length_nil, Nat.reduceAdd, Nat.reduceSub, Array.replicate_succ, Array.replicate_zero, List.push_toArray, List.append_toArray, List.nil_append, List.cons_append]
  gi_wp2
  gi_loopw [3] (fun x wr => ∃ (p f : Nat) (pre : List Item), x = .int .i64 p ∧ p ≤ s.size ∧ s.size ≤ p + f ∧ Hid (pre ++ itemF s f p = items s) ∧ Hid (J pre wr) ∧ Hid (Below n₀ w wr) ∧ Hid (wr.heap[Bn]? = some (.cells #[.string s] 9 (0, 0))) ∧ Hid (W.heap.size ≤ wr.heap.size) ∧ Hid (∀ g, ownB b wr = some g → W.heap.size ≤ g ∧ g < wr.heap.size))
    (fun x _ => s.size - (intOf x).toNat)
  case atStart => exact ⟨0, s.size, [], rfl, by omega, by omega, hide rfl, H0, HW, HBN, hide (Nat.le_refl _), hide (fun g hg => by rw [HOW.out] at hg; cases hg)⟩
  case round =>
    clear H0 HW HOW
    obtain ⟨p, f, pre, rfl, hp, hf, HP, HJp, HB, HBn, HSZ, HO⟩ := hrel
    have cB : wr.cell? ⟨Bn, 0, none⟩ = some (.string s) := by simp [World.cell?, HBn.out]
    by_cases hlt : p < s.size
    · have hlt2 : (p : Int) < (s.size : Int) := by omega
      have hA := spotAt_any s hs p hp A B wr (HT.out.later (hn₀ ▸ HB.out)) (HE.out.later HB.out (by omega))
      obtain ⟨g, rfl⟩ : ∃ g, f = g + 1 := ⟨f - 1, by omega⟩
      have hitl := itemF_len s s.size 0
      have HLEN : Hid (∀ x t, itemF s (g + 1) p = x :: t → pre.length < s.size) := hide (fun x t e => by
        have h := congrArg List.length HP.out
        rw [e, List.length_append, List.length_cons] at h
        have h2 : (items s).length ≤ s.size := hitl
        omega)
      clear hitl
      have HBNlt : Hid (Bn < W.heap.size) := hide (Array.getElem?_eq_some_iff.1 HBN.out).1
      by_cases hbad : ∃ k a, (if k = true then A else B) = a ∧ spC s p = #[.int .i64 0, .int .i64 0, .int .i64 0, .int .i64 0, .string ⟨#[]⟩, .string ⟨#[]⟩, .int .i64 0, .int .i64 0] ∧ spE A B s p = .iface 167 (.agg #[.int .i64 p, .iface 231 (.pointer (some a))]) ∧ itemF s (g + 1) p = [.inr (p, k)]
      · obtain ⟨k, a, ha, hC, hE, hI⟩ := hbad
        rw [hC, hE] at hA
        have HA := hide hA
        have HI := hide hI
        have HLN := hide (HLEN.out _ _ hI)
        clear hA hC hE hI HLEN
        gi_wp2_with fail
        refine ⟨trivial, (callsIn_wide.2 HA.out).mono ?_⟩
        rintro e w1 ⟨rfl, hb1⟩
        have hb2 : Below wr.heap.size wr (w1.alloc (.cells #[.int .i64 0, .int .i64 0, .int .i64 0, .int .i64 0, .string ⟨#[]⟩, .string ⟨#[]⟩, .int .i64 0, .int .i64 0] 43)) := hb1.alloc hb1.size _
        obtain ⟨fn, tmps, assign, body, hy, hR⟩ := HY.out pre (.inr (p, k)) _ (HJ.out pre wr _ HJp.out hb2) HLN.out
        dsimp only [encI, badOf] at hy
        rw [ha] at hy
        have HR := hide hR
        clear hR hb2 HA hb1 cB
        gi_wp2
        refine HR.out.mono ?_
        rintro e W3 (⟨rfl, hJ3, hk3⟩ | ⟨rfl, hJx3⟩)
        · gi_wp2
          refine bodyPost_ret (results_none rfl _ _ _) rfl ?_
          exact ⟨⟨_, rfl⟩, .inl ⟨_, by rw [← HP.out, HI.out], hJ3⟩⟩
        · gi_wp2
          refine bodyPost_ret (results_none rfl _ _ _) rfl ?_
          exact ⟨⟨_, rfl⟩, .inr ⟨_, by rw [← HP.out, HI.out]; exact List.prefix_refl _, hJx3⟩⟩
      · have hm0 : ¬ (uf (s.extract p s.size)).2 = 0 := fun h => hbad ⟨true, A, rfl, by unfold spC; rw [if_pos (Or.inl h)], by unfold spE; rw [if_pos h], itemF_torn s g p hlt h⟩
        have hok : (rr (uf (s.extract p s.size)).1).2 = true := by
          cases h : (rr (uf (s.extract p s.size)).1).2 with
          | true => rfl
          | false => exact absurd ⟨false, B, rfl, by unfold spC; rw [if_pos (Or.inr h)], by unfold spE; rw [if_neg hm0, if_pos h], itemF_none s g p hlt hm0 h⟩ hbad
        have hC : spC s p = #[.int .i64 (p : Nat), .int .i64 ((uf (s.extract p s.size)).2 : Nat), .int .i64 (rr (uf (s.extract p s.size)).1).1.kind, .int .i64 (rr (uf (s.extract p s.size)).1).1.batch, .string (rr (uf (s.extract p s.size)).1).1.key, .string (rr (uf (s.extract p s.size)).1).1.val, .int .i64 (rr (uf (s.extract p s.size)).1).1.cnt, .int .i64 (rr (uf (s.extract p s.size)).1).1.sum] := by unfold spC; rw [if_neg (by simp [hm0, hok])]
        have hE : spE A B s p = .nilIface := by unfold spE; rw [if_neg hm0, if_neg (by simp [hok])]
        have hI := itemF_go s g p hlt hm0 hok
        have hub := uf_bd (s.extract p s.size)
        rw [ba_len _ _ _ (by omega) (Nat.le_refl _)] at hub
        rw [hC, hE] at hA
        clear hbad hC hE hok
        generalize (rr (uf (s.extract p s.size)).1).1 = r at *
        generalize (uf (s.extract p s.size)).2 = m at *
        have HA := hide hA
        have HI := hide hI
        have HLN := hide (HLEN.out _ _ hI)
        clear hA hI HLEN
        gi_wp2_with fail
        refine ⟨trivial, (callsIn_wide.2 HA.out).mono ?_⟩
        rintro e w1 ⟨rfl, hb1⟩
        obtain ⟨D, hD⟩ : ∃ D, w1.heap.size = D := ⟨_, rfl⟩
        have hb2 : Below wr.heap.size wr (w1.alloc (.cells #[.int .i64 (p : Nat), .int .i64 (m : Nat), .int .i64 r.kind, .int .i64 r.batch, .string r.key, .string r.val, .int .i64 r.cnt, .int .i64 r.sum] 43)) := hb1.alloc hb1.size _
        have HB2 := hide hb2
        have hDr : wr.heap.size ≤ D := by rw [← hD]; exact hb1.size
        have HDB : Hid ((w1.alloc (.cells #[.int .i64 (p : Nat), .int .i64 (m : Nat), .int .i64 r.kind, .int .i64 r.batch, .string r.key, .string r.val, .int .i64 r.cnt, .int .i64 r.sum] 43)).heap[D]? = some (.cells #[.int .i64 (p : Nat), .int .i64 (m : Nat), .int .i64 r.kind, .int .i64 r.batch, .string r.key, .string r.val, .int .i64 r.cnt, .int .i64 r.sum] 43 (0, 0))) := hide (by rw [← hD]; exact heap_alloc_new w1 _)
        obtain ⟨fn, tmps, assign, body, hy, hR⟩ := HY.out pre (.inl ⟨p, m, r⟩) _ (HJ.out pre wr _ HJp.out hb2) HLN.out
        dsimp only [encI] at hy
        have HR := hide hR
        clear hR hb2 HA hb1 cB
        gi_wp2
        refine HR.out.mono ?_
        rintro e W3 (⟨rfl, hJ3, hk3⟩ | ⟨rfl, hJx3⟩)
        · have hso := HSZ.out
          have hOB := ownB_below HB2.out (Nat.lt_of_lt_of_le hbW hso)
          have hr3 : W3.heap[D]? = some (.cells #[.int .i64 (p : Nat), .int .i64 (m : Nat), .int .i64 r.kind, .int .i64 r.batch, .string r.key, .string r.val, .int .i64 r.cnt, .int .i64 r.sum] 43 (0, 0)) := (hk3.keep D _ _ _ HDB.out (by omega) (by omega) (by rw [hOB]; intro q; have := (HO.out D q).2; omega)).trans HDB.out
          have hBn2 : (w1.alloc (.cells #[.int .i64 (p : Nat), .int .i64 (m : Nat), .int .i64 r.kind, .int .i64 r.batch, .string r.key, .string r.val, .int .i64 r.cnt, .int .i64 r.sum] 43)).heap[Bn]? = some (.cells #[.string s] 9 (0, 0)) := (HB2.out.block Bn (by have := HBNlt.out; omega)).trans HBn.out
          have HBn3 : Hid (W3.heap[Bn]? = some (.cells #[.string s] 9 (0, 0))) := hide ((hk3.keep Bn _ _ _ hBn2 hne1 hne2 (by rw [hOB]; intro q; have := (HO.out Bn q).1; have := HBNlt.out; omega)).trans hBn2)
          have HSZ3 : Hid (W.heap.size ≤ W3.heap.size) := hide (Nat.le_trans hso (Nat.le_trans HB2.out.size hk3.bel.size))
          have HO3 : Hid (∀ g, ownB b W3 = some g → W.heap.size ≤ g ∧ g < W3.heap.size) := hide (fun g' hg' => by
            rcases hk3.own with q | ⟨g2, q, h4, h5⟩
            · rw [q, hOB] at hg'
              have h6 := HO.out g' hg'
              have h7 := HB2.out.size
              have h8 := hk3.bel.size
              omega
            · rw [q] at hg'
              injection hg' with hg'
              have h7 := HB2.out.size
              omega)
          have HB3 : Hid (Below n₀ w W3) := hide ((HB.out.trans (HB2.out.mono (by have := HB.out.size; omega))).trans hk3.bel)
          have HP3 : Hid ((pre ++ [Sum.inl ⟨p, m, r⟩]) ++ itemF s g (p + m) = items s) := hide (by rw [← HP.out, HI.out]; simp)
          have HJ3 := hide hJ3
          have d1 : W3.cell? ⟨D, 1, none⟩ = some (.int .i64 m) := by rw [cell_of_row W3 _ 1 _ _ _ hr3]; rfl
          clear hr3 hBn2 hJ3 hk3 HDB hOB hso HY HJ
          gi_wp2
          go_roundw
          case rel => exact ⟨p + m, g, _, by go_num, by omega, by omega, HP3, HJ3, HB3, HBn3, HSZ3, HO3⟩
          case measure => first | (simp [intOf]; omega) | (simp [intOf]; done)
        · gi_wp2
          refine bodyPost_ret (results_none rfl _ _ _) rfl ?_
          exact ⟨⟨_, rfl⟩, .inr ⟨_, ⟨itemF s g (p + m), by rw [← HP.out, HI.out]; simp⟩, hJx3⟩⟩
    · have hp2 : p = s.size := by omega
      have HE : Hid (pre = items s) := hide (by
        have h := HP.out
        rw [itemF_end s f p hlt, List.append_nil] at h
        exact h)
      have hge : ¬ (p : Int) < (s.size : Int) := by omega
      gi_wp2
      go_end0
      exact ⟨⟨_, rfl⟩, .inl (by rw [← HE.out]; exact HJp.out)⟩

set_option maxHeartbeats 1000000 in
/-- framesOf(s): the log is boxed; the function value captures the box. -/
theorem frames_in (n : Nat) (s : ByteArray) (w : World) :
    CallsIn Fence.wide n Tryz.prog 80 #[.string s] w fun e w' => e = .returned (.func (.func 109) #[] #[.pointer (some ⟨w.heap.size, 0, none⟩)]) ∧ w' = w.alloc (.cells #[.string s] 9) := by
  refine callsIn_of_wp Tryz.func80 rfl trivial ?_ rfl
  simp only [Tryz.ntmps80, List.size_toArray, List.length_cons, List.length_nil, Nat.reduceAdd, Nat.reduceSub, Array.replicate_succ, Array.replicate_zero, List.push_toArray, List.append_toArray, List.nil_append, List.cons_append]
  gi_wp2
  go_ret
  exact ⟨rfl, rfl⟩

/-- What framesOf hands back, as an iterator. -/
theorem frames_stops (n : Nat) (hn : 1 ≤ n) (s : ByteArray) (hs : s.size ≤ 1048576) (A B : Addr) (w w0 : World) (hw0 : Below w.heap.size w w0) (ht : STab w) (he : ErrIn w A B) (b c Bn : Nat) (hBn : w0.heap[Bn]? = some (.cells #[.string s] 9 (0, 0))) (hne1 : Bn ≠ b) (hne2 : Bn ≠ c) (hb : b < w0.heap.size) (hc : c < w0.heap.size) (hown : ownB b w0 = none) :
    SeqStopsK Fence.wide n Tryz.prog 109 #[.pointer (some ⟨Bn, 0, none⟩)] (encI A B) (KB w.heap.size b c) (fun ys => ys = items s) (fun pre => pre <+: items s) s.size w0 := fun l J Jx W hW hJ _ hY h0 =>
  frames1_in n hn l Bn b c w.heap.size s hs A B J Jx hY (fun pre V V' h hV => hJ pre V V' none h ⟨hV.os, hV.tape, hV.output, hV.size, fun k hk _ => hV.block k hk⟩ (fun r e => by cases e)) W w rfl (hw0.trans (hW.mono hw0.size)) ht he
    ((hW.block Bn (Array.getElem?_eq_some_iff.1 hBn).1).trans hBn) hne1 hne2 (Nat.lt_of_lt_of_le hb hW.size) (Nat.lt_of_lt_of_le hc hW.size) ((ownB_below hW hb).trans hown) h0

theorem KB_put {n b c : Nat} {w : World} (hn : n ≤ w.heap.size) (hb : b < w.heap.size) (W : World) (l : Nat) (o o' : Obj) (hl : w.heap.size ≤ l) (h : W.heap[l]? = some o) (h1 : o.isCells = false) (h2 : o.isWalk = false) : KB n b c W (W.putObj l o') where
  bel := belowK_b hn W l o o' hl h h1 h2
  keep := fun d cs t fr hd _ _ _ => World.putObj_heap_other (fun e => by subst e; rw [h] at hd; injection hd with hd; subst hd; cases h1)
  own := .inl (by
    unfold ownB World.cell?
    rw [World.putObj_heap_other (k := b) (fun e => by omega)])

end Go.Proofs.YtimpokbcfjgdaaaGreatDoor
