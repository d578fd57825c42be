/-
  impl.ScanRecs: the records of a log, by a range over its frames.
-/
import Derived.Test.YtimpokbcfjgdaaaGreatDoorHG31
import Derived.RegionIn
namespace Go.Proofs.YtimpokbcfjgdaaaGreatDoor
open Go.RowKit Go.Shelf
open Plain

attribute [local go_sem] Oper.semAt_some

def IS (w : World) (pre : List Item) (W : World) : Prop := ∃ ps : List SpotV, pre = ps.map Sum.inl ∧ StI w ps W
def IxS (w : World) (c : Code) (pre : List Item) (W : World) : Prop := c = .exit 0 ∧ ∃ (ps : List SpotV) (x : Nat × Bool), pre = ps.map Sum.inl ++ [Sum.inr x] ∧ StI w ps W
theorem keeps_below {B : Nat} {W W' : World} (h : Below W.heap.size W W') : KeepsFrom B W W' := ⟨h.size, fun k _ _ hk _ => (h.block k (Array.getElem?_eq_some_iff.1 hk).1).trans hk⟩

set_option maxRecDepth 100000 in
set_option maxHeartbeats 4000000 in
theorem implScan_any (s : ByteArray) (hs : s.size ≤ 1048576) (A B : Addr) (w : World) (ht : STab w) (he : ErrIn w A B) :
    Calls Tryz.prog 43 #[.string s] w fun e w' => (∃ v, e = .returned (.tuple #[v, .int .i64 ((scanS s).2 : Nat)]) ∧ spotSh.Own 43 w' w.heap.size v (scanS s).1) ∧ Below w.heap.size w w' := by
  refine (callsIn_wide (n := 5)).1 ?_
  refine callsIn_of_wp_marks Tryz.func43 rfl trivial ?_ rfl
  simp only [Tryz.ntmps43, List.size_toArray, List.length_cons, List.length_nil, Nat.reduceAdd, Nat.reduceSub, Array.replicate_succ, Array.replicate_zero, List.push_toArray, List.append_toArray, List.nil_append, List.cons_append]
  gi_wp2_with (refine ⟨trivial, ?_⟩; gi_at_call 80; refine (frames_in _ _ _).mono ?_; rintro e w' ⟨rfl, rfl⟩)
  have bV := ((Boxed.new w 37 (.slice none 0 0)).alloc (.cells #[.int .i64 0] 3)).alloc (.cells #[.string s] 9)
  have bE := (Boxed.new (w.alloc (.cells #[.slice none 0 0] 37)) 3 (.int .i64 0)).alloc (.cells #[.string s] 9)
  have bS := Boxed.new ((w.alloc (.cells #[.slice none 0 0] 37)).alloc (.cells #[.int .i64 0] 3)) 9 (.string s)
  simp only [World.size_alloc] at bE bS
  have hB0 : Below w.heap.size w (((w.alloc (.cells #[.slice none 0 0] 37)).alloc (.cells #[.int .i64 0] 3)).alloc (.cells #[.string s] 9)) := (((Below.refl _ w).alloc (Nat.le_refl _) _).alloc (by simp) _).alloc (by simp; omega) _
  have hsz : (((w.alloc (.cells #[.slice none 0 0] 37)).alloc (.cells #[.int .i64 0] 3)).alloc (.cells #[.string s] 9)).heap.size = w.heap.size + 3 := by simp
  obtain ⟨W0, hW0⟩ : ∃ W0, ((w.alloc (.cells #[.slice none 0 0] 37)).alloc (.cells #[.int .i64 0] 3)).alloc (.cells #[.string s] 9) = W0 := ⟨_, rfl⟩
  rw [hW0] at bV bE bS hB0 hsz ⊢
  clear hW0
  have hI0 : StI w [] W0 := ⟨⟨_, bV, World.ownsRow_nil _ _ _ _⟩, bE, hB0⟩
  have hseq := frames_stops (5 - 1) (by decide) s hs A B w W0 hB0 ht he w.heap.size (w.heap.size + 1) (w.heap.size + 1 + 1) bS (by omega) (by omega) (by omega) (by omega) (by rw [ownB_boxed bV]; rfl)
  rw [encI_eq] at hseq
  refine wpIn_rangeFunc_ownH rfl (by decide) (gf := 109) (lb := #[.pointer (some ⟨w.heap.size + 1 + 1, 0, none⟩)]) rfl trivial (enters_of Tryz.func109 (by kernel_rfl) rfl)
    hseq KB.trans (KB_put (by omega) (by omega)) (Below.refl _ _) (fun _ => rfl)
    (IS w) (IxS w)
    (fun pre X Y row hs hg hr => by obtain ⟨ps, h1, h2⟩ := hs; exact ⟨ps, h1, h2.grown hg (fun r e => ⟨by have := (hr r e).1; omega, (hr r e).2⟩)⟩)
    (fun c pre X Y row hs hg hr => by obtain ⟨h0, ps, x, h1, h2⟩ := hs; exact ⟨h0, ps, x, h1, h2.grown hg (fun r e => ⟨by have := (hr r e).1; omega, (hr r e).2⟩)⟩)
    ⟨[], rfl, hI0⟩
    (fun x a' W => ∃ Bx, w.heap.size + 1 < Bx ∧ W.heap[Bx]? = some (.cells (cell8 x) 43 (0, 0)) ∧ ownB w.heap.size W ≠ some Bx ∧ (∃ v, Boxed W w.heap.size 37 v) ∧ a' = { tmps := #[.string s, undef, .slice none 0 0, .int .i64 0, .pointer (some ⟨w.heap.size, 0, none⟩), .pointer (some ⟨w.heap.size + 1, 0, none⟩), .pointer (some ⟨Bx, 0, none⟩), errI A B x, .string s, .func (.func 109) #[] #[.pointer (some ⟨w.heap.size + 1 + 1, 0, none⟩)], .agg (cell8 x), errI A B x, undef, undef, undef, undef, undef, undef, undef, undef, undef, undef, undef, undef, undef, undef, undef, undef, undef, undef, undef], defers := [] })
    (fun x a' _ X Y row hs hg hr => by
      obtain ⟨Bx, h1, h2, h3, ⟨v, h4⟩, h5⟩ := hs
      have hne : ∀ {b : Nat} {cs t fr}, X.heap[b]? = some (.cells cs t fr) → some b ≠ row := fun {b cs t fr} hb e => by
        obtain ⟨_, o, ho, hc⟩ := hr b e.symm
        rw [hb] at ho; cases ho; cases hc
      exact ⟨Bx, h1, (hg.block Bx (Array.getElem?_eq_some_iff.1 h2).1 (hne h2)).trans h2, by rw [ownB_grown h4 hg (hne h4)]; exact h3, ⟨v, h4.kept hg (hne h4)⟩, h5⟩)
    ?assign ?body ?done ?stop
  case assign =>
    rintro l pre x W K ⟨ps, hpre, hst⟩ hK
    obtain ⟨v, hv, ho⟩ := hst.row
    have hfl := hst.fin.lt
    have hlt := hv.lt
    have HK := hide hK
    have HST := hide hst
    clear hK hst hseq hI0 bV bE bS
    have hnw : ownB w.heap.size W ≠ some W.heap.size := by rw [ownB_boxed hv]; intro e; have := (ho.lt _ e).2; omega
    have hal : ∀ o, Below W.heap.size W (W.alloc o) := fun o => al1 W o
    have HF : Hid (∀ a', a' = { tmps := #[.string s, undef, .slice none 0 0, .int .i64 0, .pointer (some ⟨w.heap.size, 0, none⟩), .pointer (some ⟨w.heap.size + 1, 0, none⟩), .pointer (some ⟨W.heap.size, 0, none⟩), errI A B x, .string s, .func (.func 109) #[] #[.pointer (some ⟨w.heap.size + 1 + 1, 0, none⟩)], .agg (cell8 x), errI A B x, undef, undef, undef, undef, undef, undef, undef, undef, undef, undef, undef, undef, undef, undef, undef, undef, undef, undef, undef], defers := [] } → K a' (W.alloc (.cells (cell8 x) 43))) := hide (fun a' ha' => HK.out a' _ ((KeepsOthers.alloc _ _).from _) (KB_below (by omega) (by omega) (hal _)) ⟨ps, hpre, HST.out.later (hal _)⟩ ⟨W.heap.size, hfl, heap_alloc_new W _, by rw [ownB_below (hal _) hlt]; exact hnw, ⟨v, hv.alloc _⟩, ha'⟩)
    clear HK HST hnw hal hv ho
    rcases x with p | ⟨q, k⟩
    · dsimp only [cell8, errI] at HF ⊢
      gi_wp2
      exact HF.out _ rfl
    · dsimp only [cell8, errI, badOf] at HF ⊢
      generalize (if k = true then A else B) = a at HF ⊢
      gi_wp2
      exact HF.out _ rfl
  case body =>
    rintro l pre x a' W hl - ⟨ps, hpre, hst⟩ ⟨Bx, hBx, hX, hnX, -, rfl⟩ hlt
    have HE := hide (he.later hst.bel (Nat.le_refl _))
    have HST := hide hst
    have hNW := hst.fin.lt
    have cT := HE.out.cTorn
    have HPRE := hide hpre
    have HX := hide hX
    have hBl : Bx < W.heap.size := (Array.getElem?_eq_some_iff.1 hX).1
    clear hseq hI0 bV bE bS hpre hX
    rcases x with p | ⟨q, k⟩
    · dsimp only [cell8, errI] at HX ⊢
      obtain ⟨i0, hi, hz0, hz1, hz2⟩ := info_parts Tryz.infoSpot
      have hpl : ps.length ≤ 1048576 := by have := congrArg List.length HPRE.out; rw [List.length_map] at this; omega
      gi_wp2_with fail
      refine ⟨trivial, (CallsIn.inRound l (callsIn_wide.2 (is_nil A W))).mono ?_⟩
      rintro e W1 ⟨rfl, hb1⟩
      have cN := (HE.out.later hb1 (Nat.le_refl _)).cNoRec
      have HB1 := hide hb1
      clear hb1 cT
      gi_wp2_with fail
      refine ⟨trivial, (CallsIn.inRound l (callsIn_wide.2 (is_nil B W1))).mono ?_⟩
      rintro e W2 ⟨rfl, hb2⟩
      have HB2 := hide (HB1.out.trans (hb2.mono HB1.out.size))
      have HST2 := hide (HST.out.later HB2.out)
      clear hb2 cN HB1
      obtain ⟨v, hv, ho⟩ := HST2.out.row
      have HV := hide hv
      have HO := hide ho
      have cV := hv.cell
      have hX2 := (HB2.out.block Bx hBl).trans HX.out
      have hN2 : v.ownBlock ≠ some Bx := by rw [← ownB_boxed hv, ownB_below HB2.out (by omega)]; exact hnX
      have HX2 := hide hX2
      have x0 : W2.cell? ⟨Bx, 0, none⟩ = _ := cell_of_row W2 _ 0 _ _ _ hX2
      have x1 : W2.cell? ⟨Bx, 1, none⟩ = _ := cell_of_row W2 _ 1 _ _ _ hX2
      have x2 : W2.cell? ⟨Bx, 2, none⟩ = _ := cell_of_row W2 _ 2 _ _ _ hX2
      have x3 : W2.cell? ⟨Bx, 3, none⟩ = _ := cell_of_row W2 _ 3 _ _ _ hX2
      have x4 : W2.cell? ⟨Bx, 4, none⟩ = _ := cell_of_row W2 _ 4 _ _ _ hX2
      have x5 : W2.cell? ⟨Bx, 5, none⟩ = _ := cell_of_row W2 _ 5 _ _ _ hX2
      have x6 : W2.cell? ⟨Bx, 6, none⟩ = _ := cell_of_row W2 _ 6 _ _ _ hX2
      have x7 : W2.cell? ⟨Bx, 7, none⟩ = _ := cell_of_row W2 _ 7 _ _ _ hX2
      have hBl2 : Bx < W2.heap.size := Nat.lt_of_lt_of_le hBl HB2.out.size
      have hNW2 : w.heap.size + 1 < W2.heap.size := Nat.lt_of_lt_of_le hNW HB2.out.size
      have HSRC := hide (Shape.Row.single spotSh 43 W2 p).src
      have H1C := hide (spotSh.flat_one [p])
      clear hX2 hv ho hst
      gi_wp2_with (gi_at_builtin; refine wpListIn_append_own_at _ rfl _ _ 37 rfl w.heap.size 43 i0 _ 8 80 Tryz.underlying37 hi hz0 hz1 hz2 rfl (by decide) v ps.length (spotSh.flat ps) rfl (HO.out.alloc _) ⟨W2.heap.size, 0, none⟩ 1 1 (spotSh.flat [p]) rfl rfl HSRC.out H1C.out (by unfold maxLen; omega) (by omega) (by simp; omega) ?_; intro v' w4 hown' hgrow _ hat; obtain ⟨g', cap', rfl⟩ := ownsRow_succ hown'; have HR := hide (round_app hNW HB2.out HST2.out HV.out HO.out hown' hgrow hat); have hX4 := (hgrow.block Bx (by simp; omega) (fun e => hN2 e.symm)).trans ((Below.heap_alloc W2 _ Bx hBl2).trans HX2.out); have hv4 := (HV.out.alloc (.cells #[.int .i64 (p.pos : Nat), .int .i64 (p.len : Nat), .int .i64 p.r.kind, .int .i64 p.r.batch, .string p.r.key, .string p.r.val, .int .i64 p.r.cnt, .int .i64 p.r.sum] 43)).kept hgrow (HV.out.not_row (by decide) HO.out); have hc4 := hv4.cell; have hf4 := hv4.frozen; have he4 := ((HST2.out.fin.alloc (.cells #[.int .i64 (p.pos : Nat), .int .i64 (p.len : Nat), .int .i64 p.r.kind, .int .i64 p.r.batch, .string p.r.key, .string p.r.val, .int .i64 p.r.cnt, .int .i64 p.r.sum] 43)).kept hgrow (HST2.out.fin.not_row (by decide) HO.out)); have hc5 := he4.cell; have hf5 := he4.frozen; have z0 : w4.cell? ⟨Bx, 0, none⟩ = _ := cell_of_row w4 _ 0 _ _ _ hX4; have z1 : w4.cell? ⟨Bx, 1, none⟩ = _ := cell_of_row w4 _ 1 _ _ _ hX4; clear hX4 hv4 he4 hown' hgrow hat)
      exact ⟨HR.out.1.from _, HR.out.2.1, ps ++ [p], by rw [HPRE.out]; simp, HR.out.2.2⟩
    · have HPX : Hid (pre ++ [Sum.inr (q, k)] = ps.map Sum.inl ++ [Sum.inr (q, k)]) := hide (by rw [HPRE.out])
      cases k with
      | true =>
        dsimp only [cell8, errI, badOf] at ⊢
        rw [if_pos rfl]
        gi_wp2_with fail
        refine ⟨trivial, (CallsIn.inRound l (callsIn_wide.2 (bad_same q A W))).mono ?_⟩
        rintro e W1 ⟨rfl, hb1⟩
        have HB1 := hide hb1
        clear hb1 cT hst
        gi_wp2
        refine ⟨trivial, ?_⟩
        gi_wp2
        exact ⟨keeps_below HB1.out, rfl, ps, _, HPX.out, HST.out.later HB1.out⟩
      | false =>
        dsimp only [cell8, errI, badOf] at ⊢
        rw [if_neg (by simp)]
        obtain ⟨ca, ta, hba⟩ := HE.out.bTorn
        obtain ⟨cb, tb, hbb⟩ := HE.out.bNoRec
        gi_wp2_with fail
        refine ⟨trivial, (CallsIn.inRound l (callsIn_wide.2 (bad_other q B A cb ca tb ta W (fun e => HE.out.ne e.symm) hbb hba))).mono ?_⟩
        rintro e W1 ⟨rfl, hb1⟩
        have HB1 := hide hb1
        have cN := (HE.out.later hb1 (Nat.le_refl _)).cNoRec
        clear hb1 cT hst hba hbb
        gi_wp2_with fail
        refine ⟨trivial, (CallsIn.inRound l (callsIn_wide.2 (bad_same q B W1))).mono ?_⟩
        rintro e W2 ⟨rfl, hb2⟩
        have HB2 := hide (HB1.out.trans (hb2.mono HB1.out.size))
        clear hb2 cN HB1
        gi_wp2
        exact ⟨keeps_below HB2.out, rfl, ps, _, HPX.out, HST.out.later HB2.out⟩
  case done =>
    rintro D ys W hD rfl ⟨ps, hps, hst⟩ hK
    obtain ⟨e1, e2⟩ := items_done s hs ps hps.symm
    obtain ⟨v, hv, ho⟩ := hst.row
    have cV := hv.cell
    have cE := hst.fin.cell
    have hK2 : W.drew.heap[D]? = some (.deferred (some [])) := hK
    have HO : Hid (W.drew.ownsRow w.heap.size 43 8 v ps.length (spotSh.flat ps)) := hide ho
    have HBB := hide (hst.bel.drew.trans (belowK_b (w := w) (Nat.le_refl _) W.drew D _ (.deferred none) (by omega) hK2 rfl rfl))
    rw [e2] at cE
    have HE1 := hide e1
    clear hseq hI0 bV bE bS ho hst e1 e2 hps hv
    gi_wp2
    gi_region
    gi_wp2
    refine ⟨by simp, .inl ⟨_, _, rfl, run_takeDeferred hK2, ?_⟩⟩
    refine ⟨.tuple #[v, .int .i64 ((scanS s).2 : Nat)], by simp [results, Tryz.results43, go_sem], ⟨v, rfl, ?_⟩, HBB.out⟩
    have h := ownsRow_putObj HO.out (.deferred none) hK2 rfl
    rw [HE1.out] at h
    exact h
  case stop =>
    rintro D c pre W hD hSp ⟨rfl, ps, x, hps, hst⟩ hK
    rw [hps] at hSp
    obtain ⟨e1, e2⟩ := items_stop s hs ps x hSp
    obtain ⟨v, hv, ho⟩ := hst.row
    have cV := hv.cell
    have cE := hst.fin.cell
    have hK2 : W.drew.heap[D]? = some (.deferred (some [])) := hK
    have HO : Hid (W.drew.ownsRow w.heap.size 43 8 v ps.length (spotSh.flat ps)) := hide ho
    have HBB := hide (hst.bel.drew.trans (belowK_b (w := w) (Nat.le_refl _) W.drew D _ (.deferred none) (by omega) hK2 rfl rfl))
    rw [e2] at cE
    have HE1 := hide e1
    clear hseq hI0 bV bE bS ho hst e1 e2 hps hv hSp
    gi_wp2
    gi_region
    gi_wp2
    refine ⟨by simp, .inl ⟨_, _, rfl, run_takeDeferred hK2, ?_⟩⟩
    refine ⟨.tuple #[v, .int .i64 ((scanS s).2 : Nat)], by simp [results, Tryz.results43, go_sem], ⟨v, rfl, ?_⟩, HBB.out⟩
    have h := ownsRow_putObj HO.out (.deferred none) hK2 rfl
    rw [HE1.out] at h
    exact h

end Go.Proofs.YtimpokbcfjgdaaaGreatDoor
