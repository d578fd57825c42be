/-
  spec.l3Without and spec.Remove: a file is gone.
-/
import Derived.Test.YthhjomaccbpnbabDoorCreateSpec
import Derived.Deep.RegionLaw
namespace Go.Proofs.YthhjomaccbpnbabDoor
open Go.RowKit
open Plain

theorem step_app_files {ops : Array Oper} {o : Oper} {act : Act} {K : Act → World → Prop} {Q : Exit → Act → World → Prop} {E : Prop} (hgd : o.guard = none) (s x : Operand)
    (ho : o.op = .call { callee := .builtin .append, args := #[s, x], argTypes := #[26, 26] }) {w : World} {base : Nat} {v : Value} {fs gs : List FileV} (hown : FOwn w base v fs) (hb : base ≤ w.heap.size)
    {ad : Addr} {m c : Nat} (hr : FRow w 0 (some ad) m gs) (hn : fs.length + m ≤ 1099511627776)
    (hs : act.eval s = v) (hx : act.eval x = .slice (some ad) m c)
    (h : ∀ a' n' cap' w', n' = fs.length + m → FOwn w' base (.slice a' n' cap') (fs ++ gs) → w.grownBy w' v.ownBlock → K (act.put o.dst (.slice a' n' cap')) w') :
    if Region.wanted o (yielded ops act.tmps) = true then Oper.wp Tryd.prog o act w K Q else E := by
  rw [if_pos (by simp [Region.wanted, hgd])]
  obtain ⟨i0, hi, hz0, hz1, hz2⟩ := info_parts Tryd.infoF
  have hm := hr.len
  refine wp_append_own (P := Tryd.prog) w s x 26 ho base 45 i0 _ 3 40 Tryd.underlying26 hi hz0 hz1 hz2 rfl (by decide) v fs.length (fcells fs) hs hown
    ad m c (fcells gs) hx (by rw [fcells_length, hm]) hr.src (fcells_one gs) (by unfold maxLen; omega) (by omega) hb ?_
  intro v' w' ho' hg _
  have hval : ∃ a' cap', v' = .slice a' (fs.length + m) cap' := by
    rcases ho'.2 with ⟨e, h0⟩ | ⟨g, cap, cur, e, _⟩
    · exact ⟨none, 0, by rw [e, h0]⟩
    · exact ⟨_, _, e⟩
  obtain ⟨a', cap', rfl⟩ := hval
  refine h a' _ cap' w' rfl ?_ hg
  unfold FOwn
  rw [List.length_append, hm, fcells_append]
  exact ho'
theorem FRow.take {w : World} {base : Nat} {ad : Addr} {n : Nat} {fs : List FileV} (h : FRow w base (some ad) n fs) (k : Nat) (hk : k ≤ n) : FRow w base (some ad) k (fs.take k) where
  len := by rw [List.length_take, h.len]; omega
  cells := fun i hi => by
    rw [List.length_take] at hi
    obtain ⟨b, off, h1, h2, h3, c0, c1, c2⟩ := h.cells i (by omega)
    refine ⟨b, off, h1, h2, h3, ?_, ?_, ?_⟩ <;> simp [c0, c1, c2]
theorem FRow.drop {w : World} {base b off : Nat} {n : Nat} {fs : List FileV} (h : FRow w base (some ⟨b, off, none⟩) n fs) (k m : Nat) (hk : k + m = n) : FRow w base (some ⟨b, off + k * 3, none⟩) m (fs.drop k) where
  len := by rw [List.length_drop, h.len]; omega
  cells := fun i hi => by
    rw [List.length_drop] at hi
    obtain ⟨b', off', h1, h2, h3, c0, c1, c2⟩ := h.cells (k + i) (by omega)
    simp only [Option.some.injEq, Addr.mk.injEq] at h1
    obtain ⟨rfl, rfl, -⟩ := h1
    have e : off + (k + i) * 3 = off + k * 3 + i * 3 := by omega
    rw [e] at c0 c1 c2
    refine ⟨b, off + k * 3, rfl, h2, h3, ?_, ?_, ?_⟩ <;> simp [c0, c1, c2]

set_option maxRecDepth 100000 in
set_option maxHeartbeats 2000000 in
theorem specWithout_any (w : World) (g n cap : Nat) (fs : List FileV) (hr : FRow w 0 (some ⟨g, 0, none⟩) n fs) (hn : n ≤ 1048576) (hc : n ≤ cap) (k : Nat) (hk : k < n) :
    Calls Tryd.prog 43 #[.slice (some ⟨g, 0, none⟩) n cap, .int .i64 k] w fun e w' => (∃ a' cap', e = .returned (.slice a' (n - 1) cap') ∧ FOwn w' w.heap.size (.slice a' (n - 1) cap') (fs.eraseIdx k)) ∧ Below w.heap.size w w' := by
  have hfn := hr.len
  have HBA : Hid (Below w.heap.size w (w.alloc (.cells #[] 45)).drew) := hide (((Below.refl _ w).alloc (Nat.le_refl _) _).drew)
  have HO : Hid (FOwn (w.alloc (.cells #[] 45)).drew w.heap.size (.slice (some ⟨w.heap.size, 0, none⟩) 0 0) []) := hide (by
    refine ⟨rfl, .inr ⟨w.heap.size, 0, #[], rfl, Nat.le_refl _, heap_alloc_new w _, Nat.le_refl _, by unfold maxLen; omega, rfl, rfl⟩⟩)
  have HRT := hide ((hr.take k (by omega)).later HBA.out (Nat.le_refl _))
  have HB1 : Hid (∀ w2, (w.alloc (.cells #[] 45)).drew.grownBy w2 (Value.slice (some ⟨w.heap.size, 0, none⟩) 0 0).ownBlock → Below w.heap.size w w2) := hide (fun w2 hg => HBA.out.grown hg HBA.out.size (fun j hj => by simp [Value.ownBlock] at hj; omega))
  have hk0 : k ≤ cap := by omega
  have hk6 : (k : Int) ≤ (k : Int) + 1 := by omega
  have hk1 : (k : Int) ≤ (n : Int) := by omega
  have hk2 : (0 : Int) ≤ (k : Int) := by omega
  have hk3 : (k : Int) + 1 ≤ (n : Int) := by omega
  have hk4 : (0 : Int) ≤ (k : Int) + 1 := by omega
  have hw4 : IntKind.i64.wrap ((k : Int) + 1) = (k : Int) + 1 := by rw [IntKind.wrap_i64]; omega
  by_cases hcap : cap = k + 1
  · have HRD : Hid (∀ w2, Below w.heap.size w w2 → FRow w2 0 (some ⟨g, 0, none⟩) (n - (k + 1)) (fs.drop (k + 1))) := hide (fun w2 _ =>
      ⟨by rw [List.length_drop]; omega, fun i hi => by rw [List.length_drop] at hi; omega⟩)
    clear hr
    go_enter Tryd.func43, Tryd.ntmps43
    go_wp2
    go_region_law (first
      | (refine step_app_files rfl (.tmp 5) (.tmp 8) rfl HO.out (by simp) HRT.out (by simp; omega) rfl rfl ?_; intro a2 n2 cap2 w2 hn2 hown2 hg2; rw [List.length_nil, Nat.zero_add] at hn2; subst hn2)
      | (refine step_app_files rfl (.tmp 9) (.tmp 13) rfl hown2 (HB1.out w2 hg2).size (HRD.out w2 (HB1.out w2 hg2)) (by simp [List.length_take]; omega) rfl rfl ?_; intro a3 n3 cap3 w3 hn3 hown3 hg3; have HN := hide hn3; clear hn3))
    all_goals
      have HB3 : Hid (Below w.heap.size w w3) := hide ((HB1.out w2 hg2).grown hg3 (HB1.out w2 hg2).size (fun j hj => (hown2.blk j hj).1))
      have HO3 : Hid (FOwn w3 w.heap.size (.slice a3 (n - 1) cap3) (fs.eraseIdx n2)) := hide (by
        have e : n3 = n - 1 := by rw [HN.out]; simp [List.length_take]; omega
        rw [← e, List.eraseIdx_eq_take_drop_succ]
        exact hown3)
      have HN3 : Hid (n3 = n - 1) := hide (by rw [HN.out]; simp [List.length_take]; omega)
      clear hown2 hg2 hown3 hg3 HN
      go_wp2
      go_ret
      exact ⟨⟨a3, cap3, by rw [← HN3.out]; rfl, HO3.out⟩, HB3.out⟩
  · have HRD : Hid (∀ w2, Below w.heap.size w w2 → FRow w2 0 (some ⟨g, (k + 1) * 3, none⟩) (n - (k + 1)) (fs.drop (k + 1))) := hide (fun w2 h => by
      have h2 := (hr.drop (k + 1) (n - (k + 1)) (by omega)).later h (Nat.le_refl _)
      rw [Nat.zero_add] at h2
      exact h2)
    clear hr
    go_enter Tryd.func43, Tryd.ntmps43
    go_wp2
    go_region_law (first
      | (refine step_app_files rfl (.tmp 5) (.tmp 8) rfl HO.out (by simp) HRT.out (by simp; omega) rfl rfl ?_; intro a2 n2 cap2 w2 hn2 hown2 hg2; rw [List.length_nil, Nat.zero_add] at hn2; subst hn2)
      | (refine step_app_files rfl (.tmp 9) (.tmp 13) rfl hown2 (HB1.out w2 hg2).size (HRD.out w2 (HB1.out w2 hg2)) (by simp [List.length_take]; omega) rfl rfl ?_; intro a3 n3 cap3 w3 hn3 hown3 hg3; have HN := hide hn3; clear hn3))
    all_goals
      have HB3 : Hid (Below w.heap.size w w3) := hide ((HB1.out w2 hg2).grown hg3 (HB1.out w2 hg2).size (fun j hj => (hown2.blk j hj).1))
      have HO3 : Hid (FOwn w3 w.heap.size (.slice a3 (n - 1) cap3) (fs.eraseIdx n2)) := hide (by
        have e : n3 = n - 1 := by rw [HN.out]; simp [List.length_take]; omega
        rw [← e, List.eraseIdx_eq_take_drop_succ]
        exact hown3)
      have HN3 : Hid (n3 = n - 1) := hide (by rw [HN.out]; simp [List.length_take]; omega)
      clear hown2 hg2 hown3 hg3 HN
      go_wp2
      go_ret
      exact ⟨⟨a3, cap3, by rw [← HN3.out]; rfl, HO3.out⟩, HB3.out⟩

/-- What Remove answers: the files, and the code. -/
def remF (fs : List FileV) (c u : Int) (d : Bool) (nm : ByteArray) : List FileV × Int :=
  if begC fs c u d = 0 then (if findF fs nm < 0 then (fs, 3) else (fs.eraseIdx (findF fs nm).toNat, 0)) else (fs, begC fs c u d)
theorem FOwn.cap {w : World} {base g n cap : Nat} {fs : List FileV} (h : FOwn w base (.slice (some ⟨g, 0, none⟩) n cap) fs) : n ≤ cap := by
  have hn := h.len
  rcases h.2 with ⟨e, h0⟩ | ⟨g', c, cur, e, _, _, h1, _⟩
  · simp at e
  · simp only [Value.slice.injEq] at e
    omega

set_option maxRecDepth 100000 in
set_option maxHeartbeats 2000000 in
theorem specRemove_some (w : World) (ad : Addr) (n cap : Nat) (fs : List FileV) (hr : FRow w 0 (some ad) n fs) (hn : n ≤ 1048576) (hz : szFs fs ≤ 1048576) (c u : Int) (d : Bool) (hu : -9223372036854775808 ≤ u) (hu2 : u ≤ 9223372036854775807) (nm : ByteArray) :
    Calls Tryd.prog 22 #[.agg #[.slice (some ad) n cap, .int .i64 c, .int .i64 u, .bool d], .string nm] w fun e w' => (∃ a' cap', e = .returned (.tuple #[.agg #[.slice a' (remF fs c u d nm).1.length cap', .int .i64 c, .int .i64 (begU fs c u d), .bool (begD fs c u d)], .int .i64 (remF fs c u d nm).2]) ∧ FOwn w' w.heap.size (.slice a' (remF fs c u d nm).1.length cap') (remF fs c u d nm).1) ∧ Below w.heap.size w w' := by
  have hfn := hr.len
  obtain ⟨W, hW⟩ : ∃ W, W = (w.alloc (.cells #[.slice (some ad) n cap, .int .i64 c, .int .i64 u, .bool d] 28)).alloc (.cells #[.slice none 0 0, .int .i64 0, .int .i64 0, .bool false] 28) := ⟨_, rfl⟩
  have hA := alloc2 w (.cells #[.slice (some ad) n cap, .int .i64 c, .int .i64 u, .bool d] 28) (.cells #[.slice none 0 0, .int .i64 0, .int .i64 0, .bool false] 28)
  rw [← hW] at hA
  have HS := hide hA.1
  have HB0 := hide hA.2.1
  have HC0 := hide hA.2.2.1
  have HC1 := hide hA.2.2.2
  clear hA
  have HR := hide (hr.later HB0.out (Nat.le_refl _))
  clear hr
  go_enter Tryd.func22, Tryd.ntmps22
  go_wp2_with fail
  rw [← hW]
  clear hW
  refine (specBegin_some W ad n cap fs HR.out hn hz c u d hu hu2).mono ?_
  rintro e w2 ⟨⟨a', cap', rfl, ho2⟩, hb2⟩
  obtain ⟨U, hU⟩ : ∃ U, begU fs c u d = U := ⟨_, rfl⟩
  obtain ⟨D, hD⟩ : ∃ D, begD fs c u d = D := ⟨_, rfl⟩
  obtain ⟨C, hC⟩ : ∃ C, begC fs c u d = C := ⟨_, rfl⟩
  rw [hU, hD, hC]
  have HU := hide hU
  have HD := hide hD
  have HC := hide hC
  clear hU hD hC
  obtain ⟨X, hX⟩ : ∃ X, X = w2.alloc (.cells #[.slice a' n cap', .int .i64 c, .int .i64 U, .bool D] 28) := ⟨_, rfl⟩
  have hsz2 : w.heap.size + 2 ≤ w2.heap.size := by have := HS.out; have := hb2.size; omega
  have HBX : Hid (Below w2.heap.size w2 X) := hide (by rw [hX]; exact (Below.refl _ _).alloc (Nat.le_refl _) _)
  have HXS : Hid (X.heap.size = w2.heap.size + 1) := hide (by rw [hX]; simp)
  have HCX : Hid (X.heap[w2.heap.size]? = some (.cells #[.slice a' n cap', .int .i64 c, .int .i64 U, .bool D] 28 (0, 0))) := hide (by rw [hX]; exact heap_alloc_new w2 _)
  have HD0 : Hid (X.heap[w.heap.size]? = some (.cells #[.slice (some ad) n cap, .int .i64 c, .int .i64 u, .bool d] 28 (0, 0))) := hide (((HBX.out.block _ (by omega)).trans (hb2.block _ (by have := HS.out; omega))).trans HC0.out)
  have HD1 : Hid (X.heap[w.heap.size + 1]? = some (.cells #[.slice none 0 0, .int .i64 0, .int .i64 0, .bool false] 28 (0, 0))) := hide (((HBX.out.block _ (by omega)).trans (hb2.block _ (by have := HS.out; omega))).trans HC1.out)
  have HBK : Hid (∀ g, (Value.slice a' n cap').ownBlock = some g → w.heap.size + 2 ≤ g ∧ g < w2.heap.size) := hide (fun g hg => by have h := ho2.blk g hg; have := HS.out; omega)
  have HOX : Hid (FOwn X (w.heap.size + 2) (.slice a' n cap') fs) := hide ((ho2.later HBX.out (Nat.le_refl _)).mono (by have := HS.out; omega))
  have HBW := hide (hb2.trans (HBX.out.mono hb2.size))
  have HRX := hide (HR.out.later HBW.out (Nat.le_refl _))
  have HB3 := hide (HB0.out.trans (HBW.out.mono HB0.out.size))
  clear hb2 ho2 HC0 HC1 HR HB0 HBX HBW HS
  by_cases q0 : C = 0
  · subst q0
    have hx0 := cells4 HD0.out
    rw [hX] at hx0
    obtain ⟨y0, y1, y2, y3, -, -, -, -⟩ := hx0
    go_wp2_with fail
    clear y0 y1 y2 y3
    rw [← hX]
    clear hX
    refine (specFind_any X (some ad) n cap fs HRX.out (by omega) c u d nm).mono ?_
    rintro e w4 ⟨rfl, hb4⟩
    obtain ⟨x, hx⟩ : ∃ x, w2.heap.size = x := ⟨_, rfl⟩
    rw [hx] at HCX HXS hsz2 HBK
    rw [hx]
    have HVL : Hid (fs.length = n) := hide hfn
    obtain ⟨a0, a1, a2, a3, -, -, -, -⟩ := cells4 ((hb4.block _ (by have := HXS.out; omega)).trans HD0.out)
    obtain ⟨b0, b1, b2, b3, k0, k1, k2, k3⟩ := cells4 ((hb4.block _ (by have := HXS.out; omega)).trans HD1.out)
    obtain ⟨c0, c1, c2, c3, l0, l1, l2, l3⟩ := cells4 ((hb4.block _ (by have := HXS.out; omega)).trans HCX.out)
    have HW1 := hide ((hb4.block _ (by have := HXS.out; omega)).trans HD1.out)
    have HWX := hide ((hb4.block _ (by have := HXS.out; omega)).trans HCX.out)
    have hx4 : x + 1 ≤ w4.heap.size := by have := HXS.out; have := hb4.size; omega
    have HO4 := hide (HOX.out.later hb4 (Nat.le_refl _))
    have HB4 := hide (HB3.out.trans (hb4.mono HB3.out.size))
    clear hb4 HD0 HD1 HCX HXS HOX HB3 HRX hx
    by_cases q1 : findF fs nm < 0
    · have HV : Hid (remF fs c u d nm = (fs, 3)) := hide (by unfold remF; rw [if_pos HC.out, if_pos q1])
      have t1 : decide (findF fs nm < 0) = true := by simpa using q1
      clear q1
      go_wp2
      refine bodyPost_ret (v := .tuple #[.agg #[.slice a' n cap', .int .i64 c, .int .i64 U, .bool D], .int .i64 3]) (by simp [results, Tryd.results22, go_sem, *]) rfl ⟨⟨a', cap', by rw [HV.out, HU.out, HD.out, HVL.out], ?_⟩, ?_⟩
      · rw [HV.out]
        dsimp only
        rw [HVL.out]
        refine FOwn.mono ?_ (Nat.le_add_right _ 2)
        iterate 4 (refine FOwn.setNe ?_ _ _ (by intro q; have := HBK.out _ q; dsimp only at this; omega))
        exact HO4.out
      · iterate 4 (refine Below.setCell ?_ (by dsimp only; omega) _)
        exact HB4.out
    · obtain ⟨k, hk, hkl⟩ := findF_lt fs nm q1
      have HV : Hid (remF fs c u d nm = (fs.eraseIdx k, 0)) := hide (by unfold remF; rw [if_pos HC.out, if_neg q1, hk, Int.toNat_natCast])
      have HVL2 : Hid ((fs.eraseIdx k).length = n - 1) := hide (by rw [List.length_eraseIdx, if_pos hkl, hfn])
      rw [hk]
      clear hk q1
      obtain ⟨g, hg⟩ : ∃ g, a' = some ⟨g, 0, none⟩ := by
        rcases HO4.out.2 with ⟨e, h0⟩ | ⟨g, c, cur, e, _⟩
        · simp only [Value.slice.injEq] at e; omega
        · simp only [Value.slice.injEq] at e
          exact ⟨g, e.1⟩
      subst hg
      have hcc := HO4.out.cap
      have hkn : k < n := by omega
      go_wp2_with fail
      refine (specWithout_any w4 g n cap' fs HO4.out.row.base0 hn hcc k hkn).mono ?_
      rintro e w5 ⟨⟨a5, cap5, rfl, ho5⟩, hb5⟩
      clear a0 a1 a2 a3 b0 b1 b2 b3 k0 k1 k2 k3 c0 c1 c2 c3 l0 l1 l2 l3
      obtain ⟨b0, b1, b2, b3, k0, k1, k2, k3⟩ := cells4 ((hb5.block _ (by omega)).trans HW1.out)
      obtain ⟨c0, c1, c2, c3, l0, -, -, -⟩ := cells4 ((hb5.block _ (by omega)).trans HWX.out)
      have HBK5 : Hid (∀ g, (Value.slice a5 (n - 1) cap5).ownBlock = some g → w4.heap.size ≤ g) := hide (fun g hg => (ho5.blk g hg).1)
      have HO5 : Hid (FOwn w5 (w.heap.size + 2) (.slice a5 (n - 1) cap5) (fs.eraseIdx k)) := hide (ho5.mono (by omega))
      have HB5 := hide (HB4.out.trans (hb5.mono HB4.out.size))
      clear ho5 hb5 HO4 HB4 HW1 HWX
      have HVL := HVL2
      clear HVL2
      go_wp2
      refine bodyPost_ret (v := .tuple #[.agg #[.slice a5 (n - 1) cap5, .int .i64 c, .int .i64 U, .bool D], .int .i64 0]) (by simp [results, Tryd.results22, go_sem, *]) rfl ⟨⟨a5, cap5, by rw [HV.out, HU.out, HD.out, HVL.out], ?_⟩, ?_⟩
      · rw [HV.out]
        dsimp only
        rw [HVL.out]
        refine FOwn.mono ?_ (Nat.le_add_right _ 2)
        iterate 5 (refine FOwn.setNe ?_ _ _ (by intro q; have := HBK5.out _ q; dsimp only at this; omega))
        exact HO5.out
      · iterate 5 (refine Below.setCell ?_ (by dsimp only; omega) _)
        exact HB5.out
  · have HV : Hid (remF fs c u d nm = (fs, C)) := hide (by unfold remF; rw [if_neg (by rw [HC.out]; exact q0), HC.out])
    have t0 : (C == 0) = false := by simpa using q0
    have t0' : (C != 0) = true := by simpa using q0
    have hx1 := cells4 HD1.out
    rw [hX] at hx1
    obtain ⟨b0, b1, b2, b3, k0, k1, k2, k3⟩ := hx1
    have HOX' : Hid (FOwn (w2.alloc (.cells #[.slice a' n cap', .int .i64 c, .int .i64 U, .bool D] 28)) (w.heap.size + 2) (.slice a' n cap') fs) := hide (by rw [← hX]; exact HOX.out)
    have HB3' : Hid (Below w.heap.size w (w2.alloc (.cells #[.slice a' n cap', .int .i64 c, .int .i64 U, .bool D] 28))) := hide (by rw [← hX]; exact HB3.out)
    have HVL : Hid (fs.length = n) := hide hfn
    clear q0 hX
    go_wp2
    refine bodyPost_ret (v := .tuple #[.agg #[.slice a' n cap', .int .i64 c, .int .i64 U, .bool D], .int .i64 C]) (by simp [results, Tryd.results22, go_sem, *]) rfl ⟨⟨a', cap', by rw [HV.out, HU.out, HD.out, HVL.out], ?_⟩, ?_⟩
    · rw [HV.out]
      dsimp only
      rw [HVL.out]
      refine FOwn.mono ?_ (Nat.le_add_right _ 2)
      iterate 4 (refine FOwn.setNe ?_ _ _ (by intro q; have := HBK.out _ q; dsimp only at this; omega))
      exact HOX'.out
    · iterate 4 (refine Below.setCell ?_ (by dsimp only; omega) _)
      exact HB3'.out

end Go.Proofs.YthhjomaccbpnbabDoor
