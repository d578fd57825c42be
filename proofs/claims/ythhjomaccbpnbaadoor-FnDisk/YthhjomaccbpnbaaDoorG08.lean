/-
  spec.DrawAppend: a disk, a name and a text. Rows of disks and of numbers that a call has made itself: one more behind them. What FnDisk carries through its first loop: the disks that the steps answered so far, and their codes. The laws' at and big.
-/
import Derived.Test.YthhjomaccbpnbaaDoorMDrawA2
import Derived.Test.YthhjomaccbpnbaaDoorG04
import Derived.Test.YthhjomaccbpnbaaDoorG00
namespace Go.Proofs.YthhjomaccbpnbaaDoor
open Go.RowKit Go.Maps
open Plain

set_option maxRecDepth 100000 in
set_option maxHeartbeats 2000000 in
theorem drawAppend_any (w : World) (a : Option Addr) (len cap : Nat) (zs : List Int) (hc : CodeAt w a len zs) :
    Calls Tryd.prog 5 #[.slice a len cap] w fun e w' => (∃ a' k cap' c u d fs nm t, e = .returned (.tuple #[.agg #[.slice a' k cap', .int .i64 c, .int .i64 u, .bool d], .string nm, .string t]) ∧ (k ≤ 131 ∧ szFs fs ≤ 10000 ∧ -1 ≤ c ∧ c ≤ 100001 ∧ -2 ≤ u ∧ u ≤ 1) ∧ nm.size ≤ 5 ∧ t.size ≤ 40 ∧ FOwn w' w.heap.size (.slice a' k cap') fs) ∧ Below w.heap.size w w' := by
  obtain ⟨W, hW⟩ : ∃ W, W = w.alloc (.cells #[.slice none 0 0, .int .i64 0, .int .i64 0, .bool false] 26) := ⟨_, rfl⟩
  have hbW : Below w.heap.size w W := by rw [hW]; exact (Below.refl _ _).alloc (Nat.le_refl _) _
  have HW0 : Hid (W.heap[w.heap.size]? = some (.cells #[.slice none 0 0, .int .i64 0, .int .i64 0, .bool false] 26 (0, 0))) := hide (by rw [hW]; exact heap_alloc_new w _)
  have HCW := hide (hc.later hbW)
  have HBW := hide hbW
  clear hc hbW
  go_enter Tryd.func5, Tryd.ntmps5
  go_wp2_with fail
  rw [← hW]
  clear hW
  refine (new_any W a len cap zs HCW.out).mono ?_
  rintro e w1 ⟨rfl, hc1, hb1⟩
  have hwW : w.heap.size < W.heap.size := lt_of_block HW0.out
  have HC1 : Hid (CurX w1 W.heap.size a len cap zs) := hide ⟨_, hc1⟩
  have HB1 := hide (HBW.out.trans (hb1.mono HBW.out.size))
  have HW1 := hide ((hb1.block _ hwW).trans HW0.out)
  clear hc1 hb1 HW0 HBW HCW
  obtain ⟨B, hB⟩ : ∃ B, W.heap.size = B := ⟨_, rfl⟩
  rw [hB] at HC1 hwW ⊢
  clear hB
  go_wp2_with fail
  refine (any3_any w1 B a len cap zs HC1.out).mono ?_
  rintro e w2 ⟨⟨a', k, cap', c, u, d, fs, rfl, hsm, ho2⟩, hc2, hg2⟩
  obtain ⟨X, hX⟩ : ∃ X, X = w2.alloc (.cells #[.slice a' k cap', .int .i64 c, .int .i64 u, .bool d] 26) := ⟨_, rfl⟩
  have hbX : Below w2.heap.size w2 X := by rw [hX]; exact (Below.refl _ _).alloc (Nat.le_refl _) _
  have hB1 : B < w1.heap.size := HC1.out.lt
  have HSM := hide hsm
  -- what stands behind the draw of the disk
  have HK : Hid (CurX X B a len cap zs ∧ X.heap[w.heap.size]? = some (.cells #[.slice none 0 0, .int .i64 0, .int .i64 0, .bool false] 26 (0, 0)) ∧ X.heap[w2.heap.size]? = some (.cells #[.slice a' k cap', .int .i64 c, .int .i64 u, .bool d] 26 (0, 0)) ∧ FOwn X (w1.heap.size + 1) (.slice a' k cap') fs ∧ Below w.heap.size w X) := hide (by
    refine ⟨hc2.below hbX hc2.lt, ?_, by rw [hX]; exact heap_alloc_new w2 _, ho2.later hbX (Nat.le_refl _), ?_⟩
    · rw [hbX.block _ (by have := hg2.size; omega), hg2.block _ (by omega) (fun e => by injection e with e; omega)]
      exact HW1.out
    · have h1 : Below w.heap.size w w2 := HB1.out.grown hg2 HB1.out.size (fun j hj => by injection hj with hj; omega)
      exact h1.trans (hbX.mono h1.size))
  have hw12 : w1.heap.size ≤ w2.heap.size := hg2.size
  clear hbX hc2 hg2 ho2 hsm HW1 HB1 HC1
  go_wp2_with fail
  rw [← hX]
  clear hX
  obtain ⟨bd, hbd⟩ : ∃ b, w2.heap.size = b := ⟨_, rfl⟩
  rw [hbd] at HK hw12 ⊢
  clear hbd
  obtain ⟨L, hL⟩ : ∃ L, w1.heap.size = L := ⟨_, rfl⟩
  rw [hL] at HK hw12 hB1
  clear hL
  have HKG : Hid (∀ W' W'', (CurX W' B a len cap zs ∧ W'.heap[w.heap.size]? = some (.cells #[.slice none 0 0, .int .i64 0, .int .i64 0, .bool false] 26 (0, 0)) ∧ W'.heap[bd]? = some (.cells #[.slice a' k cap', .int .i64 c, .int .i64 u, .bool d] 26 (0, 0)) ∧ FOwn W' (L + 1) (.slice a' k cap') fs ∧ Below w.heap.size w W') → W'.grownBy W'' (some B) → CurX W'' B a len cap zs → (CurX W'' B a len cap zs ∧ W''.heap[w.heap.size]? = some (.cells #[.slice none 0 0, .int .i64 0, .int .i64 0, .bool false] 26 (0, 0)) ∧ W''.heap[bd]? = some (.cells #[.slice a' k cap', .int .i64 c, .int .i64 u, .bool d] 26 (0, 0)) ∧ FOwn W'' (L + 1) (.slice a' k cap') fs ∧ Below w.heap.size w W'')) := hide (fun W' W'' h hg hcx => by
    obtain ⟨q1, q2, q3, q4, q5⟩ := h
    refine ⟨hcx, ?_, ?_, q4.grownB hg (by omega), q5.grown hg q5.size (fun j hj => by injection hj with hj; omega)⟩
    · rw [hg.block _ (lt_of_block q2) (fun e => by injection e with e; omega)]; exact q2
    · rw [hg.block _ (lt_of_block q3) (fun e => by injection e with e; omega)]; exact q3)
  refine (name3_any X B a len cap zs HK.out.1).mono ?_
  rintro e w3 ⟨⟨nm, hnm, rfl⟩, hc3, hg3⟩
  have HK3 := hide (HKG.out X w3 HK.out hg3 hc3)
  have HNM := hide hnm
  clear hc3 hg3 HK hnm
  have HTX : Hid (∀ W', (CurX W' B a len cap zs ∧ W'.heap[w.heap.size]? = some (.cells #[.slice none 0 0, .int .i64 0, .int .i64 0, .bool false] 26 (0, 0)) ∧ W'.heap[bd]? = some (.cells #[.slice a' k cap', .int .i64 c, .int .i64 u, .bool d] 26 (0, 0)) ∧ FOwn W' (L + 1) (.slice a' k cap') fs ∧ Below w.heap.size w W') → Calls Tryd.prog 20 #[.pointer (some ⟨B, 0, none⟩), .int .i64 40] W' fun e w' => (∃ t : ByteArray, t.size ≤ 40 ∧ e = .returned (.string t)) ∧ (CurX w' B a len cap zs ∧ w'.heap[w.heap.size]? = some (.cells #[.slice none 0 0, .int .i64 0, .int .i64 0, .bool false] 26 (0, 0)) ∧ w'.heap[bd]? = some (.cells #[.slice a' k cap', .int .i64 c, .int .i64 u, .bool d] 26 (0, 0)) ∧ FOwn w' (L + 1) (.slice a' k cap') fs ∧ Below w.heap.size w w')) := hide (fun W' h => by
    obtain ⟨st', hc'⟩ := h.1
    refine (text_any 40 (by omega) (by omega) W' B a len cap zs st' hc').mono ?_
    rintro e w' ⟨rfl, hc2, hg2⟩
    exact ⟨⟨_, by rw [strOfNums_size]; have := tV_length zs 40 st' (by omega); omega, rfl⟩, HKG.out W' w' h hg2 ⟨_, hc2⟩⟩)
  have HKD := hide (HKG.out w3 w3.drew HK3.out ⟨rfl, rfl, rfl, Nat.le_refl _, fun _ _ _ => rfl⟩ (HK3.out.1.below (Below.refl _ _).drew HK3.out.1.lt))
  obtain ⟨y0, y1, y2, y3, -⟩ := cells4 HKD.out.2.2.1
  obtain ⟨s0, s1, s2, s3, j0, j1, j2, j3⟩ := cells4 HKD.out.2.1
  have n1 : w.heap.size ≠ bd := by have := HK3.out.1.lt; omega
  have n2 : bd ≠ w.heap.size := by omega
  go_wp2
  go_region_with (go_at_call 20; refine (HTX.out _ HKD.out).mono ?_; rintro e w4 ⟨⟨t, ht, rfl⟩, hk4⟩; have HK4 := hide hk4; have HT := hide ht; obtain ⟨z0, z1, z2, z3, -⟩ := cells4 hk4.2.2.1; obtain ⟨r0, r1, r2, r3, k0, k1, k2, k3⟩ := cells4 hk4.2.1; clear hk4 ht)
  all_goals
    clear HTX HKD HK3 HKG
    go_wp2
    refine bodyPost_ret (v := .tuple #[.agg #[.slice a' k cap', .int .i64 c, .int .i64 u, .bool d], .string nm, .string t]) (by simp [results, Tryd.results5, go_sem, *]) rfl ⟨⟨a', k, cap', c, u, d, fs, nm, t, rfl, HSM.out, HNM.out, HT.out, ?_⟩, ?_⟩
    · refine FOwn.mono ?_ (show w.heap.size ≤ L + 1 by omega)
      exact HK4.out.2.2.2.1.set4 (HK4.out.2.2.2.1.blkNe HK4.out.2.1 (by decide)) _ _ _ _
    · exact (((HK4.out.2.2.2.2.setCell (Nat.le_refl _) _).setCell (Nat.le_refl _) _).setCell (Nat.le_refl _) _).setCell (Nat.le_refl _) _

end Go.Proofs.YthhjomaccbpnbaaDoor
namespace Go.Proofs.YthhjomaccbpnbaaDoor
open Go.RowKit Go.Maps
open Plain

theorem Tryd.infoD : (Tryd.prog.info? 26).map (fun i => (i.zero, i.size, i.bytes)) = some (some (.agg #[.slice none 0 0, .int .i64 0, .int .i64 0, .bool false]), 4, 48) := by kernel_rfl
theorem Tryd.infoI : (Tryd.prog.info? 3).map (fun i => (i.zero, i.size, i.bytes)) = some (some (.int .i64 0), 1, 8) := by kernel_rfl
/-- The cells of disks that differ in their files alone. -/
def dcells (c U : Int) (D : Bool) : List Value → List Value
  | [] => []
  | v :: r => v :: .int .i64 c :: .int .i64 U :: .bool D :: dcells c U D r
theorem dcells_length (c U : Int) (D : Bool) (vs : List Value) : (dcells c U D vs).length = vs.length * 4 := by
  induction vs with
  | nil => rfl
  | cons v r ih => simp [dcells, ih]; omega
theorem dcells_append (c U : Int) (D : Bool) (vs ws : List Value) : dcells c U D (vs ++ ws) = dcells c U D vs ++ dcells c U D ws := by
  induction vs with
  | nil => rfl
  | cons v r ih => simp [dcells, ih]
theorem dcells_get (c U : Int) (D : Bool) (vs : List Value) : ∀ j v, vs[j]? = some v → (dcells c U D vs)[j * 4]? = some v ∧ (dcells c U D vs)[j * 4 + 1]? = some (.int .i64 c) ∧ (dcells c U D vs)[j * 4 + 2]? = some (.int .i64 U) ∧ (dcells c U D vs)[j * 4 + 3]? = some (.bool D) := by
  induction vs with
  | nil => intro j v h; simp at h
  | cons x r ih =>
    intro j v h
    cases j with
    | zero => simp at h; subst h; simp [dcells]
    | succ j =>
      have h1 := ih j v (by simpa using h)
      have e : (j + 1) * 4 = j * 4 + 1 + 1 + 1 + 1 := by omega
      rw [e]
      simp only [dcells]
      refine ⟨by simpa using h1.1, by simpa using h1.2.1, by simpa using h1.2.2.1, by simpa using h1.2.2.2⟩
/-- A row whose elements have another type lies elsewhere. -/
theorem own_ne {w : World} {base base' e e' sz sz' n n' : Nat} {v v' : Value} {xs xs' : List Value} (h : w.ownsRow base e sz v n xs) (h' : w.ownsRow base' e' sz' v' n' xs') (he : e ≠ e') : ∀ g, v.ownBlock = some g → v'.ownBlock ≠ some g := by
  intro g h1 h2
  rcases h.2 with ⟨rfl, _⟩ | ⟨b, c, cur, rfl, _, hb, _⟩
  · cases h1
  · simp only [Value.ownBlock, Option.some.injEq] at h1
    subst h1
    rcases h'.2 with ⟨rfl, _⟩ | ⟨b', c', cur', rfl, _, hb', _⟩
    · cases h2
    · simp only [Value.ownBlock, Option.some.injEq] at h2
      subst h2
      rw [hb] at hb'
      simp only [Option.some.injEq, Obj.cells.injEq] at hb'
      exact he hb'.2.1
theorem own_keptBy {w w' : World} {base base' e e' sz sz' n n' : Nat} {v v' : Value} {xs xs' : List Value} (h : w.ownsRow base e sz v n xs) (h' : w.ownsRow base' e' sz' v' n' xs') (he : e ≠ e') (hg : w.grownBy w' v'.ownBlock) : w'.ownsRow base e sz v n xs := by
  refine World.ownsRow.kept h hg ?_
  cases q : v.ownBlock with
  | none => exact .inl rfl
  | some g => exact .inr (fun e2 => own_ne h h' he g q e2.symm)
theorem src4 (w : World) (v0 v1 v2 v3 : Value) (t : TypeId) : ∀ j u, [v0, v1, v2, v3][j]? = some u → (w.alloc (.cells #[v0, v1, v2, v3] t)).cell? ((⟨w.heap.size, 0, none⟩ : Addr).add j) = some u := by
  intro j u h
  rw [addr_add, Nat.zero_add, cell_of_row _ _ _ _ _ _ (heap_alloc_new w _)]
  simpa using h
/-- 'all = append(all, x)': a law for the walk. -/
theorem wpList_app_disk {ops : Array Oper} {rest : List Oper} {o : Oper} {act : Act} {Q : Exit → Act → World → Prop} (hgd : o.guard = none) (s x : Operand)
    (ho : o.op = .call { callee := .builtin .append, args := #[s, x], argTypes := #[31, 31] }) {w : World} {base K : Nat} {v : Value} {vs : List Value} {c U : Int} {D : Bool} (a' : Option Addr) (m cap' : Nat) (hown : (w.alloc (.cells #[.slice a' m cap', .int .i64 c, .int .i64 U, .bool D] 26)).ownsRow base 26 4 v K (dcells c U D vs)) (hb : base ≤ w.heap.size)
    (hn : K ≤ 1000) (hs : act.eval s = v) (hx : act.eval x = .slice (some ⟨w.heap.size, 0, none⟩) 1 1)
    (h : ∀ v' w', w'.ownsRow base 26 4 v' (K + 1) (dcells c U D (vs ++ [.slice a' m cap'])) → (w.alloc (.cells #[.slice a' m cap', .int .i64 c, .int .i64 U, .bool D] 26)).grownBy w' v.ownBlock → wpList Tryd.prog ops Q rest (act.put o.dst v') w') :
    wpList Tryd.prog ops Q (o :: rest) act (w.alloc (.cells #[.slice a' m cap', .int .i64 c, .int .i64 U, .bool D] 26)) := by
  obtain ⟨i0, hi, hz0, hz1, hz2⟩ := info_parts Tryd.infoD
  refine wpList_append_own (P := Tryd.prog) (w.alloc (.cells #[.slice a' m cap', .int .i64 c, .int .i64 U, .bool D] 26)) hgd s x 31 ho base 26 i0 _ 4 48 Tryd.underlying31 hi hz0 hz1 hz2 rfl (by decide) v K _ hs hown ⟨w.heap.size, 0, none⟩ 1 1 [.slice a' m cap', .int .i64 c, .int .i64 U, .bool D] hx rfl (src4 w _ _ _ _ _) (fun u hu => by simp at hu; rcases hu with rfl | rfl | rfl | rfl <;> rfl) (by unfold maxLen; omega) (by omega) (by simp; omega) ?_
  intro v' w' ho' hg _
  refine h v' w' ?_ hg
  rw [dcells_append]
  exact ho'
/-- 'codes = append(codes, c)': a law for the walk. -/
theorem wpList_app_int {ops : Array Oper} {rest : List Oper} {o : Oper} {act : Act} {Q : Exit → Act → World → Prop} (hgd : o.guard = none) (s x : Operand)
    (ho : o.op = .call { callee := .builtin .append, args := #[s, x], argTypes := #[32, 32] }) {w : World} {base K : Nat} {v : Value} {xs : List Value} (z : Int) (hown : (w.alloc (.cells #[.int .i64 z] 3)).ownsRow base 3 1 v K xs) (hb : base ≤ w.heap.size)
    (hn : K ≤ 1000) (hs : act.eval s = v) (hx : act.eval x = .slice (some ⟨w.heap.size, 0, none⟩) 1 1)
    (h : ∀ v' w', w'.ownsRow base 3 1 v' (K + 1) (xs ++ [.int .i64 z]) → (w.alloc (.cells #[.int .i64 z] 3)).grownBy w' v.ownBlock → wpList Tryd.prog ops Q rest (act.put o.dst v') w') :
    wpList Tryd.prog ops Q (o :: rest) act (w.alloc (.cells #[.int .i64 z] 3)) := by
  obtain ⟨i0, hi, hz0, hz1, hz2⟩ := info_parts Tryd.infoI
  refine wpList_append_own (P := Tryd.prog) (w.alloc (.cells #[.int .i64 z] 3)) hgd s x 32 ho base 3 i0 _ 1 8 Tryd.underlying32 hi hz0 hz1 hz2 rfl (by decide) v K _ hs hown ⟨w.heap.size, 0, none⟩ 1 1 [.int .i64 z] hx rfl (fun j u h => ?_) (fun u hu => by simp at hu; subst hu; rfl) (by unfold maxLen; omega) (by omega) (by simp; omega) ?_
  · rw [addr_add, Nat.zero_add, cell_of_row _ _ _ _ _ _ (heap_alloc_new w _)]
    simpa using h
  · intro v' w' ho' hg _
    exact h v' w' ho' hg

/-- What the six steps answer, in the law's order. -/
def rk (fs : List FileV) (c u : Int) (d : Bool) (nm t to : ByteArray) (m : Int) : Nat → List FileV × Int
  | 0 => appF fs c u d nm t
  | 1 => creF fs c u d nm
  | 2 => synF fs c u d nm
  | 3 => renF fs c u d nm to
  | 4 => remF fs c u d nm
  | _ => truF fs c u d nm m
theorem law_syn (fs : List FileV) (c u : Int) (d : Bool) (nm : ByteArray) : StepLaw fs c u d (synF fs c u d nm) := by
  have e : synF fs c u d nm = stepF fs c u d (if findF fs nm < 0 then 3 else 0) (fs.set (findF fs nm).toNat ⟨(fs.getD (findF fs nm).toNat zeroF).name, (fs.getD (findF fs nm).toNat zeroF).text, ((fs.getD (findF fs nm).toNat zeroF).text.size : Int)⟩) := by
    unfold stepF synF
    by_cases h : begC fs c u d = 0
    · rw [if_pos h, if_pos h]
      by_cases h2 : findF fs nm < 0
      · simp [h2]
      · simp [h2]
    · rw [if_neg h, if_neg h]
  rw [e]
  refine stepF_law (fun h hc => ?_)
  have hf : ¬ findF fs nm < 0 := fun h2 => by rw [if_pos h2] at hc; omega
  exact good_syn h nm hf
theorem rk_law (fs : List FileV) (c u : Int) (d : Bool) (nm t to : ByteArray) (m : Int) (j : Nat) : StepLaw fs c u d (rk fs c u d nm t to m j) := by
  match j with
  | 0 => exact law_app fs c u d nm t
  | 1 => exact law_cre fs c u d nm
  | 2 => exact law_syn fs c u d nm
  | 3 => exact law_ren fs c u d nm to
  | 4 => exact law_rem fs c u d nm
  | _ + 5 => exact law_tru fs c u d nm m
theorem rk_len (fs : List FileV) (c u : Int) (d : Bool) (nm t to : ByteArray) (m : Int) (j : Nat) : (rk fs c u d nm t to m j).1.length ≤ fs.length + 1 := by
  match j with
  | 0 => show (appF fs c u d nm t).1.length ≤ _; rw [appF_len]; omega
  | 1 => exact creF_len fs c u d nm
  | 2 => show (synF fs c u d nm).1.length ≤ _; rw [synF_len']; omega
  | 3 => exact renF_len fs c u d nm to
  | 4 => exact Nat.le_succ_of_le (remF_len fs c u d nm)
  | _ + 5 => show (truF fs c u d nm m).1.length ≤ _; rw [truF_len]; omega
theorem law_sz {fs : List FileV} {c u : Int} {d : Bool} {r : List FileV × Int} (h : StepLaw fs c u d r) (hs : szFs fs ≤ 10000) : szFs r.1 ≤ 200000 := by
  by_cases h0 : r.2 = 0
  · have h1 := goodF_of (h.good h0).1
    have h2 := (len_of (h.good h0).1).2.2.2.1
    have h3 := h1.size
    have h4 := h1.used
    have h5 := h1.len
    omega
  · rw [(h.bad h0).1]
    omega
theorem textA_sz (fs : List FileV) (c u : Int) (nm : ByteArray) : (textA fs c u nm).1.size ≤ szFs fs := by
  unfold textA
  split
  · split
    · exact Nat.zero_le _
    · rename_i h
      obtain ⟨k, hk, hkl⟩ := findF_at fs nm h
      rw [hk, Int.toNat_natCast, getD_of hkl]
      exact text_le fs k hkl
  · exact Nat.zero_le _
theorem rk_sz (fs : List FileV) (c u : Int) (d : Bool) (nm t to : ByteArray) (m : Int) (hs : szFs fs ≤ 10000) (j : Nat) : szFs (rk fs c u d nm t to m j).1 ≤ 200000 := law_sz (rk_law fs c u d nm t to m j) hs
def codesK (R : Nat → List FileV × Int) (K : Nat) : List Value := (List.range K).map (fun j => .int .i64 (R j).2)
theorem codesK_succ (R : Nat → List FileV × Int) (K : Nat) : codesK R (K + 1) = codesK R K ++ [.int .i64 (R K).2] := by unfold codesK; rw [List.range_succ, List.map_append]; rfl
theorem codesK_get (R : Nat → List FileV × Int) (K j : Nat) (h : j < K) : (codesK R K)[j]? = some (.int .i64 (R j).2) := by unfold codesK; rw [List.getElem?_map, List.getElem?_range h]; rfl

end Go.Proofs.YthhjomaccbpnbaaDoor
namespace Go.Proofs.YthhjomaccbpnbaaDoor
open Go.RowKit Go.Maps
open Plain

structure LMid (wB wr : World) (c U : Int) (D : Bool) (R : Nat → List FileV × Int) (K : Nat) (vs : List Value) (va vc : Value) : Prop where
  bel : Below wB.heap.size wB wr
  len : vs.length = K
  all : wr.ownsRow wB.heap.size 26 4 va K (dcells c U D vs)
  rows : ∀ j, j < K → ∃ a' n' cap', vs[j]? = some (.slice a' n' cap') ∧ FOwn wr wB.heap.size (.slice a' n' cap') (R j).1
  cod : wr.ownsRow wB.heap.size 3 1 vc K (codesK R K)
section
variable {wB wr w4 w6 w8 : World} {c U : Int} {D : Bool} {R : Nat → List FileV × Int} {K : Nat} {vs : List Value} {va vc v' v'' : Value} {xb : Nat} {x0 x1 x2 x3 : Value} {a2 : Option Addr} {n2 cap2 : Nat}
theorem own_belowK {w w' : World} {base e sz n K : Nat} {v : Value} {xs : List Value} (h : w.ownsRow base e sz v n xs) (hb : Below K w w') (hK : w.heap.size ≤ K) : w'.ownsRow base e sz v n xs := own_later h hb hK
theorem own_set4 {w : World} {base e sz n : Nat} {v : Value} {xs : List Value} (h : w.ownsRow base e sz v n xs) {b : Nat} (hb : v.ownBlock ≠ some b) (v0 v1 v2 v3 : Value) : (set4 w b v0 v1 v2 v3).ownsRow base e sz v n xs := by
  refine ⟨h.1, ?_⟩
  rcases h.2 with h | ⟨g, c, cur, e, hbg, hg, h1⟩
  · exact .inl h
  · refine .inr ⟨g, c, cur, e, hbg, ?_, h1⟩
    rw [set4_other _ _ _ _ _ _ _ (fun q => hb (by rw [e, ← q]; rfl))]
    exact hg
theorem alloc_b (w : World) (o : Obj) : Below w.heap.size w (w.alloc o) := (Below.refl _ _).alloc (Nat.le_refl _) _
theorem own_far {w wr w4 : World} {base e sz n xb : Nat} {v : Value} {xs : List Value} (h : wr.ownsRow base e sz v n xs) (hb : Below wr.heap.size wr w4) (hxb : wr.heap.size ≤ xb) (v0 v1 v2 v3 : Value) (o : Obj) (_ : w = wr) : ((set4 w4 xb v0 v1 v2 v3).alloc o).ownsRow base e sz v n xs := by
  have h4 := own_later h hb (Nat.le_refl _)
  have hne : v.ownBlock ≠ some xb := fun q => by have := (World.ownsRow.lt h xb q).2; omega
  exact own_later (own_set4 h4 hne v0 v1 v2 v3) (alloc_b _ o) (Nat.le_refl _)
theorem LMid.pre (h : LMid wB wr c U D R K vs va vc) (hb : Below wr.heap.size wr w4) (hxb : wr.heap.size ≤ xb) (v0 v1 v2 v3 : Value) (o : Obj) : ((set4 w4 xb v0 v1 v2 v3).alloc o).ownsRow wB.heap.size 26 4 va K (dcells c U D vs) := own_far h.all hb hxb v0 v1 v2 v3 o rfl
theorem LMid.pre2 (h : LMid wB wr c U D R K vs va vc) (hb : Below wr.heap.size wr w4) (hxb : wr.heap.size ≤ xb) (v0 v1 v2 v3 : Value) (o o' : Obj) (hg6 : ((set4 w4 xb v0 v1 v2 v3).alloc o).grownBy w6 va.ownBlock) : (w6.alloc o').ownsRow wB.heap.size 3 1 vc K (codesK R K) :=
  own_later (own_keptBy (own_far h.cod hb hxb v0 v1 v2 v3 o rfl) (h.pre hb hxb v0 v1 v2 v3 o) (by decide) hg6) (alloc_b _ o') (Nat.le_refl _)
theorem LMid.fin (h : LMid wB wr c U D R K vs va vc) (hb : Below wr.heap.size wr w4) (hx : w4.heap[xb]? = some (.cells #[x0, x1, x2, x3] 26 (0, 0))) (hxb : wr.heap.size ≤ xb) (ho : FOwn w4 wr.heap.size (.slice a2 n2 cap2) (R K).1) (v0 v1 v2 v3 : Value) (o o' : Obj)
    (hg6 : ((set4 w4 xb v0 v1 v2 v3).alloc o).grownBy w6 va.ownBlock) (h6 : w6.ownsRow wB.heap.size 26 4 v' (K + 1) (dcells c U D (vs ++ [.slice a2 n2 cap2])))
    (hg8 : (w6.alloc o').grownBy w8 vc.ownBlock) (h8 : w8.ownsRow wB.heap.size 3 1 v'' (K + 1) (codesK R K ++ [.int .i64 (R K).2])) : LMid wB w8 c U D R (K + 1) (vs ++ [.slice a2 n2 cap2]) v' v'' := by
  have hp := h.pre hb hxb v0 v1 v2 v3 o
  have hp2 := h.pre2 hb hxb v0 v1 v2 v3 o o' hg6
  have hw : wB.heap.size ≤ wr.heap.size := h.bel.size
  have keep : ∀ {v : Value} {gs : List FileV}, FOwn w4 wB.heap.size v gs → FOwn w8 wB.heap.size v gs := fun {v gs} q => by
    have q1 : FOwn ((set4 w4 xb v0 v1 v2 v3).alloc o) wB.heap.size v gs := (q.set4 (q.blkNe hx (by decide)) v0 v1 v2 v3).later (alloc_b _ o) (Nat.le_refl _)
    have q2 : FOwn w6 wB.heap.size v gs := own_keptBy q1 hp (by decide) hg6
    have q3 : FOwn (w6.alloc o') wB.heap.size v gs := FOwn.later q2 (alloc_b _ o') (Nat.le_refl _)
    exact own_keptBy q3 hp2 (by decide) hg8
  refine ⟨?_, by rw [List.length_append, h.len]; rfl, ?_, fun j hj => ?_, by rw [codesK_succ]; exact h8⟩
  · have b4 : Below wB.heap.size wB w4 := h.bel.trans (hb.mono hw)
    have b5 : Below wB.heap.size wB (set4 w4 xb v0 v1 v2 v3) := (((b4.setCell (p := ⟨xb, 0, none⟩) (by dsimp only; omega) v0).setCell (p := ⟨xb, 1, none⟩) (by dsimp only; omega) v1).setCell (p := ⟨xb, 2, none⟩) (by dsimp only; omega) v2).setCell (p := ⟨xb, 3, none⟩) (by dsimp only; omega) v3
    have b5' := b5.alloc b5.size o
    have b6 : Below wB.heap.size wB w6 := b5'.grown hg6 b5'.size (fun j hj => (World.ownsRow.lt hp j hj).1)
    have b6' := b6.alloc b6.size o'
    exact b6'.grown hg8 b6'.size (fun j hj => (World.ownsRow.lt hp2 j hj).1)
  · exact own_keptBy (own_later h6 (alloc_b _ o') (Nat.le_refl _)) hp2 (by decide) hg8
  · rcases Nat.lt_or_ge j K with h1 | h1
    · obtain ⟨a', n', cap', e1, e2⟩ := h.rows j h1
      refine ⟨a', n', cap', ?_, keep (FOwn.later e2 hb (Nat.le_refl _))⟩
      rw [List.getElem?_append_left (by rw [h.len]; exact h1)]
      exact e1
    · obtain rfl : j = K := by omega
      refine ⟨a2, n2, cap2, ?_, keep (ho.mono hw)⟩
      rw [List.getElem?_append_right (by rw [h.len]; exact Nat.le_refl _), h.len, Nat.sub_self]
      rfl
theorem LMid.later {wr' : World} (h : LMid wB wr c U D R K vs va vc) (hb : Below wr.heap.size wr wr') : LMid wB wr' c U D R K vs va vc where
  bel := h.bel.trans (hb.mono h.bel.size)
  len := h.len
  all := own_later h.all hb (Nat.le_refl _)
  rows := fun j hj => by
    obtain ⟨a', n', cap', e1, e2⟩ := h.rows j hj
    exact ⟨a', n', cap', e1, FOwn.later e2 hb (Nat.le_refl _)⟩
  cod := own_later h.cod hb (Nat.le_refl _)
/-- The disk at place j: its cells, and its files. -/
theorem LMid.at (h : LMid wB wr c U D R K vs va vc) (j : Nat) (hj : j < K) : ∃ g cap a' n' cap', va = .slice (some ⟨g, 0, none⟩) K cap ∧ wr.cell? ⟨g, j * 4, none⟩ = some (.slice a' n' cap') ∧ wr.cell? ⟨g, j * 4 + 1, none⟩ = some (.int .i64 c) ∧ wr.cell? ⟨g, j * 4 + 2, none⟩ = some (.int .i64 U) ∧ wr.cell? ⟨g, j * 4 + 3, none⟩ = some (.bool D) ∧ FOwn wr wB.heap.size (.slice a' n' cap') (R j).1 := by
  obtain ⟨a', n', cap', e1, e2⟩ := h.rows j hj
  obtain ⟨d0, d1, d2, d3⟩ := dcells_get c U D vs j _ e1
  have ha := h.all
  rcases h.all.2 with ⟨e, h0⟩ | ⟨g, cap, cur, e, _⟩
  · omega
  · subst e
    exact ⟨g, cap, a', n', cap', rfl, by rw [ha.cellAt _ (by omega)]; exact d0, by rw [ha.cellAt _ (by omega)]; exact d1, by rw [ha.cellAt _ (by omega)]; exact d2, by rw [ha.cellAt _ (by omega)]; exact d3, e2⟩
theorem LMid.code (h : LMid wB wr c U D R K vs va vc) (j : Nat) (hj : j < K) : ∃ g cap, vc = .slice (some ⟨g, 0, none⟩) K cap ∧ wr.cell? ⟨g, j, none⟩ = some (.int .i64 (R j).2) := by
  have hc := h.cod
  rcases h.cod.2 with ⟨e, h0⟩ | ⟨g, cap, cur, e, _⟩
  · omega
  · subst e
    exact ⟨g, cap, rfl, by rw [hc.cellAt _ (by omega)]; exact codesK_get R K j hj⟩
end
theorem LMid.start (wB : World) (c U : Int) (D : Bool) (R : Nat → List FileV × Int) : LMid wB ((wB.alloc (.cells #[] 26)).alloc (.cells #[] 3)) c U D R 0 [] (.slice (some ⟨wB.heap.size, 0, none⟩) 0 0) (.slice (some ⟨wB.heap.size + 1, 0, none⟩) 0 0) where
  bel := (alloc2 wB _ _).2.1
  len := rfl
  all := ⟨rfl, .inr ⟨wB.heap.size, 0, #[], rfl, Nat.le_refl _, (alloc2 wB _ _).2.2.1, Nat.le_refl _, by unfold maxLen; omega, rfl, rfl⟩⟩
  rows := fun j hj => by omega
  cod := ⟨rfl, .inr ⟨wB.heap.size + 1, 0, #[], rfl, by omega, (alloc2 wB _ _).2.2.2, Nat.le_refl _, by unfold maxLen; omega, rfl, rfl⟩⟩

end Go.Proofs.YthhjomaccbpnbaaDoor
namespace Go.Proofs.YthhjomaccbpnbaaDoor
open Go.RowKit
open Plain

/-- What 'at' answers. -/
def atV (zs : List Int) (i : Nat) : Int := if i < zs.length then zs.getD i 0 else ((i : Int) * 37 + (zs.length : Int) * 11) % 256
theorem atV_bd (zs : List Int) (i : Nat) (h : ∀ j, 0 ≤ zs.getD j 0 ∧ zs.getD j 0 ≤ 255) : 0 ≤ atV zs i ∧ atV zs i ≤ 255 := by
  unfold atV
  split
  · exact h i
  · omega
set_option maxHeartbeats 1000000 in
theorem at_any (i : Nat) (hi : i ≤ 1000000) (w : World) (a : Option Addr) (len cap : Nat) (zs : List Int) (hc : CodeAt w a len zs) :
    Calls Tryd.prog 6 #[.slice a len cap, .int .i64 i] w fun e w' => e = .returned (.int .i64 (atV zs i)) ∧ w = w' := by
  have hs := hc.small
  have hz := hc.bytes i
  have hl := hc.size
  by_cases h : i < len
  · obtain ⟨b, off, rfl, hbw, hcell⟩ := hc.cells i h
    have HV : Hid (atV zs i = zs.getD i 0) := hide (by unfold atV; rw [if_pos (by omega)])
    generalize zs.getD i 0 = z at *
    clear hc
    go_enter Tryd.func6, Tryd.ntmps6
    go_wp2
    go_ret
    exact ⟨by rw [HV.out]; rfl, rfl⟩
  · have HV : Hid (atV zs i = ((i : Int) * 37 + (len : Int) * 11) % 256) := hide (by unfold atV; rw [if_neg (by omega), hl])
    clear hc hz hl
    go_enter Tryd.func6, Tryd.ntmps6
    go_wp2
    go_ret
    exact ⟨by rw [HV.out]; rfl, rfl⟩

theorem big_any (a : Option Addr) (len cap : Nat) (w : World) : Calls Tryd.prog 4 #[.slice a len cap] w fun e w' => e = .returned (.bool (decide (1048576 < len))) ∧ w = w' := by
  by_cases h : 1048576 < len
  · go_enter Tryd.func4, Tryd.ntmps4
    go_wp2
    go_ret
    exact ⟨by simp [h]; omega, rfl⟩
  · go_enter Tryd.func4, Tryd.ntmps4
    go_wp2
    go_ret
    exact ⟨by simp [h]; omega, rfl⟩

end Go.Proofs.YthhjomaccbpnbaaDoor
