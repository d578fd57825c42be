/-
  A slice of ints, and how it lies in the world; the laws' toIntS and eqIntS. impl.inPlace and impl.DirDrop.
-/
import Derived.Test.YtimpokbcfjgdaaaGreatDoorHG04
import Derived.Laws.CopyOwn
import Derived.Test.YtimpokbcfjgdaaaGreatDoorHMInPlaceI
namespace Go.Proofs.YtimpokbcfjgdaaaGreatDoor
open Go.RowKit
open Plain

/-- The slice shows these numbers; what it leads to lies in blocks from base on. -/
structure IRow (w : World) (base : Nat) (a : Option Addr) (len : Nat) (zs : List Int) : Prop where
  len : zs.length = len
  cells : ∀ i, (h : i < zs.length) → ∃ b off, a = some ⟨b, off, none⟩ ∧ base ≤ b ∧ b < w.heap.size ∧ w.cell? ⟨b, off + i, none⟩ = some (.int .i64 (zs[i]))
theorem IRow.later {w w' : World} {base K : Nat} {a : Option Addr} {len : Nat} {zs : List Int} (h : IRow w base a len zs) (hb : Below K w w') (hK : w.heap.size ≤ K) : IRow w' base a len zs where
  len := h.len
  cells := fun i hi => by
    obtain ⟨b, off, h1, h2, h3, h4⟩ := h.cells i hi
    refine ⟨b, off, h1, h2, Nat.lt_of_lt_of_le h3 hb.size, ?_⟩
    rw [hb.cell (p := ⟨b, _, none⟩) (Nat.lt_of_lt_of_le h3 hK)]
    exact h4
/-- The same in a row of the call's own. -/
def IOwn (w : World) (base : Nat) (v : Value) (zs : List Int) : Prop := w.ownsRow base 3 1 v zs.length (zs.map (Value.int .i64))
theorem IOwn.len {w : World} {base : Nat} {a : Option Addr} {n cap : Nat} {zs : List Int} (h : IOwn w base (.slice a n cap) zs) : zs.length = n := by
  rcases h.2 with ⟨e, h0⟩ | ⟨g, c, cur, e, _⟩
  · simp only [Value.slice.injEq] at e; omega
  · simp only [Value.slice.injEq] at e; omega
theorem IOwn.row {w : World} {base : Nat} {a : Option Addr} {n cap : Nat} {zs : List Int} (h : IOwn w base (.slice a n cap) zs) : IRow w 0 a n zs where
  len := h.len
  cells := fun i hi => by
    have hn := h.len
    unfold IOwn at h
    rw [hn] at h
    rcases h.2 with ⟨e, h0⟩ | ⟨g, c, cur, e, hb, hg, _⟩
    · omega
    · simp only [Value.slice.injEq] at e
      obtain ⟨rfl, _, rfl⟩ := e
      have hgl : g < w.heap.size := by
        rcases Nat.lt_or_ge g w.heap.size with h' | h'
        · exact h'
        · rw [Array.getElem?_eq_none h'] at hg; cases hg
      refine ⟨g, 0, rfl, Nat.zero_le _, hgl, ?_⟩
      rw [Nat.zero_add, h.cellAt _ (by omega)]
      simp [hi]
theorem IOwn.later {w w' : World} {base K : Nat} {v : Value} {zs : List Int} (h : IOwn w base v zs) (hb : Below K w w') (hK : w.heap.size ≤ K) : IOwn w' base v zs := own_later h hb hK
theorem IOwn.mono {w : World} {base base' : Nat} {v : Value} {zs : List Int} (h : IOwn w base v zs) (hb : base' ≤ base) : IOwn w base' v zs := by
  refine ⟨h.1, ?_⟩
  rcases h.2 with h | ⟨g, c, cur, e, hbg, h1⟩
  · exact .inl h
  · exact .inr ⟨g, c, cur, e, Nat.le_trans hb hbg, h1⟩
theorem IOwn.blk {w : World} {base : Nat} {v : Value} {zs : List Int} (h : IOwn w base v zs) : ∀ g, v.ownBlock = some g → base ≤ g ∧ g < w.heap.size := World.ownsRow.lt h
/-- A number put into its place. -/
theorem IOwn.put {w : World} {base g n cap : Nat} {zs : List Int} (h : IOwn w base (.slice (some ⟨g, 0, none⟩) n cap) zs) (i : Nat) (z : Int) :
    IOwn (w.setCell ⟨g, i, none⟩ (.int .i64 z)) base (.slice (some ⟨g, 0, none⟩) n cap) (zs.set i z) ∧ w.grownBy (w.setCell ⟨g, i, none⟩ (.int .i64 z)) (some g) := by
  have hn := h.len
  unfold IOwn at h ⊢
  rw [hn] at h
  rw [List.length_set, hn, List.map_set]
  exact h.stored i (.int .i64 z)

theorem Tryz.info3 : (Tryz.prog.info? 3).map (fun i => (i.zero, i.size, i.bytes)) = some (some (.int .i64 0), 1, 8) := by kernel_rfl
/-- 'out = append(out, z)', out a row of ints of the call's own: a law for the walk. -/
theorem wpList_app_i64 {ops : Array Oper} {rest : List Oper} {o : Oper} {act : Act} {Q : Exit → Act → World → Prop} (hgd : o.guard = none) (s x : Operand)
    (ho : o.op = .call { callee := .builtin .append, args := #[s, x], argTypes := #[84, 84] }) {w : World} {base K : Nat} {v : Value} {xs : List Value} (z : Int) (hown : (w.alloc (.cells #[.int .i64 z] 3)).ownsRow base 3 1 v K xs) (hb : base ≤ w.heap.size)
    (hn : K ≤ 1000) (hs : act.eval s = v) (hx : act.eval x = .slice (some ⟨w.heap.size, 0, none⟩) 1 1)
    (h : ∀ v' w', w'.ownsRow base 3 1 v' (K + 1) (xs ++ [.int .i64 z]) → (w.alloc (.cells #[.int .i64 z] 3)).grownBy w' v.ownBlock → wpList Tryz.prog ops Q rest (act.put o.dst v') w') :
    wpList Tryz.prog ops Q (o :: rest) act (w.alloc (.cells #[.int .i64 z] 3)) := by
  obtain ⟨i0, hi, hz0, hz1, hz2⟩ := info_parts Tryz.info3
  refine wpList_append_own (P := Tryz.prog) (w.alloc (.cells #[.int .i64 z] 3)) hgd s x 84 ho base 3 i0 _ 1 8 Tryz.underlying84 hi hz0 hz1 hz2 rfl (by decide) v K _ hs hown ⟨w.heap.size, 0, none⟩ 1 1 [.int .i64 z] hx rfl (fun j u h => ?_) (fun u hu => by simp at hu; subst hu; rfl) (by unfold maxLen; omega) (by omega) (by simp; omega) ?_
  · rw [addr_add, Nat.zero_add, cell_of_row _ _ _ _ _ _ (heap_alloc_new w _)]
    simpa using h
  · intro v' w' ho' hg _
    exact h v' w' ho' hg
theorem takeI_set_succ (gs fs : List Int) (k : Nat) (hk : k < fs.length) (hg : k < gs.length) (h : gs.take k = fs.take k) : (gs.set k (fs[k])).take (k + 1) = fs.take (k + 1) := by
  rw [List.take_succ_eq_append_getElem (by rw [List.length_set]; exact hg), List.take_succ_eq_append_getElem hk, List.take_set_of_le (Nat.le_refl _), h]
  simp

end Go.Proofs.YtimpokbcfjgdaaaGreatDoor
namespace Go.Proofs.YtimpokbcfjgdaaaGreatDoor
open Go.RowKit Go.Maps Go.Shelf
open Plain

/-- 'm[i]' at a place that the map holds. -/
theorem wpList_lookup_ent {ops : Array Oper} {rest : List Oper} {o : Oper} {a : Act} {Q : Exit → Act → World → Prop} (hg : o.guard = none) (m x : Operand) (hop : o.op = Op.lookup 179 m x false) {w : World} {B n : Nat} {xs : List EntV} {s : Nat → Bool}
    (hm : a.eval m = .map (some B)) (hown : POwn w B n xs s) (i : Nat) (hi : i < xs.length) (hs : s i = true) (hb : i ≤ 1099511627776) (hx : a.eval x = .int .i64 (i : Int)) (h : wpList Tryz.prog ops Q rest (a.put o.dst (xs[i]).val) w) : wpList Tryz.prog ops Q (o :: rest) a w := by
  obtain ⟨D, ho, hsh⟩ := hown
  refine wpList_plain hg fun K' hK' => ?_
  have hz : (zeroValue 71).run Tryz.prog w = .ok zeroE.val w := Tryz.zeroValue71 w
  obtain ⟨v, ps, hrun, hR⟩ := ho.lookup keyLawP Tryz.underlying179 hz (entElem_mk zeroE) (keyOf_int_mk Tryz.underlying3 (by simp [Lit.wf, show IntKind.i64.min = -9223372036854775808 from rfl, show IntKind.i64.max = 9223372036854775807 from rfl]; omega) : keyOf Tryz.prog 3 (.int .i64 (i : Int)) = some (litP i))
  obtain ⟨f, rfl, hf⟩ := entElem_inv hR
  have e1 : D.atKey (litP i) (entD zeroE) = entD f := by
    exact congrArg Prod.fst hf
  rw [hsh.at_ i hi hs] at e1
  obtain rfl : xs[i] = f := entD_inj e1
  unfold Oper.wp
  simp [execOp, hop, hm, hx, hrun, Result.andThen]
  exact hK' _ _ h

/-- 'out = append(out, e)', where there is room: the row grows in its place. -/
theorem wpList_app_room {ops : Array Oper} {rest : List Oper} {o : Oper} {act : Act} {Q : Exit → Act → World → Prop} (hgd : o.guard = none) (s x : Operand)
    (ho : o.op = .call { callee := .builtin .append, args := #[s, x], argTypes := #[24, 24] }) {w : World} {base g k cap : Nat} {xs : List EntV} (r : EntV) (hown : entSh.Own 71 w base (.slice (some ⟨g, 0, none⟩) k cap) xs) (hb : base ≤ w.heap.size) (hroom : k + 1 ≤ cap) (hcap : cap ≤ 1099511627776)
    {N : Nat} (hs : act.eval s = .slice (some ⟨g, 0, none⟩) k cap) (hx : act.eval x = .slice (some ⟨N, 0, none⟩) 1 1) (hN : w.heap.size = N)
    (h : ∀ w', entSh.Own 71 w' base (.slice (some ⟨g, 0, none⟩) (k + 1) cap) (xs ++ [r]) → (w.alloc (.cells #[.string r.key, .int .i64 r.seg, .int .i64 r.pos, .int .i64 r.len, .int .i64 r.bat] 71)).grownBy w' (some g) → wpList Tryz.prog ops Q rest (act.put o.dst (.slice (some ⟨g, 0, none⟩) (k + 1) cap)) w') :
    wpList Tryz.prog ops Q (o :: rest) act (w.alloc (.cells #[.string r.key, .int .i64 r.seg, .int .i64 r.pos, .int .i64 r.len, .int .i64 r.bat] 71)) := by
  subst hN
  obtain ⟨i0, hi, hz0, hz1, hz2⟩ := info_parts Tryz.infoEnt
  obtain rfl : xs.length = k := hown.len
  have hA : Below w.heap.size w (w.alloc (.cells (entSh.cells r).toArray 71)) := (Below.refl _ _).alloc (Nat.le_refl _) _
  have ho1 : (w.alloc (.cells (entSh.cells r).toArray 71)).ownsRow base 71 5 (.slice (some ⟨g, 0, none⟩) xs.length cap) xs.length (entSh.flat xs) := hown.later hA (Nat.le_refl _)
  have hsrc := (Shape.Row.single entSh 71 w r).src
  have hfl : (entSh.flat [r]).length = 1 * 5 := rfl
  refine wpList_plain hgd fun K hK => ?_
  obtain ⟨v', w', hr, h2, h3, -, -⟩ := run_append_own_at (P := Tryz.prog) (w.alloc (.cells (entSh.cells r).toArray 71)) base 24 o.type 71 i0 _ 5 48 Tryz.underlying24 hi hz0 hz1 hz2 rfl (by decide) _ xs.length _ ho1 ⟨w.heap.size, 0, none⟩ 1 1 (entSh.flat [r]) hfl hsrc (entSh.flat_one [r]) (by unfold maxLen; omega) (by omega) (Nat.le_trans hb hA.size)
  have hv : v' = .slice (some ⟨g, 0, none⟩) (xs.length + 1) cap := by
    rcases ho1.2 with ⟨e, -⟩ | ⟨g', cap', cur, e, -, hg', -, -, hcs, -⟩
    · cases e
    · simp only [Value.slice.injEq, Option.some.injEq, Addr.mk.injEq] at e
      obtain ⟨⟨rfl, -, -⟩, -, rfl⟩ := e
      have hr2 := run_append_room (P := Tryz.prog) (w.alloc (.cells (entSh.cells r).toArray 71)) 24 o.type 71 i0 Tryz.underlying24 hi g xs.length cap cur hg' ⟨w.heap.size, 0, none⟩ 1 1 (entSh.flat [r]) (by rw [hz1]; exact hfl) hsrc (entSh.flat_one [r]) hroom (by rw [hz1, hfl, hcs]; omega)
      rw [hr] at hr2
      injection hr2
  subst hv
  have hr' : (Builtin.append_ #[24, 24] o.type #[.slice (some ⟨g, 0, none⟩) xs.length cap, .slice (some ⟨w.heap.size, 0, none⟩) 1 1]).run Tryz.prog (w.alloc (.cells #[.string r.key, .int .i64 r.seg, .int .i64 r.pos, .int .i64 r.len, .int .i64 r.bat] 71)) = .ok (.slice (some ⟨g, 0, none⟩) (xs.length + 1) cap) w' := hr
  unfold Oper.wp execOp
  simp only [ho, resolve, invoke, builtin, Sem.run_bind, Sem.run_pure, Result.andThen_ok, List.map_toArray, List.map_cons, List.map_nil, hs, hx, hr']
  refine hK _ _ (h w' ?_ h3)
  unfold Shape.Own
  rw [List.length_append, entSh.flat_append]
  exact h2

theorem aliveZ_get (n : Nat) (s : Nat → Bool) (k : Nat) (h : k < (alive n s).length) (hz : k < (aliveZ n s).length) : (aliveZ n s)[k] = (((alive n s)[k] : Nat) : Int) := List.getElem_map _
theorem keptE_get (xs : List EntV) (s : Nat → Bool) (k : Nat) (h : k < (alive xs.length s).length) (hz : k < (keptE xs s).length) : (keptE xs s)[k] = xs.getD ((alive xs.length s)[k]) zeroE := List.getElem_map _
theorem size_alive {D : DataW Unit} {xs : List EntV} {s : Nat → Bool} {w : World} {B n : Nat} (h : PShows D xs s) (hown : w.ownsMap Tryz.prog 3 entElem B n D) : Maps.size D = (alive xs.length s).length := by
  have hp := (aliveZ_perm h hown).length_eq
  rw [aliveZ_len] at hp
  rw [hp]
  obtain ⟨es, rfl⟩ := h.map
  show es.length = (es.map _).length
  rw [List.length_map]

set_option maxRecDepth 100000 in
set_option maxHeartbeats 2000000 in
theorem implInPlace_any (w : World) (B nn : Nat) (xs : List EntV) (s : Nat → Bool) (h : POwn w B nn xs s) (hnn : nn ≤ 4194305) (hxs : xs.length ≤ 4194305) :
    Calls Tryz.prog 123 #[.map (some B)] w fun e w' => (e = .returned (.slice (some ⟨w.heap.size, 0, none⟩) (keptE xs s).length (keptE xs s).length) ∧ entSh.Own 71 w' w.heap.size (.slice (some ⟨w.heap.size, 0, none⟩) (keptE xs s).length (keptE xs s).length) (keptE xs s)) ∧ Below w.heap.size w w' := by
  have hBl := h.lt
  have HP := hide h
  have hkl : (keptE xs s).length = (alive xs.length s).length := List.length_map ..
  have hal := alive_len xs.length s
  obtain ⟨D, hown, hsh⟩ := h
  have HOWN := hide hown
  have HSZ := hide (size_alive hsh hown)
  obtain ⟨i0, hi, hz0, hz1, hz2⟩ := info_parts Tryz.infoEnt
  rw [hkl]
  have HKL := hide hkl
  obtain ⟨m, hm⟩ : ∃ m, (alive xs.length s).length = m := ⟨_, rfl⟩
  have HM := hide hm
  rw [hm] at hal HSZ HKL ⊢
  clear hown hsh hkl hm
  go_enter Tryz.func123, Tryz.ntmps123
  go_wp2_with (first
    | (at_len; refine wpList_len_own _ rfl _ 179 rfl 3 71 Tryz.underlying179 _ B nn D rfl HOWN.out ?_; rw [HSZ.out])
    | (at_make; refine wpList_make_own _ rfl _ _ 24 rfl w.heap.size 71 i0 _ 5 Tryz.underlying24 hi hz0 hz1 _ _ _ m rfl rfl rfl (by rw [hz2]; omega) (by unfold maxLen; omega) (Nat.le_refl _) ?_; intro w1 ho1 hg1))
  have HO1 : Hid (entSh.Own 71 w1 w.heap.size (.slice (some ⟨w.heap.size, 0, none⟩) 0 m) []) := hide ho1
  have HP1 := hide (HP.out.kept hg1 (by simp))
  have HB1 : Hid (Below w.heap.size w w1) := hide ((Below.refl _ _).grown hg1 (Nat.le_refl _) (fun j hj => by cases hj))
  have hl1 : w.heap.size < w1.heap.size := (HO1.out.blk w.heap.size rfl).2
  have HSO := hide (sortedP B nn xs s w1 HP1.out (by omega))
  have HMP : Hid (POwn (w1.alloc (.cells #[.map (some B)] 179)) B nn xs s) := hide (HP1.out.later (al1 _ _))
  have HO2 := hide (HO1.out.later (al1 w1 (.cells #[.map (some B)] 179)) (Nat.le_refl _))
  have HB2 := hide (HB1.out.alloc HB1.out.size (.cells #[.map (some B)] 179))
  clear ho1 hg1
  refine (keysP B w1).mono ?_
  rintro e w2 ⟨rfl, rfl⟩
  go_wp2_with fail
  refine HSO.out.mono ?_
  rintro e w3 ⟨v, rfl, hrow, hb3⟩
  rw [HM.out] at hrow
  have HI3 : Hid (IOwn w3 (w1.heap.size + 1) v (aliveZ xs.length s)) := hide (by unfold IOwn; rw [aliveZ_len, HM.out]; exact hrow)
  obtain ⟨sa, sc, rfl⟩ : ∃ a cap, v = .slice a m cap := by
    rcases hrow.2 with ⟨e, h0⟩ | ⟨g, c, cur, e, _⟩
    · exact ⟨none, 0, by rw [e, h0]⟩
    · exact ⟨_, _, e⟩
  have hb3' : Below (w1.alloc (.cells #[.map (some B)] 179)).heap.size (w1.alloc (.cells #[.map (some B)] 179)) w3 := by rw [World.size_alloc]; exact hb3
  have HP3 := hide (HMP.out.later hb3')
  have HO3 := hide (HO2.out.later hb3' (Nat.le_refl _))
  have HB3 := hide (HB2.out.trans (hb3'.mono HB2.out.size))
  clear hrow hb3 hb3' HSO HMP HO2 HB2 HO1 HP1 HB1 HOWN HSZ HP
  go_wp2
  go_loopw [3, 13] (fun v i wr => ∃ k : Nat, k ≤ m ∧ v = .slice (some ⟨w.heap.size, 0, none⟩) k m ∧ i = .int .i64 k ∧ Hid (entSh.Own 71 wr w.heap.size (.slice (some ⟨w.heap.size, 0, none⟩) k m) ((keptE xs s).take k)) ∧ Hid (POwn wr B nn xs s) ∧ Hid (IOwn wr (w1.heap.size + 1) (.slice sa m sc) (aliveZ xs.length s)) ∧ Hid (Below w.heap.size w wr)) (fun _ i _ => m - (nI i).toNat)
  case atStart => exact ⟨0, by omega, rfl, rfl, HO3, HP3, HI3, HB3⟩
  case round =>
    clear HO3 HP3 HI3 HB3
    obtain ⟨k, hk, rfl, rfl, HO, HP, HI, HB⟩ := hrel
    by_cases hlt : k < m
    · have hka : k < (alive xs.length s).length := by rw [HM.out]; exact hlt
      have hkz : k < (aliveZ xs.length s).length := by rw [aliveZ_len]; exact hka
      obtain ⟨b2, o2, rfl, -, hb2, e1⟩ := HI.out.row.cells k hkz
      obtain ⟨i, hi2⟩ : ∃ i, (alive xs.length s)[k] = i := ⟨_, rfl⟩
      have hz : (aliveZ xs.length s)[k] = (i : Int) := by rw [aliveZ_get _ _ _ hka, hi2]
      rw [hz] at e1
      obtain ⟨hix, his⟩ := alive_lt (show i ∈ alive xs.length s from hi2 ▸ List.getElem_mem hka)
      obtain ⟨z, hzz⟩ : ∃ z, xs[i] = z := ⟨_, rfl⟩
      have HE : Hid ((keptE xs s).take (k + 1) = (keptE xs s).take k ++ [z]) := hide (by
        have hkk : k < (keptE xs s).length := by rw [HKL.out]; exact hlt
        rw [List.take_succ_eq_append_getElem hkk]
        rw [keptE_get _ _ _ (by rw [HM.out]; exact hlt), hi2, ← hzz]
        simp [List.getD, hix])
      have HLK : Hid (∀ {ops : Array Oper} {rest : List Oper} {o : Oper} {a : Act} {Q : Exit → Act → World → Prop} (_ : o.guard = none) (mm x : Operand) (_ : o.op = Op.lookup 179 mm x false), a.eval mm = .map (some B) → a.eval x = .int .i64 (i : Int) → wpList Tryz.prog ops Q rest (a.put o.dst z.val) wr → wpList Tryz.prog ops Q (o :: rest) a wr) := hide (fun hg mm x hop hm hx h => wpList_lookup_ent hg mm x hop hm HP.out i hix his (by omega) hx (by rw [hzz]; exact h))
      have HSZ : Hid (w.heap.size ≤ wr.heap.size) := hide HB.out.size
      have hm1 : m ≤ 1099511627776 := by omega
      clear hi2 hz hzz his hka hkz
      go_wp2_with (first
        | (at_lookup; refine HLK.out rfl _ _ rfl rfl rfl ?_; simp only [EntV.val])
        | (at_builtin; refine wpList_app_room rfl _ _ rfl z HO.out HSZ.out (by omega) hm1 rfl rfl rfl ?_; intro w4 ho4 hg4))
      have HA := hide (al1 wr (.cells #[.string z.key, .int .i64 z.seg, .int .i64 z.pos, .int .i64 z.len, .int .i64 z.bat] 71))
      have HP4 := hide ((HP.out.later HA.out).kept hg4 (by intro e; injection e with e; omega))
      have HI4 : Hid (IOwn w4 (w1.heap.size + 1) (.slice (some ⟨b2, o2, none⟩) m sc) (aliveZ xs.length s)) := hide (World.ownsRow.kept (HI.out.later HA.out (Nat.le_refl _)) hg4 (by
        cases q : (Value.slice (some ⟨b2, o2, none⟩) m sc).ownBlock with
        | none => exact .inl rfl
        | some g =>
          refine .inr (fun e => ?_)
          injection e with e
          have := (HI.out.blk g q).1
          omega))
      have HB4 := hide ((HB.out.trans (HA.out.mono HB.out.size)).grown hg4 (Nat.le_trans HB.out.size HA.out.size) (fun j hj => by injection hj with hj; omega))
      have HO4 := hide ho4
      clear ho4 hg4 HA HP HI HB HO HLK
      go_roundw
      case rel => exact ⟨k + 1, by omega, rfl, by go_num, by rw [HE.out]; exact HO4, HP4, HI4, HB4⟩
      case measure => first | (simp [nI]; done) | (simp [nI]; omega)
    · obtain rfl : k = m := by omega
      have HT : Hid ((keptE xs s).take k = keptE xs s) := hide (List.take_of_length_le (by rw [HKL.out]; exact Nat.le_refl _))
      go_wp2
      go_ret
      exact ⟨⟨rfl, by have h := HO.out; rw [HT.out] at h; exact h⟩, HB.out⟩

set_option maxRecDepth 100000 in
set_option maxHeartbeats 2000000 in
theorem implDrop_any (w : World) (a : Option Addr) (n cap : Nat) (xs : List EntV) (key : ByteArray) (hr : entSh.Row w a n xs) (hn : n ≤ 4194305) :
    Calls Tryz.prog 114 #[.slice a n cap, .string key] w fun e w' => (∃ g, e = .returned (.slice (some ⟨g, 0, none⟩) (dropE xs key).length (dropE xs key).length) ∧ entSh.Own 71 w' w.heap.size (.slice (some ⟨g, 0, none⟩) (dropE xs key).length (dropE xs key).length) (dropE xs key)) ∧ Below w.heap.size w w' := by
  have hlen := hr.len
  have HR := hide hr
  have HBP := hide (implByPlace_any w a n cap xs hr hn)
  clear hr
  go_enter Tryz.func114, Tryz.ntmps114
  go_wp2_with fail
  refine HBP.out.mono ?_
  rintro e w1 ⟨⟨rfl, hp1⟩, hb1⟩
  have HP1 : Hid (POwn w1 w.heap.size n xs (fun j => decide (¬ (j < 0 ∧ (xs.getD j zeroE).key = key)))) := hide (by
    obtain ⟨D, h1, h2⟩ := hp1
    exact ⟨D, h1, h2.same (fun j hj => decide_eq_true (by omega))⟩)
  have HB1 := hide hb1
  clear hp1 hb1 HBP
  go_wp2
  go_loopw [12] (fun i wr => ∃ k : Nat, k ≤ n ∧ i = .int .i64 k ∧ Hid (POwn wr w.heap.size n xs (fun j => decide (¬ (j < k ∧ (xs.getD j zeroE).key = key)))) ∧ Hid (Below w.heap.size w wr)) (fun i _ => n - (nI i).toNat)
  case atStart => exact ⟨0, by omega, rfl, HP1, HB1⟩
  case round =>
    clear HP1 HB1
    obtain ⟨k, hk, rfl, HP, HB⟩ := hrel
    by_cases hlt : k < n
    · have hkf : k < xs.length := by omega
      obtain ⟨b, off, rfl, hbw, e0, e1, e2, e3, e4⟩ := ent_cells (HR.out.later HB.out) k hkf
      have hgd : xs.getD k zeroE = xs[k] := by simp [List.getD, hkf]
      have hB := HP.out.lt
      by_cases hq : (xs[k]).key = key
      · have t1 := str_eq _ _ hq
        obtain ⟨D, hown, hsh⟩ := HP.out
        have HOW := hide (hown.alloc (.cells #[.string (xs[k]).key, .int .i64 (xs[k]).seg, .int .i64 (xs[k]).pos, .int .i64 (xs[k]).len, .int .i64 (xs[k]).bat] 71))
        have HSH := hide hsh
        have HDK : Hid (∀ j, decide (¬ (j < k + 1 ∧ (xs.getD j zeroE).key = key)) = true ↔ (decide (¬ (j < k ∧ (xs.getD j zeroE).key = key)) = true ∧ j ≠ k)) := hide (fun j => by
          simp only [decide_eq_true_eq]
          constructor
          · intro h
            refine ⟨fun h2 => h ⟨by omega, h2.2⟩, fun e => h ⟨by omega, by rw [e, hgd]; exact hq⟩⟩
          · rintro ⟨h1, h2⟩ ⟨h3, h4⟩
            exact h1 ⟨by omega, h4⟩)
        have HKEY : Hid (keyOf Tryz.prog 3 (.int .i64 (k : Int)) = some (litP k)) := hide (keyOf_int_mk Tryz.underlying3 (by simp [Lit.wf, show IntKind.i64.min = -9223372036854775808 from rfl, show IntKind.i64.max = 9223372036854775807 from rfl]; omega))
        obtain ⟨z, hz⟩ : ∃ z, xs[k] = z := ⟨_, rfl⟩
        rw [hz] at e0 e1 e2 e3 e4 t1 HOW
        clear hown hsh HP hq hgd hz
        have HBA := hide (HB.out.alloc HB.out.size (.cells #[.string z.key, .int .i64 z.seg, .int .i64 z.pos, .int .i64 z.len, .int .i64 z.bat] 71))
        go_wp2_with (at_delete; refine wpList_delete_own _ rfl _ _ 179 3 rfl 71 keyLawP Tryz.underlying179 _ w.heap.size n D rfl HOW.out _ _ rfl HKEY.out ?_; intro w2 hown2 hturn2)
        have HP2 : Hid (POwn w2 w.heap.size n xs (fun j => decide (¬ (j < k + 1 ∧ (xs.getD j zeroE).key = key)))) := hide ⟨_, hown2, HSH.out.del k HDK.out hown2.isMap⟩
        have HB2 : Hid (Below w.heap.size w w2) := hide (HBA.out.grown hturn2.grown HBA.out.size (fun j hj => by cases hj; exact Nat.le_refl _))
        clear hown2 hturn2 HOW HSH HDK HBA HB
        go_roundw
        case rel => exact ⟨k + 1, by omega, by go_num, HP2, HB2⟩
        case measure => first | (simp [nI]; done) | (simp [nI]; omega)
      · have t1 := str_ne _ _ hq
        have HPN : Hid (POwn (wr.alloc (.cells #[.string (xs[k]).key, .int .i64 (xs[k]).seg, .int .i64 (xs[k]).pos, .int .i64 (xs[k]).len, .int .i64 (xs[k]).bat] 71)) w.heap.size n xs (fun j => decide (¬ (j < k + 1 ∧ (xs.getD j zeroE).key = key)))) := hide (by
          obtain ⟨D, hown, hsh⟩ := HP.out
          refine ⟨D, hown.alloc _, hsh.same (fun j hj => ?_)⟩
          apply decide_eq_decide.2
          constructor
          · intro h h2
            exact h ⟨by omega, h2.2⟩
          · rintro h ⟨h2, h3⟩
            by_cases e : j = k
            · rw [e, hgd] at h3; exact hq h3
            · exact h ⟨by omega, h3⟩)
        have HBN := hide (HB.out.alloc HB.out.size (.cells #[.string (xs[k]).key, .int .i64 (xs[k]).seg, .int .i64 (xs[k]).pos, .int .i64 (xs[k]).len, .int .i64 (xs[k]).bat] 71))
        obtain ⟨z, hz⟩ : ∃ z, xs[k] = z := ⟨_, rfl⟩
        rw [hz] at e0 e1 e2 e3 e4 t1 HPN HBN
        clear hq hgd hz HP HB
        go_wp2
        go_roundw
        case rel => exact ⟨k + 1, by omega, by go_num, HPN, HBN⟩
        case measure => first | (simp [nI]; done) | (simp [nI]; omega)
    · obtain rfl : k = n := by omega
      have HIP := hide (implInPlace_any wr w.heap.size k xs _ HP.out (by omega) (by omega))
      have HKD := hide (keptE_drop xs key (fun j => decide (¬ (j < k ∧ (xs.getD j zeroE).key = key))) (fun i hi => decide_eq_decide.2 ⟨fun h h2 => h ⟨by omega, h2⟩, fun h h2 => h h2.2⟩))
      rw [HKD.out] at HIP
      clear HKD HP
      go_wp2_with fail
      refine HIP.out.mono ?_
      rintro e w3 ⟨⟨rfl, ho3⟩, hb3⟩
      have HO3 := hide (ho3.mono HB.out.size)
      have HB3 := hide (HB.out.trans (hb3.mono HB.out.size))
      clear ho3 hb3 HIP
      go_wp2
      go_ret
      exact ⟨⟨_, rfl, HO3.out⟩, HB3.out⟩

end Go.Proofs.YtimpokbcfjgdaaaGreatDoor
