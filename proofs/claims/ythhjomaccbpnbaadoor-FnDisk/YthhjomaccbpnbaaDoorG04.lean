/-
  Files sorted by their names with slices.SortFunc: cmp.Compare at texts, the closure of impl.inOrder, and what the row holds behind the sort. impl.inOrder: the files of a map, in the order of their names, in new memory. impl.copyDisk: the same disk in new memory. What impl.step asks of a change, and what it answers. Lists of files: one put in the place of another, one gone, and their order. What the other five changes answer, as lists of files and codes, and how their answers come to those of spec's steps. spec.FileText. What the six steps keep: a right disk stays right; what the files' texts are behind Append, Remove and Rename. spec.DiskNew: an empty disk of that room, or the zero disk. spec.l3Disk: a right disk of 200 bytes, drawn by up to eleven steps.
-/
import Derived.Test.YthhjomaccbpnbaaDoorG02
import Derived.Test.YthhjomaccbpnbaaDoorMSpecs
import Derived.Sort.EncStr
import Derived.Sort.OwnSorted
import Derived.Test.YthhjomaccbpnbaaDoorG00
namespace Go.Proofs.YthhjomaccbpnbaaDoor
open Go.RowKit Go.Maps Go.Shelf Go.Lib
open Go.Sort hiding Below
open Plain

set_option maxRecDepth 100000 in
set_option maxHeartbeats 1000000 in
theorem ordC_any (x y : FileV) (W : World) : Calls Tryd.prog 61 #[.agg #[.string x.name, .string x.text, .int .i64 x.safe], .agg #[.string y.name, .string y.text, .int .i64 y.safe]] W fun e w' => e = .returned (.int .i64 (cmpB x.name y.name)) ∧ ∃ q os', w' = grow (W.drewN q) os' := by
  have hcon := fun W' => cmpS_any x.name y.name W'
  generalize cmpB x.name y.name = r at hcon ⊢
  go_enter Tryd.func61, Tryd.ntmps61
  go_wp2_with (go_at_call 38; refine (hcon _).mono ?_; rintro e w' ⟨rfl, rfl⟩)
  go_ret
  exact ⟨rfl, 0, _, by rw [alloc_eq_grow, alloc_eq_grow, grow_grow]; rfl⟩

theorem lt_names (x y : FileV) : ltOf (fun x y : FileV => cmpB x.name y.name) x y = decide (x.name.data.toList < y.name.data.toList) := by
  unfold ltOf cmpB
  simp only [bytesLess_lt, tl]
  by_cases h1 : x.name.data.toList < y.name.data.toList
  · simp [h1]
  · by_cases h2 : y.name.data.toList < x.name.data.toList <;> simp [h1, h2]
theorem swo_names : SWO (ltOf fun x y : FileV => cmpB x.name y.name) where
  irrefl x := by rw [lt_names]; simp [List.lt_irrefl]
  trans x y z h1 h2 := by
    rw [lt_names] at *
    exact decide_eq_true (List.lt_trans (of_decide_eq_true h1) (of_decide_eq_true h2))
  ntrans x y z h1 h2 := by
    rw [lt_names] at *
    exact decide_eq_false (List.not_lt.2 (List.le_trans (List.not_lt.1 (of_decide_eq_false h2)) (List.not_lt.1 (of_decide_eq_false h1))))

theorem flat_fcells [Inhabited FileV] (d : Array FileV) : (flatK FileV.cells 3 d).toList = fcells d.toList := by
  apply List.ext_getElem?
  intro j
  by_cases hj : j < d.size * 3
  · have hi : j / 3 < d.toList.length := by simp; omega
    have hg := fcells_get d.toList (j / 3) hi
    have hd : d[j / 3]! = d.toList[j / 3] := by rw [getElem!_pos d (j / 3) (by simpa using hi)]; simp
    have e1 : (flatK FileV.cells 3 d).toList[j]? = some ((FileV.cells d[j / 3]!)[j % 3]!) := by simp [flatK, hj]
    rw [e1, hd]
    have h3 : j % 3 < 3 := Nat.mod_lt _ (by omega)
    rcases (by omega : j % 3 = 0 ∨ j % 3 = 1 ∨ j % 3 = 2) with h | h | h
    · have e : j = j / 3 * 3 := by omega
      rw [h, show (fcells d.toList)[j]? = (fcells d.toList)[j / 3 * 3]? by rw [← e], hg.1]
      rfl
    · have e : j = j / 3 * 3 + 1 := by omega
      rw [h, show (fcells d.toList)[j]? = (fcells d.toList)[j / 3 * 3 + 1]? by rw [← e], hg.2.1]
      rfl
    · have e : j = j / 3 * 3 + 2 := by omega
      rw [h, show (fcells d.toList)[j]? = (fcells d.toList)[j / 3 * 3 + 2]? by rw [← e], hg.2.2]
      rfl
  · rw [List.getElem?_eq_none (by simp; omega), List.getElem?_eq_none (by rw [fcells_length]; simp; omega)]
theorem holds_own [Inhabited FileV] {w : World} {base g n cap : Nat} {fs : List FileV} (h : FOwn w base (.slice (some ⟨g, 0, none⟩) n cap) fs) : HoldsK FileV.cells 3 w g 0 fs.toArray := by
  have hn := h.len
  intro j hj
  rw [size_flatK] at hj
  have hj' : j < fs.length * 3 := by simpa using hj
  unfold FOwn at h
  rw [hn] at h
  have hf := flat_fcells fs.toArray
  have e : (flatK FileV.cells 3 fs.toArray)[j]! = (fcells fs)[j]! := by
    rw [← Array.getElem!_toList, hf]
  refine ⟨?_, ?_⟩
  · rw [Nat.zero_add, h.cellAt j (by omega), id, e, List.getElem!_eq_getElem?_getD, List.getElem?_eq_getElem (by rw [fcells_length]; exact hj')]
    rfl
  · rw [Nat.zero_add]
    exact h.frozenAt j
theorem own_sorted [Inhabited FileV] {w : World} {base g n cap q : Nat} {os : Array Obj} {fs gs : List FileV} (h : FOwn w base (.slice (some ⟨g, 0, none⟩) n cap) fs) (hl : gs.length = fs.length) :
    FOwn (sortWorldK FileV.cells 3 w g 0 q gs.toArray os) base (.slice (some ⟨g, 0, none⟩) n cap) gs ∧ w.grownBy (sortWorldK FileV.cells 3 w g 0 q gs.toArray os) (some g) := by
  have hn := h.len
  refine ⟨⟨by rw [fcells_length], ?_⟩, ?_⟩
  · rcases h.2 with ⟨e, _⟩ | ⟨g', c', cur, e, h1, h2, h3, h4, h5, h6⟩
    · cases e
    · simp only [Value.slice.injEq, Option.some.injEq, Addr.mk.injEq] at e
      obtain ⟨⟨rfl, _⟩, _, rfl⟩ := e
      refine .inr ⟨g, cap, putCells id 0 (flatK FileV.cells 3 gs.toArray) cur, by rw [hl, hn], h1, ?_, by omega, h4, by simp [putCells, h5], ?_⟩
      · have hg : g < w.heap.size := (Array.getElem?_eq_some_iff.1 h2).1
        unfold sortWorldK putRowK
        rw [heap_grow_old _ _ (by simpa [putRow, mapBlock] using hg)]
        simp [putRow, mapBlock, Sort.ahead, Array.getElem?_modify, h2, onCells]
      · rw [← flat_fcells gs.toArray]
        apply List.ext_getElem?
        intro j
        by_cases hj : j < gs.length * 3
        · rw [List.getElem?_take_of_lt hj, Array.getElem?_toList, Array.getElem?_toList]
          have hc : j < cur.size := by rw [h5]; omega
          have hf : j < (flatK FileV.cells 3 gs.toArray).size := by rw [size_flatK]; simpa using hj
          rw [Array.getElem?_eq_getElem hf, ← getElem!_pos (flatK FileV.cells 3 gs.toArray) j hf]
          simp [putCells, hc, hj]
        · rw [List.getElem?_take_eq_none (by omega), List.getElem?_eq_none (by simp; omega)]
  · refine ⟨rfl, rfl, rfl, by simp [sortWorldK, putRowK, putRow, mapBlock], fun k hk hne => ?_⟩
    unfold sortWorldK putRowK
    rw [heap_grow_old _ _ (by simpa [putRow, mapBlock] using hk)]
    have : g ≠ k := fun e => hne (by rw [e])
    simp [putRow, mapBlock, Sort.ahead, Array.getElem?_modify, this]

theorem cmpLays [Inhabited FileV] (blk off size : Nat) (w : World) : CmpLays Tryd.prog 61 #[] FileV.cells 3 (fun x y => cmpB x.name y.name) blk off size w := fun _ _ _ _ x y => ordC_any x y _

/-- slices.SortFunc by the names, over a row of the call's own. -/
theorem sort_any (w : World) (base : Nat) (a : Option Addr) (n cap : Nat) (fs : List FileV) (h : FOwn w base (.slice a n cap) fs) (hn : n ≤ 1048576) :
    Calls Tryd.prog 60 #[.slice a n cap, .func (.func 61) #[] #[]] w fun e w' => e = .returned (.tuple #[]) ∧ (∃ gs : List FileV, gs.Perm fs ∧ gs.Pairwise (fun f g => ¬ g.name.data.toList < f.name.data.toList) ∧ FOwn w' base (.slice a n cap) gs) ∧ w.grownBy w' (Value.slice a n cap).ownBlock := by
  haveI : Inhabited FileV := ⟨zeroF⟩
  have hl := h.len
  by_cases h0 : n = 0
  · subst h0
    have hfs : fs = [] := List.length_eq_zero_iff.1 hl
    subst hfs
    refine (AnyF.slices_SortFunc_none Tryd.laysSort a cap (.func (.func 61) #[] #[]) w).mono ?_
    rintro e w' ⟨rfl, rfl⟩
    exact ⟨rfl, ⟨[], List.Perm.nil, List.Pairwise.nil, h⟩, ⟨rfl, rfl, rfl, Nat.le_refl _, fun _ _ _ => rfl⟩⟩
  · obtain ⟨g, rfl⟩ : ∃ g, a = some ⟨g, 0, none⟩ := by
      rcases h.2 with ⟨e, h1⟩ | ⟨g, c, cur, e, _⟩
      · simp only [Value.slice.injEq] at e; omega
      · simp only [Value.slice.injEq] at e
        exact ⟨g, e.1⟩
    have hblk : g < w.heap.size := (h.blk g rfl).2
    have hcon := AnyQ.slices_SortFunc Tryd.laysSort 3 Tryd.isAgg51 Tryd.sizeOf51 FileV.cells (fun _ => rfl) (fun x v hv => by simp [FileV.cells] at hv; rcases hv with rfl | rfl | rfl <;> rfl) (fun x y => cmpB x.name y.name) swo_names 61 #[] g 0 cap fs.toArray w (enters_of Tryd.func61 (by kernel_rfl) rfl) (cmpLays g 0 _ w) (holds_own h) hblk (by simp; omega)
    simp only [List.size_toArray, hl] at hcon
    refine Calls.mono hcon ?_
    rintro e w' ⟨rfl, d', q, os, hp, hs, rfl⟩
    have hd : d'.size = n := by rw [hp.1]; simpa using hl
    have he : d' = d'.toList.toArray := by simp
    have ho := own_sorted (q := q) (os := os) (gs := d'.toList) h (by simp [hd, hl])
    rw [← he] at ho
    refine ⟨rfl, ⟨d'.toList, ?_, ?_, ho.1⟩, ho.2⟩
    · have h2 := hp.2.2
      rw [Array.extract_eq_self_of_le (by omega), Array.extract_eq_self_of_le (by simp; omega)] at h2
      simpa using h2
    · rw [List.pairwise_iff_getElem]
      intro i j hi hj hij hlt
      have h3 := hs i j (Nat.zero_le _) hij (by simpa [hd] using hj)
      rw [lt_names, getElem!_pos d' j (by simpa using hj), getElem!_pos d' i (by simpa using hi)] at h3
      exact absurd (by simpa using hlt) (of_decide_eq_false h3)

end Go.Proofs.YthhjomaccbpnbaaDoor
namespace Go.Proofs.YthhjomaccbpnbaaDoor
open Go.RowKit Go.Maps
open Plain

/-- What has been met of the map's files: no two of one name; just those that are no longer to come. -/
def Met (S : List FileV) (left : Lit → Bool) (ls : List FileV) : Prop := ls.Pairwise (fun f g => f.name ≠ g.name) ∧ ∀ f, f ∈ ls ↔ (f ∈ S ∧ left (litN f) = false)
theorem Met.start {D : DataW Unit} {S : List FileV} (h : Shows D S) : Met S (has D) [] := ⟨List.Pairwise.nil, fun f => by
  constructor
  · intro hf; simp at hf
  · rintro ⟨h1, h2⟩
    have h3 : has D (litN f) = true := (h.has_ f.name).2 ⟨f, h1, rfl⟩
    rw [h3] at h2
    cases h2⟩
theorem Met.step {S : List FileV} {left : Lit → Bool} {ls : List FileV} (hS : S.Pairwise (fun f g => f.name ≠ g.name)) (h : Met S left ls) {f : FileV} (hf : f ∈ S) (hl : left (litN f) = true) : Met S (fun z => left z && !z.sameKey (litN f)) (ls ++ [f]) := by
  refine ⟨List.pairwise_append.2 ⟨h.1, by simp, fun a ha b hb => ?_⟩, fun g => ?_⟩
  · obtain rfl : b = f := by simpa using hb
    intro e
    have h1 := (h.2 a).1 ha
    have : a = b := apart_eq hS h1.1 hf e
    rw [this, hl] at h1
    exact absurd h1.2 (by simp)
  · by_cases e : g = f
    · subst e
      have : (litN g).sameKey (litN g) = true := WideAt.sameKey_self (litN_key g)
      simp [hf, this]
    · by_cases en : g.name = f.name
      · constructor
        · intro hg
          rcases List.mem_append.1 hg with hg | hg
          · exact absurd (apart_eq hS ((h.2 g).1 hg).1 hf en) e
          · exact absurd (by simpa using hg) e
        · rintro ⟨h1, -⟩
          exact absurd (apart_eq hS h1 hf en) e
      · have : (litN g).sameKey (litN f) = false := sameKey_ne (lit_ne en)
        simp [h.2 g, this, e]
theorem Met.perm {S : List FileV} {left : Lit → Bool} {ls : List FileV} (hS : S.Pairwise (fun f g => f.name ≠ g.name)) (h : Met S left ls) (hl : ∀ kl, left kl = false) : ls.Perm S :=
  (List.perm_ext_iff_of_nodup (h.1.imp (fun {_ _} hne e => hne (by rw [e]))) (hS.imp (fun {_ _} hne e => hne (by rw [e])))).2 (fun f => by rw [h.2 f, hl]; simp)
/-- A file of the map, as its reading tells it. -/
theorem Shows.told {D : DataW Unit} {S : List FileV} (h : Shows D S) {f : FileV} (ha : ∀ zd, D.atKey (litN f) zd = fileD f) : f ∈ S := by
  have hh : has D (litN f) = true := has_true_of_atKey ha
  obtain ⟨g, hg, e⟩ := (h.has_ f.name).1 hh
  have h1 := h.at_ g hg .nil
  have e2 : litN g = litN f := by unfold litN; rw [e]
  rw [e2, ha] at h1
  rw [fileD_inj h1]
  exact hg

/-- 'out = append(out, f)', out a row of the call's own: what has turned is that row alone. -/
theorem wpList_app_row {ops : Array Oper} {rest : List Oper} {o : Oper} {act : Act} {Q : Exit → Act → World → Prop} (hgd : o.guard = none) (s x : Operand)
    (ho : o.op = .call { callee := .builtin .append, args := #[s, x], argTypes := #[24, 24] }) {w : World} {base : Nat} {v : Value} {fs : List FileV} (hown : FOwn w base v fs) (hb : base ≤ w.heap.size)
    (f : FileV) (hn : fs.length + 1 ≤ 1099511627776) (hs : act.eval s = v) (hx : act.eval x = .slice (some ⟨w.heap.size, 0, none⟩) 1 1)
    (h : ∀ a' cap' w', FOwn w' base (.slice a' (fs.length + 1) cap') (fs ++ [f]) → (w.alloc (.cells #[.string f.name, .string f.text, .int .i64 f.safe] 51)).grownBy w' v.ownBlock → wpList Tryd.prog ops Q rest (act.put o.dst (.slice a' (fs.length + 1) cap')) w') :
    wpList Tryd.prog ops Q (o :: rest) act (w.alloc (.cells #[.string f.name, .string f.text, .int .i64 f.safe] 51)) := by
  have hA : Below w.heap.size w (w.alloc (.cells #[.string f.name, .string f.text, .int .i64 f.safe] 51)) := (Below.refl _ _).alloc (Nat.le_refl _) _
  refine wpList_app_files hgd s x ho (hown.later hA (Nat.le_refl _)) (by simp; omega) (row_one w f) hn hs hx ?_
  intro a' n' cap' w' hn' hown' hg
  subst hn'
  exact h a' cap' w' hown' hg

set_option maxRecDepth 100000 in
set_option maxHeartbeats 400000 in
theorem implInOrder_any (w : World) (B n : Nat) (S R : List FileV) (hm : MOwn w B n S) (hn : n ≤ 1000) (hR : Rising R) (hp : R.Perm S) :
    Calls Tryd.prog 50 #[.map (some B)] w fun e w' => (∃ a' cap', e = .returned (.slice a' R.length cap') ∧ FOwn w' w.heap.size (.slice a' R.length cap') R) ∧ Below w.heap.size w w' := by
  obtain ⟨D, hown, hsh⟩ := hm
  have hsz := hown.size_le
  have hS : S.length ≤ n := by rw [← hsh.size]; exact hsz
  have HO := hide hown
  have HSH := hide hsh
  have HSZ := hide hsh.size
  obtain ⟨i0, hi, hz0, hz1, hz2⟩ := info_parts Tryd.infoF
  have HP := hide hp
  have HRi := hide hR
  have hB := hown.lt
  clear hown hsh hp hR
  go_enter Tryd.func50, Tryd.ntmps50
  go_wp2_with (first
    | (at_len; refine wpList_len_own _ rfl _ 47 rfl 9 51 Tryd.underlying47 _ B n D rfl HO.out ?_)
    | (at_make; refine wpList_make_own _ rfl _ _ 24 rfl w.heap.size 51 i0 _ 3 Tryd.underlying24 hi hz0 hz1 _ _ _ (Maps.size D) rfl rfl rfl (by rw [hz2]; omega) (by unfold maxLen; omega) (Nat.le_refl _) ?_; intro w1 ho1 hg1)
    | (at_range; refine wpList_range_own _ rfl _ 47 rfl 9 51 keyLaw Tryd.underlying47 _ B n _ rfl (HO.out.kept hg1 (by simp)) ?_; intro w0 hrg0 hg0 hs0)
    | go_in)
  go_frame
  have HO0 : Hid (FOwn w0 w.heap.size (.slice (some ⟨w.heap.size, 0, none⟩) 0 (Maps.size D)) []) := hide (ho1.kept hg0 (Or.inr (by simp [Value.ownBlock])))
  have HB0 : Hid (Below w.heap.size w w0) := hide (((Below.refl _ _).grown hg1 (Nat.le_refl _) (fun j hj => by cases hj)).grown hg0 hg1.size (fun j hj => by cases hj))
  have HRG0 := hide hrg0
  have hr1 : w.heap.size ≤ w1.heap.size := hg1.size
  obtain ⟨r, hr⟩ : ∃ r, w1.heap.size = r := ⟨_, rfl⟩
  rw [hr] at HRG0 hr1 ⊢
  clear hrg0 hg0 hs0 ho1 hg1 hr
  go_loopw [3] (fun v wr => ∃ (left : Lit → Bool) (cnt : Nat) (ls : List FileV) (a' : Option Addr) (cap' : Nat), v = .slice a' ls.length cap' ∧ ls.length + cnt ≤ Maps.size D ∧ Hid (wr.ranges Tryd.prog 9 fileElem B r n D left cnt) ∧ Hid (Met S left ls) ∧ Hid (FOwn wr w.heap.size (.slice a' ls.length cap') ls) ∧ Hid (Below w.heap.size w wr))
    (fun _ wr => wr.rangeLeft B r)
  case atStart => exact ⟨_, _, [], _, _, rfl, by simp, HRG0, hide (Met.start HSH.out), HO0, HB0⟩
  case round =>
    clear HO0 HB0 HRG0
    obtain ⟨left, cnt, ls, a', cap', rfl, hcs, HRG, HMET, HOW, HB⟩ := hrel
    go_wp2_with (first
      | (at_next; refine wpList_next_ranges _ rfl _ rfl 9 keyLaw fileElem Go.Proofs.encStr FileV.val (fun key kl hk => by obtain ⟨x, hx, _⟩ := Maps.keyOf_str Tryd.underlying9 hk; exact ⟨x, hx⟩) (fun v y hv => by obtain ⟨f, rfl, _⟩ := fileElem_inv hv; exact ⟨f, rfl⟩) B r n _ _ _ rfl HRG.out ?_ ?_)
      | go_in)
    · intro hc0 hl0
      have HPM := hide (HMET.out.perm HSH.out.apart hl0)
      have HLS : Hid (ls.length = R.length) := hide (by rw [HPM.out.length_eq, HP.out.length_eq])
      have HST := hide (sort_any wr w.heap.size a' ls.length cap' ls HOW.out (by omega))
      clear hc0 hl0
      go_wp2_with fail
      refine HST.out.mono ?_
      rintro e w' ⟨rfl, ⟨gs, hgp, hgs, hgo⟩, hgr⟩
      have HE : Hid (gs = R) := hide (HRi.out.eq_of (hgp.trans (HPM.out.trans HP.out.symm)) hgs)
      have HGO := hide hgo
      have HGR := hide hgr
      clear hgp hgs hgo hgr HST
      go_wp2
      go_ret
      have h1 := HGO.out
      rw [HE.out] at h1
      refine ⟨⟨a', cap', by rw [← HLS.out]; rfl, by rw [← HLS.out]; exact h1⟩, HB.out.grown HGR.out HB.out.size (fun j hj => ?_)⟩
      exact (HOW.out.blk j hj).1
    · intro x c kl yd yp w2 cnt2 hkey hlk hv hat hrg2 hlt hg2 hs2 hen
      obtain ⟨x', ex, rfl, _⟩ := Maps.keyOf_str Tryd.underlying9 hkey
      obtain rfl : x = x' := encStr_inj ex
      obtain rfl : yd = fileD c := by rw [fileElem_mk] at hv; simp at hv; exact hv.1.symm
      have hcx : litN c = .string x := by
        have hh : has D (.string x) = true := has_true_of_atKey hat
        obtain ⟨g, hg, e⟩ := (HSH.out.has_ ⟨x.toArray⟩).1 (by simpa using hh)
        have e2 : litN g = .string x := by unfold litN; rw [e]
        have h1 := HSH.out.at_ g hg .nil
        rw [e2, hat] at h1
        rw [fileD_inj h1, e2]
      have HCM : Hid (Met S (fun z => left z && !z.sameKey (.string x)) (ls ++ [c])) := hide (by
        rw [← hcx] at hat hlk ⊢
        exact HMET.out.step HSH.out.apart (HSH.out.told hat) hlk)
      have HRG2 := hide hrg2
      have HO2 : Hid (FOwn w2 w.heap.size (.slice a' ls.length cap') ls) := hide (HOW.out.kept hg2 (Or.inr (row_ne_iter HOW.out HRG.out).symm))
      have HB2 : Hid (Below w.heap.size w w2) := hide (HB.out.grown hg2 HB.out.size (fun j hj => by cases hj; exact hr1))
      have hsw : w.heap.size ≤ w2.heap.size := HB2.out.size
      have HLT := hide hlt
      simp only [FileV.val] at hen ⊢
      clear hkey hlk hv hat hrg2 hg2 hs2 hcx ex hlt
      have HOB := hide (HO2.out.later ((Below.refl _ w2).alloc (Nat.le_refl _) (.cells #[.string c.name, .string c.text, .int .i64 c.safe] 51)) (Nat.le_refl _))
      go_wp2_with (first
        | (at_builtin; refine wpList_app_row rfl (.tmp 15) (.tmp 17) rfl HOB.out (by simp; omega) c (by omega) rfl (by rw [size_alloc]; rfl) ?_; intro a3 cap3 w3 ho3 hg3; go_frame)
        | go_in)
      have HRG3 : Hid (w3.ranges Tryd.prog 9 fileElem B r n D (fun z => left z && !z.sameKey (.string x)) cnt2) := hide (((HRG2.out.alloc _).alloc _).kept hg3 (row_ne_low HO2.out hB) (row_ne_iter HO2.out HRG2.out))
      have HB3 : Hid (Below w.heap.size w w3) := hide (((HB2.out.alloc HB2.out.size _).alloc (by simp; omega) _).grown hg3 (by simp; omega) (fun j hj => (HO2.out.blk j hj).1))
      have HO3 := hide ho3
      clear ho3 hg3 hen
      go_roundw
      case rel => exact ⟨_, cnt2, ls ++ [c], a3, cap3, by simp, by have := HLT.out; simp; omega, HRG3, HCM, by simpa using HO3, HB3⟩
      case measure => rw [HRG3.out.left_eq, HRG.out.left_eq]; exact HLT.out

end Go.Proofs.YthhjomaccbpnbaaDoor
namespace Go.Proofs.YthhjomaccbpnbaaDoor
open Go.RowKit
open Plain

theorem FRow.none_nil {w : World} {base n : Nat} {fs : List FileV} (h : FRow w base none n fs) : n = 0 ∧ fs = [] := by
  have hf : fs = [] := by
    cases fs with
    | nil => rfl
    | cons f r =>
      obtain ⟨b, off, e, _⟩ := h.cells 0 (by simp)
      cases e
  exact ⟨by rw [← h.len, hf]; rfl, hf⟩

/-- slices.Clone at files. -/
theorem clone_any (w : World) (a : Option Addr) (n cap : Nat) (fs : List FileV) (ha : a = none ∨ ∃ g, a = some ⟨g, 0, none⟩) (hr : FRow w 0 a n fs) (hn : n ≤ 1048576) :
    Calls Tryd.prog 57 #[.slice a n cap] w fun e w' => (∃ a' cap', e = .returned (.slice a' n cap') ∧ FOwn w' w.heap.size (.slice a' n cap') fs) ∧ Below w.heap.size w w' := by
  have hl := hr.len
  rcases ha with rfl | ⟨g, rfl⟩
  · obtain ⟨rfl, rfl⟩ := hr.none_nil
    refine (AnyE.slices_Clone_nil Tryd.laysClone 0 cap w).mono ?_
    rintro e w' ⟨rfl, rfl⟩
    exact ⟨⟨none, 0, rfl, by unfold FOwn; simp [World.ownsRow, fcells]⟩, Below.refl _ _⟩
  · obtain ⟨i0, hi, hz0, hz1, hz2⟩ := info_parts Tryd.infoF
    have hcon := AnyE.slices_Clone Tryd.laysClone i0 _ 3 40 hi hz0 hz1 hz2 rfl (by decide) Tryd.sizeOf51 g 0 n cap (fcells fs) w (by rw [fcells_length, hl]) (by unfold maxLen; omega) (by omega) (fun j u hj => by have h := hr.src j u hj; rw [addr_add] at h; exact h) (fcells_one fs)
    refine Calls.mono hcon ?_
    rintro e w' ⟨v', rfl, ho, -, hb⟩
    have hv : ∃ a' cap', v' = .slice a' n cap' := by
      rcases ho.2 with ⟨e, h0⟩ | ⟨g, cap, cur, e, _⟩
      · exact ⟨none, 0, by rw [e, h0]⟩
      · exact ⟨_, _, e⟩
    obtain ⟨a', cap', rfl⟩ := hv
    refine ⟨⟨a', cap', rfl, ?_⟩, hb⟩
    unfold FOwn
    rw [hl]
    exact ho

set_option maxRecDepth 100000 in
set_option maxHeartbeats 1000000 in
theorem implCopy_any (w : World) (a : Option Addr) (n cap : Nat) (fs : List FileV) (ha : a = none ∨ ∃ g, a = some ⟨g, 0, none⟩) (hr : FRow w 0 a n fs) (hn : n ≤ 1048576) (c u : Int) (d : Bool) :
    Calls Tryd.prog 45 #[.agg #[.slice a n cap, .int .i64 c, .int .i64 u, .bool d]] w fun e w' => (∃ a' cap', e = .returned (.agg #[.slice a' n cap', .int .i64 c, .int .i64 u, .bool d]) ∧ FOwn w' w.heap.size (.slice a' n cap') fs) ∧ Below w.heap.size w w' := by
  obtain ⟨W, hW⟩ : ∃ W, W = (w.alloc (.cells #[.slice a n cap, .int .i64 c, .int .i64 u, .bool d] 26)).alloc (.cells #[.slice none 0 0, .int .i64 0, .int .i64 0, .bool false] 26) := ⟨_, rfl⟩
  have hA := alloc2 w (.cells #[.slice a n cap, .int .i64 c, .int .i64 u, .bool d] 26) (.cells #[.slice none 0 0, .int .i64 0, .int .i64 0, .bool false] 26)
  rw [← hW] at hA
  have HS := hide hA.1
  have HB0 := hide hA.2.1
  have HC0 := hide hA.2.2.1
  have HC1 := hide hA.2.2.2
  clear hA
  have HR := hide (hr.later HB0.out (Nat.le_refl _))
  have HCL := hide (clone_any W a n cap fs ha HR.out hn)
  clear hr
  obtain ⟨y0, y1, y2, y3, -⟩ := cells4 HC0.out
  rw [hW] at y0 y1 y2 y3
  go_enter Tryd.func45, Tryd.ntmps45
  go_wp2_with fail
  rw [← hW]
  clear hW y0 y1 y2 y3
  refine HCL.out.mono ?_
  rintro e w2 ⟨⟨a', cap', rfl, ho2⟩, hb2⟩
  obtain ⟨a0, a1, a2, a3, f0, f1, f2, f3⟩ := cells4 ((hb2.block _ (by have := HS.out; omega)).trans HC0.out)
  obtain ⟨b0, b1, b2, b3, k0, k1, k2, k3⟩ := cells4 ((hb2.block _ (by have := HS.out; omega)).trans HC1.out)
  have HO2 := hide (ho2.mono (base' := w.heap.size + 2) (by have := HS.out; omega))
  have HB2 := hide (HB0.out.trans (hb2.mono HB0.out.size))
  clear ho2 hb2 HCL
  go_wp2
  refine bodyPost_ret (v := .agg #[.slice a' n cap', .int .i64 c, .int .i64 u, .bool d]) (by simp [results, Tryd.results45, go_sem, *]) rfl ⟨⟨a', cap', rfl, ?_⟩, ?_⟩
  · refine FOwn.mono ?_ (Nat.le_add_right _ 2)
    iterate 5 (refine FOwn.setCell ?_ _ _ (by dsimp only; omega))
    exact HO2.out
  · iterate 5 (refine Below.setCell ?_ (by dsimp only; omega) _)
    exact HB2.out

end Go.Proofs.YthhjomaccbpnbaaDoor
namespace Go.Proofs.YthhjomaccbpnbaaDoor
open Go.RowKit Go.Maps
open Plain

/-- The function g (with what it has captured) turns a map of the files S into one of the files R, or refuses that by a code. -/
def Change (g : FuncId) (cb : Array Value) (A : SentA) (S : List FileV) (code : Int) (R : List FileV) (P : World → Prop) : Prop :=
  ∀ (W : World) (B n : Nat), MOwn W B n S → n ≤ 500 → SentIn W A → P W → Calls Tryd.prog g (#[.map (some B)] ++ cb) W fun e w' => e = .returned (errV A code) ∧ (code = 0 → ∃ S', R.Perm S' ∧ MOwn w' B (n + 2) S') ∧ W.grownBy w' (some B)

/-- A world in the midst of a step: the disk that came in (boxed), the answer's box, the copy (in block x), its files. -/
structure Mid (w X : World) (A : SentA) (x : Nat) (a : Option Addr) (n cap : Nat) (c u : Int) (d : Bool) (fs : List FileV) (a' : Option Addr) (cap' : Nat) (U : Int) (D : Bool) : Prop where
  box : X.heap[w.heap.size]? = some (.cells #[.slice a n cap, .int .i64 c, .int .i64 u, .bool d] 26 (0, 0))
  res : X.heap[w.heap.size + 1]? = some (.cells #[.slice none 0 0, .int .i64 0, .int .i64 0, .bool false] 26 (0, 0))
  aft : X.heap[x]? = some (.cells #[.slice a' n cap', .int .i64 c, .int .i64 U, .bool D] 26 (0, 0))
  row0 : FRow w 0 a n fs
  own : FOwn X (w.heap.size + 2) (.slice a' n cap') fs
  blk : ∀ g, (Value.slice a' n cap').ownBlock = some g → g < x
  sent0 : SentIn w A
  bel : Below w.heap.size w X
  lo : w.heap.size + 2 ≤ x
  hi : x < X.heap.size
theorem Mid.later {w X X' : World} {A : SentA} {x : Nat} {a : Option Addr} {n cap : Nat} {c u : Int} {d : Bool} {fs : List FileV} {a' : Option Addr} {cap' : Nat} {U : Int} {D : Bool} (h : Mid w X A x a n cap c u d fs a' cap' U D) (hb : Below X.heap.size X X') : Mid w X' A x a n cap c u d fs a' cap' U D where
  box := (hb.block _ (blk_lt h.box)).trans h.box
  res := (hb.block _ (blk_lt h.res)).trans h.res
  aft := (hb.block _ h.hi).trans h.aft
  row0 := h.row0
  own := h.own.later hb (Nat.le_refl _)
  blk := h.blk
  sent0 := h.sent0
  bel := h.bel.trans (hb.mono h.bel.size)
  lo := h.lo
  hi := Nat.lt_of_lt_of_le h.hi hb.size
theorem heap_setCell_cells {X : World} {x j : Nat} {cs : Array Value} {t : TypeId} (h : X.heap[x]? = some (.cells cs t (0, 0))) (v : Value) : (X.setCell ⟨x, j, none⟩ v).heap[x]? = some (.cells (cs.setIfInBounds j v) t (0, 0)) := by
  simp [World.setCell, Array.getElem?_modify, h]

section
variable {w X : World} {A : SentA} {x : Nat} {a : Option Addr} {n cap : Nat} {c u : Int} {d : Bool} {fs : List FileV} {a' : Option Addr} {cap' : Nat} {U : Int} {D : Bool}
theorem Mid.row (h : Mid w X A x a n cap c u d fs a' cap' U D) : FRow X 0 a n fs := h.row0.later h.bel (Nat.le_refl _)
theorem Mid.sent (h : Mid w X A x a n cap c u d fs a' cap' U D) : SentIn X A := h.sent0.later h.bel (Nat.le_refl _)
theorem Mid.setDown (h : Mid w X A x a n cap c u d fs a' cap' U D) (D' : Bool) : Mid w (X.setCell ⟨x, 3, none⟩ (.bool D')) A x a n cap c u d fs a' cap' U D' where
  box := by have := h.lo; rw [Below.heap_setCell _ _ _ _ (by dsimp only; omega)]; exact h.box
  res := by have := h.lo; rw [Below.heap_setCell _ _ _ _ (by dsimp only; omega)]; exact h.res
  aft := heap_setCell_cells h.aft _
  row0 := h.row0
  own := h.own.setNe _ _ (fun e => Nat.lt_irrefl _ (h.blk _ e))
  blk := h.blk
  sent0 := h.sent0
  bel := h.bel.setCell (by have := h.lo; dsimp only; omega) _
  lo := h.lo
  hi := by simpa using h.hi
theorem Mid.setFuel (h : Mid w X A x a n cap c u d fs a' cap' U D) (U' : Int) : Mid w (X.setCell ⟨x, 2, none⟩ (.int .i64 U')) A x a n cap c u d fs a' cap' U' D where
  box := by have := h.lo; rw [Below.heap_setCell _ _ _ _ (by dsimp only; omega)]; exact h.box
  res := by have := h.lo; rw [Below.heap_setCell _ _ _ _ (by dsimp only; omega)]; exact h.res
  aft := heap_setCell_cells h.aft _
  row0 := h.row0
  own := h.own.setNe _ _ (fun e => Nat.lt_irrefl _ (h.blk _ e))
  blk := h.blk
  sent0 := h.sent0
  bel := h.bel.setCell (by have := h.lo; dsimp only; omega) _
  lo := h.lo
  hi := by simpa using h.hi
/-- Another list of files is put into the copy. -/
theorem Mid.setFiles (h : Mid w X A x a n cap c u d fs a' cap' U D) {a2 : Option Addr} {m cap2 : Nat} {gs : List FileV} (ho : FOwn X (w.heap.size + 2) (.slice a2 m cap2) gs) (hb : ∀ g, (Value.slice a2 m cap2).ownBlock = some g → g ≠ x) :
    (X.setCell ⟨x, 0, none⟩ (.slice a2 m cap2)).heap[x]? = some (.cells #[.slice a2 m cap2, .int .i64 c, .int .i64 U, .bool D] 26 (0, 0)) ∧ FOwn (X.setCell ⟨x, 0, none⟩ (.slice a2 m cap2)) (w.heap.size + 2) (.slice a2 m cap2) gs ∧ Below w.heap.size w (X.setCell ⟨x, 0, none⟩ (.slice a2 m cap2)) ∧
      (X.setCell ⟨x, 0, none⟩ (.slice a2 m cap2)).heap[w.heap.size + 1]? = some (.cells #[.slice none 0 0, .int .i64 0, .int .i64 0, .bool false] 26 (0, 0)) :=
  ⟨heap_setCell_cells h.aft _, ho.setNe _ _ (fun e => hb _ e rfl), h.bel.setCell (by have := h.lo; dsimp only; omega) _, by have := h.lo; rw [Below.heap_setCell _ _ _ _ (by dsimp only; omega)]; exact h.res⟩
theorem Mid.grown {X' : World} {B : Nat} (h : Mid w X A x a n cap c u d fs a' cap' U D) (hg : X.grownBy X' (some B)) (hB : x < B) : Mid w X' A x a n cap c u d fs a' cap' U D where
  box := by have := h.lo; rw [hg.block _ (blk_lt h.box) (fun e => by injection e with e; omega)]; exact h.box
  res := by have := h.lo; rw [hg.block _ (blk_lt h.res) (fun e => by injection e with e; omega)]; exact h.res
  aft := by rw [hg.block _ h.hi (fun e => by injection e with e; omega)]; exact h.aft
  row0 := h.row0
  own := World.ownsRow.kept h.own hg (by
    cases e : (Value.slice a' n cap').ownBlock with
    | none => exact .inl rfl
    | some g => exact .inr (fun q => by injection q with q; have := h.blk g e; omega))
  blk := h.blk
  sent0 := h.sent0
  bel := h.bel.grown hg h.bel.size (fun k hk => by injection hk with hk; have := h.lo; omega)
  lo := h.lo
  hi := Nat.lt_of_lt_of_le h.hi hg.size
end

theorem FOwn.drewO {w : World} {base : Nat} {v : Value} {fs : List FileV} (h : FOwn w base v fs) : FOwn w.drew base v fs := h

/-- What a step answers: its files and its code. -/
def stepF (fs : List FileV) (c u : Int) (d : Bool) (code : Int) (R : List FileV) : List FileV × Int := if begC fs c u d = 0 then (if code = 0 then R else fs, code) else (fs, begC fs c u d)

end Go.Proofs.YthhjomaccbpnbaaDoor
namespace Go.Proofs.YthhjomaccbpnbaaDoor
open Go.RowKit Go.Maps
open Plain

theorem rising_map (fs : List FileV) : Rising fs ↔ (fs.map (fun f => f.name.data.toList)).Pairwise (· < ·) := by
  unfold Rising
  rw [List.pairwise_map]
theorem rising_set {fs : List FileV} (h : Rising fs) (k : Nat) (hk : k < fs.length) (g : FileV) (hg : g.name = (fs[k]).name) : Rising (fs.set k g) := by
  rw [rising_map] at h ⊢
  have e : (fs.set k g).map (fun f => f.name.data.toList) = fs.map (fun f => f.name.data.toList) := by
    rw [List.map_set]
    apply set_get_self
    rw [List.getElem?_map, List.getElem?_eq_getElem hk, hg]
    rfl
  rw [e]
  exact h
theorem rising_sub {fs gs : List FileV} (h : Rising fs) (hs : gs.Sublist fs) : Rising gs := List.Pairwise.sublist hs h
theorem others_erase {fs : List FileV} (h : fs.Pairwise (fun f g => f.name ≠ g.name)) : ∀ k, (hk : k < fs.length) → others fs (fs[k]).name = fs.eraseIdx k := by
  induction fs with
  | nil => intro k hk; simp at hk
  | cons a r ih =>
    intro k hk
    obtain ⟨h1, h2⟩ := List.pairwise_cons.1 h
    cases k with
    | zero =>
      have e := others_none (S := r) (x := a.name) (fun g hg e => h1 g hg e.symm)
      unfold others at e ⊢
      rw [List.getElem_cons_zero, List.filter_cons_of_neg (by simp), e, List.eraseIdx_zero]
      rfl
    | succ k =>
      have hk' : k < r.length := by simpa using hk
      have e := ih h2 k hk'
      have hne : a.name ≠ (r[k]).name := h1 _ (List.getElem_mem hk')
      unfold others at e ⊢
      rw [List.getElem_cons_succ, List.filter_cons_of_pos (by simpa using hne), e, List.eraseIdx_cons_succ]
theorem set_perm (fs : List FileV) (g : FileV) : ∀ k, k < fs.length → (fs.set k g).Perm (g :: fs.eraseIdx k) := by
  induction fs with
  | nil => intro k hk; simp at hk
  | cons a r ih =>
    intro k hk
    cases k with
    | zero => simp
    | succ k =>
      rw [List.set_cons_succ, List.eraseIdx_cons_succ]
      exact ((ih k (by simpa using hk)).cons a).trans (List.Perm.swap _ _ _)
theorem set_perm_others {fs : List FileV} (h : fs.Pairwise (fun f g => f.name ≠ g.name)) (k : Nat) (hk : k < fs.length) (g : FileV) : (fs.set k g).Perm (g :: others fs (fs[k]).name) := by
  rw [others_erase h k hk]
  exact set_perm fs g k hk
end Go.Proofs.YthhjomaccbpnbaaDoor
namespace Go.Proofs.YthhjomaccbpnbaaDoor
open Go.RowKit Go.Maps
open Plain

theorem insF_perm : ∀ (fs : List FileV) (f : FileV), (insF fs f).Perm (f :: fs)
  | [], f => List.Perm.refl _
  | g :: r, f => by
    unfold insF
    split
    · exact ((insF_perm r f).cons g).trans (List.Perm.swap f g r)
    · exact List.Perm.refl _
theorem sle_lt {a b : ByteArray} (h : sle a b = true) (hn : a ≠ b) : a.data.toList < b.data.toList := by
  rw [sle_less, bytesLess_lt] at h
  have h3 : ¬ b.toList < a.toList := by simpa using h
  rw [tl, tl] at h3
  rcases List.le_iff_lt_or_eq.1 (List.not_lt.1 h3) with h4 | h4
  · exact h4
  · exact absurd (name_of_data h4) hn
theorem sle_gt {a b : ByteArray} (h : ¬ sle a b = true) : b.data.toList < a.data.toList := by
  rw [sle_less, bytesLess_lt] at h
  have h3 : b.toList < a.toList := by simpa using h
  rw [tl, tl] at h3
  exact h3
theorem insF_rising {fs : List FileV} {f : FileV} (h : Rising fs) (hn : ∀ g, g ∈ fs → g.name ≠ f.name) : Rising (insF fs f) := by
  induction fs with
  | nil => exact List.pairwise_cons.2 ⟨fun x hx => by simp at hx, List.Pairwise.nil⟩
  | cons g r ih =>
    obtain ⟨h1, h2⟩ := List.pairwise_cons.1 h
    unfold insF
    split
    · rename_i hs
      refine List.pairwise_cons.2 ⟨fun x hx => ?_, ih h2 (fun x hx => hn x (List.mem_cons_of_mem _ hx))⟩
      rcases List.mem_cons.1 ((insF_perm r f).mem_iff.1 hx) with rfl | hx
      · exact sle_lt hs (hn g List.mem_cons_self)
      · exact h1 x hx
    · rename_i hs
      refine List.pairwise_cons.2 ⟨fun x hx => ?_, h⟩
      rcases List.mem_cons.1 hx with rfl | hx
      · exact sle_gt hs
      · exact List.lt_trans (sle_gt hs) (h1 x hx)
theorem dropF_others {fs : List FileV} (h : fs.Pairwise (fun f g => f.name ≠ g.name)) (x : ByteArray) : dropF fs x = others fs x := by
  unfold dropF
  by_cases hf : findF fs x < 0
  · rw [if_pos hf, others_none (findF_none hf)]
  · rw [if_neg hf]
    obtain ⟨k, hk, hkl, rfl⟩ := findF_name hf
    rw [hk, Int.toNat_natCast, others_erase h k hkl]
theorem rising_others {fs : List FileV} (h : Rising fs) (x : ByteArray) : Rising (others fs x) := rising_sub h List.filter_sublist
theorem set_same (fs : List FileV) (k : Nat) (hk : k < fs.length) : fs.set k (fs[k]) = fs := by
  apply set_get_self
  rw [List.getElem?_eq_getElem hk]
theorem others_twice (fs : List FileV) (x : ByteArray) : others (others fs x) x = others fs x := others_none (fun _ hg => (mem_others.1 hg).2)

/-! ### Remove -/
def remC (fs : List FileV) (nm : ByteArray) : Int := if findF fs nm < 0 then 3 else 0
def remR (fs : List FileV) (nm : ByteArray) : List FileV := fs.eraseIdx (findF fs nm).toNat
theorem remF_step (fs : List FileV) (c u : Int) (d : Bool) (nm : ByteArray) : stepF fs c u d (remC fs nm) (remR fs nm) = remF fs c u d nm := by
  unfold stepF remF remC remR
  by_cases h : begC fs c u d = 0
  · rw [if_pos h, if_pos h]
    by_cases h2 : findF fs nm < 0
    · simp [h2]
    · simp [h2]
  · rw [if_neg h, if_neg h]
theorem remR_rising {fs : List FileV} (h : Rising fs) (nm : ByteArray) : Rising (remR fs nm) := rising_sub h (List.eraseIdx_sublist _ _)
theorem remR_others {fs : List FileV} (h : fs.Pairwise (fun f g => f.name ≠ g.name)) (nm : ByteArray) (hf : ¬ findF fs nm < 0) : remR fs nm = others fs nm := by
  obtain ⟨k, hk, hkl, rfl⟩ := findF_name hf
  unfold remR
  rw [hk, Int.toNat_natCast, others_erase h k hkl]

/-! ### Create -/
def creC (fs : List FileV) (nm : ByteArray) : Int := if nameOk nm = true then (if findF fs nm < 0 then (if 130 ≤ fs.length then 2 else 0) else 4) else 5
def creR (fs : List FileV) (nm : ByteArray) : List FileV := insF fs ⟨nm, ⟨#[]⟩, 0⟩
theorem creF_step (fs : List FileV) (c u : Int) (d : Bool) (nm : ByteArray) : stepF fs c u d (creC fs nm) (creR fs nm) = creF fs c u d nm := by
  unfold stepF creF creC creR
  by_cases h : begC fs c u d = 0
  · rw [if_pos h, if_pos h]
    by_cases h1 : nameOk nm = true
    · by_cases h2 : findF fs nm < 0
      · by_cases h3 : 130 ≤ fs.length
        · simp [h1, h2, h3]
        · simp [h1, h2, h3]
      · simp [h1, h2]
    · simp [h1]
  · rw [if_neg h, if_neg h]
theorem creC_ok {fs : List FileV} {nm : ByteArray} (h : creC fs nm = 0) : nameOk nm = true ∧ findF fs nm < 0 ∧ ¬ 130 ≤ fs.length := by
  unfold creC at h
  by_cases h1 : nameOk nm = true
  · by_cases h2 : findF fs nm < 0
    · by_cases h3 : 130 ≤ fs.length
      · simp [h1, h2, h3] at h
      · exact ⟨h1, h2, h3⟩
    · simp [h1, h2] at h
  · simp [h1] at h
theorem creR_rising {fs : List FileV} (h : Rising fs) (nm : ByteArray) (hc : creC fs nm = 0) : Rising (creR fs nm) := insF_rising h (findF_none (creC_ok hc).2.1)
theorem creF_len (fs : List FileV) (c u : Int) (d : Bool) (nm : ByteArray) : (creF fs c u d nm).1.length ≤ fs.length + 1 := by
  unfold creF
  repeat' split
  all_goals first | (rw [insF_length]; exact Nat.le_refl _) | exact Nat.le_succ _

/-! ### Append -/
def appC (fs : List FileV) (c : Int) (nm t : ByteArray) : Int := if findF fs nm < 0 then 3 else if c - (usedF fs : Int) < (t.size : Int) then 2 else 0
def appR (fs : List FileV) (nm t : ByteArray) : List FileV := fs.set (findF fs nm).toNat ⟨(fs.getD (findF fs nm).toNat zeroF).name, (fs.getD (findF fs nm).toNat zeroF).text ++ t, (fs.getD (findF fs nm).toNat zeroF).safe⟩
theorem appF_step (fs : List FileV) (c u : Int) (d : Bool) (nm t : ByteArray) : stepF fs c u d (appC fs c nm t) (appR fs nm t) = appF fs c u d nm t := by
  unfold stepF appF appC appR
  by_cases h : begC fs c u d = 0
  · rw [if_pos h, if_pos h]
    by_cases h2 : findF fs nm < 0
    · simp [h2]
    · by_cases h3 : c - (usedF fs : Int) < (t.size : Int)
      · simp [h2, h3]
      · simp [h2, h3]
  · rw [if_neg h, if_neg h]
theorem appF_len (fs : List FileV) (c u : Int) (d : Bool) (nm t : ByteArray) : (appF fs c u d nm t).1.length = fs.length := by
  unfold appF
  repeat' split
  all_goals simp

/-! ### Truncate -/
def truC (fs : List FileV) (nm : ByteArray) (m : Int) : Int := if findF fs nm < 0 then 3 else if inB 0 m ((fs.getD (findF fs nm).toNat zeroF).text.size : Int) = true then 0 else 5
def truR (fs : List FileV) (nm : ByteArray) (m : Int) : List FileV := fs.set (findF fs nm).toNat ⟨(fs.getD (findF fs nm).toNat zeroF).name, (fs.getD (findF fs nm).toNat zeroF).text.extract 0 m.toNat, min (fs.getD (findF fs nm).toNat zeroF).safe m⟩
theorem truF_step (fs : List FileV) (c u : Int) (d : Bool) (nm : ByteArray) (m : Int) : stepF fs c u d (truC fs nm m) (truR fs nm m) = truF fs c u d nm m := by
  unfold stepF truF truC truR
  by_cases h : begC fs c u d = 0
  · rw [if_pos h, if_pos h]
    by_cases h2 : findF fs nm < 0
    · simp [h2]
    · by_cases h3 : inB 0 m ((fs.getD (findF fs nm).toNat zeroF).text.size : Int) = true
      · rw [if_neg h2, if_pos h3, if_neg h2, if_pos h3]
        rfl
      · rw [if_neg h2, if_neg h3, if_neg h2, if_neg h3]
        rfl
  · rw [if_neg h, if_neg h]
theorem truF_len (fs : List FileV) (c u : Int) (d : Bool) (nm : ByteArray) (m : Int) : (truF fs c u d nm m).1.length = fs.length := by
  unfold truF
  repeat' split
  all_goals simp

/-! ### Rename -/
def renC (fs : List FileV) (nm to : ByteArray) : Int := if nameOk to = true then (if findF fs nm < 0 then 3 else 0) else 5
def renN (fs : List FileV) (nm to : ByteArray) : FileV := ⟨to, (fs.getD (findF fs nm).toNat zeroF).text, (fs.getD (findF fs nm).toNat zeroF).safe⟩
def renR (fs : List FileV) (nm to : ByteArray) : List FileV := if nm = to then fs else ren2 fs (findF fs nm).toNat (renN fs nm to)
theorem renF_step (fs : List FileV) (c u : Int) (d : Bool) (nm to : ByteArray) : stepF fs c u d (renC fs nm to) (renR fs nm to) = renF fs c u d nm to := by
  unfold stepF renF renC renR
  by_cases h : begC fs c u d = 0
  · rw [if_pos h, if_pos h]
    by_cases h1 : nameOk to = true
    · by_cases h2 : findF fs nm < 0
      · simp [h1, h2]
      · by_cases h3 : nm = to
        · subst h3
          simp [h1, h2]
        · simp [h1, h2, h3, renN]
    · simp [h1]
  · rw [if_neg h, if_neg h]
theorem renC_ok {fs : List FileV} {nm to : ByteArray} (h : renC fs nm to = 0) : nameOk to = true ∧ ¬ findF fs nm < 0 := by
  unfold renC at h
  by_cases h1 : nameOk to = true
  · by_cases h2 : findF fs nm < 0
    · simp [h1, h2] at h
    · exact ⟨h1, h2⟩
  · simp [h1] at h
theorem ren2_eq {fs : List FileV} (h : Rising fs) (nm to : ByteArray) (hf : ¬ findF fs nm < 0) : ren2 fs (findF fs nm).toNat (renN fs nm to) = insF (others (others fs nm) to) (renN fs nm to) := by
  unfold ren2
  have e : fs.eraseIdx (findF fs nm).toNat = others fs nm := remR_others h.apart nm hf
  rw [e, dropF_others (rising_others h nm).apart]
  rfl
theorem renR_rising {fs : List FileV} (h : Rising fs) (nm to : ByteArray) (hc : renC fs nm to = 0) : Rising (renR fs nm to) := by
  unfold renR
  split
  · exact h
  · rw [ren2_eq h nm to (renC_ok hc).2]
    exact insF_rising (rising_others (rising_others h nm) to) (fun g hg => (mem_others.1 hg).2)
theorem renR_perm {fs : List FileV} (h : Rising fs) (nm to : ByteArray) (k : Nat) (hk : findF fs nm = (k : Int)) (hkl : k < fs.length) (hkn : (fs[k]).name = nm) : (renR fs nm to).Perm (⟨to, (fs[k]).text, (fs[k]).safe⟩ :: others (others fs nm) to) := by
  have hf : ¬ findF fs nm < 0 := by rw [hk]; omega
  have hN : renN fs nm to = ⟨to, (fs[k]).text, (fs[k]).safe⟩ := by unfold renN; rw [hk, Int.toNat_natCast, getD_of hkl]
  unfold renR
  split
  · rename_i e
    subst e
    rw [others_twice]
    have h1 := set_perm_others h.apart k hkl (fs[k])
    rw [set_same, hkn] at h1
    have e2 : (⟨nm, (fs[k]).text, (fs[k]).safe⟩ : FileV) = fs[k] := by rw [← hkn]
    rw [e2]
    exact h1
  · rw [ren2_eq h nm to hf, hN]
    exact insF_perm _ _
theorem dropF_len (fs : List FileV) (nm : ByteArray) : (dropF fs nm).length ≤ fs.length := by
  unfold dropF
  split
  · exact Nat.le_refl _
  · exact List.length_eraseIdx_le _ _
theorem renF_len (fs : List FileV) (c u : Int) (d : Bool) (nm to : ByteArray) : (renF fs c u d nm to).1.length ≤ fs.length + 1 := by
  unfold renF ren2
  repeat' split
  all_goals first
    | exact Nat.le_succ _
    | (rw [insF_length]; dsimp only
       have h1 := dropF_len (fs.eraseIdx (findF fs nm).toNat) to
       have h2 := List.length_eraseIdx_le fs (findF fs nm).toNat
       omega)
theorem remF_len (fs : List FileV) (c u : Int) (d : Bool) (nm : ByteArray) : (remF fs c u d nm).1.length ≤ fs.length := by
  unfold remF
  repeat' split
  all_goals first | exact List.length_eraseIdx_le _ _ | exact Nat.le_refl _

end Go.Proofs.YthhjomaccbpnbaaDoor
namespace Go.Proofs.YthhjomaccbpnbaaDoor
open Go.RowKit
open Plain

/-- What FileText answers. -/
def textA (fs : List FileV) (c u : Int) (nm : ByteArray) : ByteArray × Bool := if diskOk fs c u = true then (if findF fs nm < 0 then (⟨#[]⟩, false) else ((fs.getD (findF fs nm).toNat zeroF).text, true)) else (⟨#[]⟩, false)
theorem findF_at (fs : List FileV) (nm : ByteArray) (h : ¬ findF fs nm < 0) : ∃ k : Nat, findF fs nm = (k : Int) ∧ k < fs.length := by
  unfold findF at *
  cases hf : fs.findIdx? (fun f => decide (f.name = nm)) with
  | none => rw [hf] at h; simp at h
  | some i =>
    refine ⟨i, rfl, ?_⟩
    rw [List.findIdx?_eq_some_iff_getElem] at hf
    exact hf.1

set_option maxRecDepth 100000 in
set_option maxHeartbeats 1000000 in
theorem specText_any (w : World) (a : Option Addr) (n cap : Nat) (fs : List FileV) (hr : FRow w 0 a n fs) (hn : n ≤ 1048576) (hz : szFs fs ≤ 1048576) (c u : Int) (d : Bool) (nm : ByteArray) :
    Calls Tryd.prog 15 #[.agg #[.slice a n cap, .int .i64 c, .int .i64 u, .bool d], .string nm] w fun e w' => e = .returned (.tuple #[.string (textA fs c u nm).1, .bool (textA fs c u nm).2]) ∧ Below w.heap.size w w' := by
  have hfn := hr.len
  have hbx := box4 w (.slice a n cap) (.int .i64 c) (.int .i64 u) (.bool d) 26
  obtain ⟨W, hW⟩ : ∃ W, W = w.alloc (.cells #[.slice a n cap, .int .i64 c, .int .i64 u, .bool d] 26) := ⟨_, rfl⟩
  rw [← hW] at hbx
  have HR := hide (hr.later hbx.1 (Nat.le_refl _))
  have HB := hide hbx.1
  have HX := hide hbx.2
  have HS : Hid (w.heap.size < W.heap.size) := hide (by rw [hW]; simp)
  clear hr hbx
  go_enter Tryd.func15, Tryd.ntmps15
  go_wp2_with fail
  rw [← hW]
  clear hW
  refine (specOk_any W a n cap fs HR.out (by omega) (by omega) c u d).mono ?_
  rintro e w1 ⟨rfl, hb1⟩
  have HR1 := hide (HR.out.later hb1 (Nat.le_refl _))
  have HX1 := hide ((hb1.block _ HS.out).trans HX.out)
  have HB1 := hide (HB.out.trans (hb1.mono HB.out.size))
  have hs1 : w.heap.size < w1.heap.size := Nat.lt_of_lt_of_le HS.out hb1.size
  clear hb1 HR HX HB HS
  by_cases q : diskOk fs c u = true
  · rw [q]
    obtain ⟨y0, y1, y2, y3, -⟩ := cells4 HX1.out
    go_wp2_with fail
    clear y0 y1 y2 y3
    refine (specFind_any w1 a n cap fs HR1.out (by omega) c u d nm).mono ?_
    rintro e w2 ⟨rfl, hb2⟩
    have HB2 := hide (HB1.out.trans (hb2.mono HB1.out.size))
    have HR2 := hide (HR1.out.later hb2 (Nat.le_refl _))
    obtain ⟨y0, -⟩ := cells4 ((hb2.block _ hs1).trans HX1.out)
    clear hb2
    by_cases q1 : findF fs nm < 0
    · have HV : Hid (textA fs c u nm = (⟨#[]⟩, false)) := hide (by unfold textA; rw [if_pos q, if_pos q1])
      have t1 : decide (findF fs nm < 0) = true := by simpa using q1
      clear q1
      go_wp2
      go_ret2
      exact ⟨by rw [HV.out]; rfl, HB2.out⟩
    · obtain ⟨k, hk, hkl⟩ := findF_at fs nm q1
      have hgd : fs.getD k zeroF = fs[k] := by simp [List.getD, hkl]
      have HV : Hid (textA fs c u nm = ((fs[k]).text, true)) := hide (by unfold textA; rw [if_pos q, if_neg q1, hk, Int.toNat_natCast, hgd])
      rw [hk]
      clear q1 hk hgd
      obtain ⟨b, off, rfl, -, hbw, e1, e2, e3⟩ := HR2.out.cells k hkl
      have hkn : (k : Int) < (n : Int) := by omega
      have hkz : decide ((k : Int) < 0) = false := by simp
      go_wp2
      go_ret2
      exact ⟨by rw [HV.out]; rfl, HB2.out⟩
  · have q' : diskOk fs c u = false := by simpa using q
    have HV : Hid (textA fs c u nm = (⟨#[]⟩, false)) := hide (by unfold textA; rw [if_neg q])
    rw [q']
    go_wp2
    go_ret2
    exact ⟨by rw [HV.out]; rfl, HB1.out⟩

end Go.Proofs.YthhjomaccbpnbaaDoor
namespace Go.Proofs.YthhjomaccbpnbaaDoor
open Go.RowKit Go.Maps
open Plain

/-- The files of a right disk of this capacity. -/
structure GoodF (fs : List FileV) (c : Int) : Prop where
  len : fs.length ≤ 130
  used : (usedF fs : Int) ≤ c
  ris : Rising fs
  ok : ∀ f, f ∈ fs → okF f = true
theorem goodF_of {fs : List FileV} {c u : Int} (h : diskOk fs c u = true) : GoodF fs c where
  len := (len_of h).1
  used := (len_of h).2.2.2.2
  ris := rising_of h
  ok := fun f hf => by
    obtain ⟨i, hi, rfl⟩ := List.mem_iff_getElem.1 hf
    have h1 := okAt_of h i hi
    unfold okAt at h1
    rw [getD_of hi, Bool.and_eq_true] at h1
    exact h1.1
theorem GoodF.diskOk {fs : List FileV} {c u : Int} (h : GoodF fs c) (hc : 0 ≤ c ∧ c ≤ 100000) (hu : -1 ≤ u ∧ u ≤ 100000) : diskOk fs c u = true := by
  unfold Proofs.YthhjomaccbpnbaaDoor.diskOk headOk
  rw [Bool.and_eq_true, Bool.and_eq_true, Bool.and_eq_true, Bool.and_eq_true]
  refine ⟨⟨decide_eq_true h.len, inB_yes hc, inB_yes hu, decide_eq_true h.used⟩, okAll_good fs (fun i hi => ?_)⟩
  unfold okAt
  rw [getD_of hi, h.ok _ (List.getElem_mem hi), Bool.true_and]
  rcases Nat.eq_zero_or_pos i with h0 | h0
  · simp [h0]
  · have h1 : i - 1 < fs.length := by omega
    rw [getD_of h1]
    have h2 := List.pairwise_iff_getElem.1 h.ris (i - 1) i h1 hi (by omega)
    have h3 : sle (fs[i]).name (fs[i - 1]).name = false := by
      rw [sle_less, bytesLess_lt, tl, tl]
      simpa using h2
    rw [h3]
    simp
theorem usedF_perm {fs gs : List FileV} (h : fs.Perm gs) : usedF fs = usedF gs := by
  induction h with
  | nil => rfl
  | cons a _ ih => simp [usedF, ih]
  | swap a b l => simp [usedF]; omega
  | trans _ _ ih1 ih2 => rw [ih1, ih2]
theorem usedF_sub {fs gs : List FileV} (h : gs.Sublist fs) : usedF gs ≤ usedF fs := by
  induction h with
  | slnil => exact Nat.le_refl _
  | cons a _ ih => simp [usedF]; omega
  | cons_cons a _ ih => simp [usedF]; omega
theorem usedF_set (fs : List FileV) : ∀ k g, (hk : k < fs.length) → usedF (fs.set k g) + (fs[k]).text.size = usedF fs + g.text.size := by
  induction fs with
  | nil => intro k g hk; simp at hk
  | cons a r ih =>
    intro k g hk
    cases k with
    | zero => simp [usedF]; omega
    | succ k =>
      have := ih k g (by simpa using hk)
      simp [usedF] at this ⊢
      omega
theorem okF_parts {f : FileV} (h : okF f = true) : nameOk f.name = true ∧ 0 ≤ f.safe ∧ f.safe ≤ (f.text.size : Int) := by
  unfold okF inB at h
  rw [Bool.and_eq_true, decide_eq_true_eq] at h
  exact ⟨h.1, h.2.1, h.2.2⟩
theorem okF_mk {f : FileV} (h1 : nameOk f.name = true) (h2 : 0 ≤ f.safe) (h3 : f.safe ≤ (f.text.size : Int)) : okF f = true := by
  unfold okF
  rw [Bool.and_eq_true]
  exact ⟨h1, inB_yes ⟨h2, h3⟩⟩
theorem GoodF.set {fs : List FileV} {c : Int} (h : GoodF fs c) (k : Nat) (hk : k < fs.length) (g : FileV) (hn : g.name = (fs[k]).name) (hg : okF g = true) (hu : (usedF fs : Int) + (g.text.size : Int) - ((fs[k]).text.size : Int) ≤ c) : GoodF (fs.set k g) c where
  len := by rw [List.length_set]; exact h.len
  used := by have := usedF_set fs k g hk; omega
  ris := rising_set h.ris k hk g hn
  ok := fun f hf => by
    rcases List.mem_or_eq_of_mem_set hf with h1 | h1
    · exact h.ok f h1
    · rw [h1]; exact hg
theorem GoodF.sub {fs gs : List FileV} {c : Int} (h : GoodF fs c) (hs : gs.Sublist fs) : GoodF gs c where
  len := Nat.le_trans hs.length_le h.len
  used := by have := usedF_sub hs; have := h.used; omega
  ris := rising_sub h.ris hs
  ok := fun f hf => h.ok f (hs.mem hf)
theorem GoodF.ins {fs : List FileV} {c : Int} (h : GoodF fs c) (f : FileV) (hl : fs.length < 130) (hn : ∀ g, g ∈ fs → g.name ≠ f.name) (hf : okF f = true) (hu : (usedF fs : Int) + (f.text.size : Int) ≤ c) : GoodF (insF fs f) c where
  len := by rw [insF_length]; omega
  used := by rw [usedF_perm (insF_perm fs f)]; simp [usedF]; omega
  ris := insF_rising h.ris hn
  ok := fun g hg => by
    rcases List.mem_cons.1 ((insF_perm fs f).mem_iff.1 hg) with h1 | h1
    · rw [h1]; exact hf
    · exact h.ok g h1

theorem good_app {fs : List FileV} {c : Int} (h : GoodF fs c) (nm t : ByteArray) (hc : appC fs c nm t = 0) : GoodF (appR fs nm t) c := by
  unfold appC at hc
  by_cases hf : findF fs nm < 0
  · rw [if_pos hf] at hc; omega
  · rw [if_neg hf] at hc
    by_cases h2 : c - (usedF fs : Int) < (t.size : Int)
    · rw [if_pos h2] at hc; omega
    · obtain ⟨k, hk, hkl, hkn⟩ := findF_name hf
      unfold appR
      rw [hk, Int.toNat_natCast, getD_of hkl]
      obtain ⟨o1, o2, o3⟩ := okF_parts (h.ok _ (List.getElem_mem hkl))
      refine h.set k hkl _ rfl (okF_mk o1 o2 ?_) ?_
      · simp [ByteArray.size_append]; omega
      · simp [ByteArray.size_append]; omega
theorem good_syn {fs : List FileV} {c : Int} (h : GoodF fs c) (nm : ByteArray) (hf : ¬ findF fs nm < 0) : GoodF (fs.set (findF fs nm).toNat ⟨(fs.getD (findF fs nm).toNat zeroF).name, (fs.getD (findF fs nm).toNat zeroF).text, ((fs.getD (findF fs nm).toNat zeroF).text.size : Int)⟩) c := by
  obtain ⟨k, hk, hkl, hkn⟩ := findF_name hf
  rw [hk, Int.toNat_natCast, getD_of hkl]
  obtain ⟨o1, o2, o3⟩ := okF_parts (h.ok _ (List.getElem_mem hkl))
  have hu := h.used
  exact h.set k hkl _ rfl (okF_mk o1 (by simp) (by simp)) (by simp; omega)
theorem good_cre {fs : List FileV} {c : Int} (h : GoodF fs c) (nm : ByteArray) (hc : creC fs nm = 0) : GoodF (creR fs nm) c := by
  obtain ⟨h1, h2, h3⟩ := creC_ok hc
  have hu := h.used
  exact h.ins _ (by omega) (findF_none h2) (okF_mk h1 (by simp) (by simp)) (by show ((usedF fs : Nat) : Int) + ((0 : Nat) : Int) ≤ c; omega)
theorem good_rem {fs : List FileV} {c : Int} (h : GoodF fs c) (nm : ByteArray) : GoodF (remR fs nm) c := h.sub (List.eraseIdx_sublist _ _)
theorem good_tru {fs : List FileV} {c : Int} (h : GoodF fs c) (nm : ByteArray) (m : Int) (hc : truC fs nm m = 0) : GoodF (truR fs nm m) c := by
  unfold truC at hc
  by_cases hf : findF fs nm < 0
  · rw [if_pos hf] at hc; omega
  · rw [if_neg hf] at hc
    obtain ⟨k, hk, hkl, hkn⟩ := findF_name hf
    unfold truR
    rw [hk, Int.toNat_natCast, getD_of hkl] at hc ⊢
    by_cases h2 : inB 0 m ((fs[k]).text.size : Int) = true
    · unfold inB at h2
      rw [decide_eq_true_eq] at h2
      obtain ⟨M, rfl⟩ := Int.eq_ofNat_of_zero_le h2.1
      obtain ⟨o1, o2, o3⟩ := okF_parts (h.ok _ (List.getElem_mem hkl))
      have hu := h.used
      have hs : ((fs[k]).text.extract 0 M).size = M := by rw [ByteArray.size_extract]; omega
      rw [Int.toNat_natCast]
      exact h.set k hkl _ rfl (okF_mk o1 (by simp; omega) (by simp only; rw [hs]; omega)) (by simp only; rw [hs]; omega)
    · rw [if_neg h2] at hc; omega
theorem used_others {fs : List FileV} (h : fs.Pairwise (fun f g => f.name ≠ g.name)) (k : Nat) (hk : k < fs.length) : usedF (others fs (fs[k]).name) + (fs[k]).text.size = usedF fs := by
  have h1 := set_perm_others h k hk (fs[k])
  rw [set_same] at h1
  rw [usedF_perm h1]
  simp [usedF]
  omega
theorem good_ren {fs : List FileV} {c : Int} (h : GoodF fs c) (nm to : ByteArray) (hc : renC fs nm to = 0) : GoodF (renR fs nm to) c := by
  obtain ⟨h1, h2⟩ := renC_ok hc
  unfold renR
  split
  · exact h
  · rw [ren2_eq h.ris nm to h2]
    obtain ⟨k, hk, hkl, hkn⟩ := findF_name h2
    have hN : renN fs nm to = ⟨to, (fs[k]).text, (fs[k]).safe⟩ := by unfold renN; rw [hk, Int.toNat_natCast, getD_of hkl]
    rw [hN]
    obtain ⟨o1, o2, o3⟩ := okF_parts (h.ok _ (List.getElem_mem hkl))
    have hs : (others (others fs nm) to).Sublist fs := List.filter_sublist.trans List.filter_sublist
    have hu := h.used
    have hu2 := used_others h.ris.apart k hkl
    rw [hkn] at hu2
    have hu3 := usedF_sub (List.filter_sublist (p := fun g => decide (g.name ≠ to)) (l := others fs nm))
    have hl : (others fs nm).length + 1 = fs.length := by
      have := length_others h.ris.apart (List.getElem_mem hkl)
      rw [hkn] at this
      exact this
    have hl2 := (List.filter_sublist (p := fun g => decide (g.name ≠ to)) (l := others fs nm)).length_le
    refine (h.sub hs).ins _ ?_ (fun g hg => (mem_others.1 hg).2) (okF_mk h1 o2 o3) ?_
    · have := h.len
      show (List.filter (fun g => decide (g.name ≠ to)) (others fs nm)).length < 130
      omega
    · show ((usedF (List.filter (fun g => decide (g.name ≠ to)) (others fs nm)) : Nat) : Int) + ((fs[k]).text.size : Int) ≤ c
      omega

/-- What the law asks of one step's answer. -/
structure StepLaw (fs : List FileV) (c u : Int) (d : Bool) (r : List FileV × Int) : Prop where
  good : r.2 = 0 → diskOk r.1 c (begU fs c u d) = true ∧ d = false ∧ u ≠ 0 ∧ (0 < u → begU fs c u d = u - 1)
  bad : r.2 ≠ 0 → r.1 = fs ∧ (diskOk fs c u = true → (d = true ∨ u = 0) → r.2 = 1)
theorem stepF_law {fs : List FileV} {c u : Int} {d : Bool} {code : Int} {R : List FileV} (h : GoodF fs c → code = 0 → GoodF R c) : StepLaw fs c u d (stepF fs c u d code R) := by
  unfold stepF
  by_cases hb : begC fs c u d = 0
  · rw [if_pos hb]
    have hq : diskOk fs c u = true ∧ d = false ∧ u ≠ 0 := by
      unfold begC at hb
      by_cases h1 : diskOk fs c u = true
      · rw [if_pos h1] at hb
        by_cases h2 : d = true ∨ u = 0
        · rw [if_pos h2] at hb; omega
        · refine ⟨h1, ?_, fun e => h2 (Or.inr e)⟩
          cases d
          · rfl
          · exact absurd (Or.inl rfl) h2
      · rw [if_neg h1] at hb; omega
    have hl := len_of hq.1
    refine ⟨fun h0 => ?_, fun h0 => ?_⟩
    · have h0' : code = 0 := h0
      have hU : begU fs c u d = (if 0 < u then u - 1 else u) := by
        unfold begU
        by_cases h3 : 0 < u
        · rw [if_pos ⟨hq.1, hq.2.1, h3⟩, if_pos h3]
        · rw [if_neg (fun h => h3 h.2.2), if_neg h3]
      have hu2 : u ≤ 100000 := by
        have := hq.1
        unfold diskOk headOk at this
        simp only [Bool.and_eq_true, decide_eq_true_eq] at this
        have h4 := this.1.2.2.1
        unfold inB at h4
        rw [decide_eq_true_eq] at h4
        exact h4.2
      refine ⟨?_, hq.2.1, hq.2.2, fun h3 => by rw [hU, if_pos h3]⟩
      simp only [h0', if_true]
      refine (h (goodF_of hq.1) h0').diskOk ⟨hl.2.2.1, hl.2.2.2.1⟩ ?_
      rw [hU]
      split
      · omega
      · omega
    · have h0' : code ≠ 0 := h0
      refine ⟨by simp only [h0', if_false], fun _ h5 => ?_⟩
      rcases h5 with h5 | h5
      · rw [hq.2.1] at h5; cases h5
      · exact absurd h5 hq.2.2
  · rw [if_neg hb]
    refine ⟨fun h0 => absurd h0 hb, fun _ => ⟨rfl, fun h1 h2 => ?_⟩⟩
    show begC fs c u d = 1
    unfold begC
    rw [if_pos h1, if_pos h2]

theorem law_app (fs : List FileV) (c u : Int) (d : Bool) (nm t : ByteArray) : StepLaw fs c u d (appF fs c u d nm t) := by
  rw [← appF_step]; exact stepF_law (fun h hc => good_app h nm t hc)
theorem law_cre (fs : List FileV) (c u : Int) (d : Bool) (nm : ByteArray) : StepLaw fs c u d (creF fs c u d nm) := by
  rw [← creF_step]; exact stepF_law (fun h hc => good_cre h nm hc)
theorem law_rem (fs : List FileV) (c u : Int) (d : Bool) (nm : ByteArray) : StepLaw fs c u d (remF fs c u d nm) := by
  rw [← remF_step]; exact stepF_law (fun h _ => good_rem h nm)
theorem law_ren (fs : List FileV) (c u : Int) (d : Bool) (nm t : ByteArray) : StepLaw fs c u d (renF fs c u d nm t) := by
  rw [← renF_step]; exact stepF_law (fun h hc => good_ren h nm t hc)
theorem law_tru (fs : List FileV) (c u : Int) (d : Bool) (nm : ByteArray) (m : Int) : StepLaw fs c u d (truF fs c u d nm m) := by
  rw [← truF_step]; exact stepF_law (fun h hc => good_tru h nm m hc)

/-- A file of this name is there: its text is told. -/
theorem textA_of {R : List FileV} {c u : Int} (hok : diskOk R c u = true) {f : FileV} (hf : f ∈ R) {x : ByteArray} (hn : f.name = x) : textA R c u x = (f.text, true) := by
  have h1 : ¬ findF R x < 0 := fun h => findF_none h f hf hn
  obtain ⟨k, hk, hkl, hkn⟩ := findF_name h1
  have e : R[k] = f := apart_eq (rising_of hok).apart (List.getElem_mem hkl) hf (by rw [hkn, hn])
  unfold textA
  rw [if_pos hok, if_neg h1, hk, Int.toNat_natCast, getD_of hkl, e]
/-- Where a step has gone well: how it came to its answer. -/
theorem stepF_ok {fs : List FileV} {c u : Int} {d : Bool} {code : Int} {R : List FileV} (h : (stepF fs c u d code R).2 = 0) : begC fs c u d = 0 ∧ code = 0 ∧ (stepF fs c u d code R).1 = R := by
  unfold stepF at h ⊢
  by_cases hb : begC fs c u d = 0
  · rw [if_pos hb] at h ⊢
    have h' : code = 0 := h
    exact ⟨hb, h', by simp [h']⟩
  · rw [if_neg hb] at h
    exact absurd h hb
theorem text_app {fs : List FileV} {c u : Int} {d : Bool} {nm t : ByteArray} (h : (appF fs c u d nm t).2 = 0) : (textA fs c u nm).2 = true ∧ (textA (appF fs c u d nm t).1 c (begU fs c u d) nm) = ((textA fs c u nm).1 ++ t, true) := by
  have hL := (law_app fs c u d nm t).good h
  rw [← appF_step] at h hL ⊢
  obtain ⟨hb, hc, hR⟩ := stepF_ok h
  rw [hR] at hL ⊢
  have hf : ¬ findF fs nm < 0 := fun h2 => by unfold appC at hc; rw [if_pos h2] at hc; omega
  obtain ⟨k, hk, hkl, hkn⟩ := findF_name hf
  have h0 : textA fs c u nm = ((fs[k]).text, true) := textA_of (begC_ok hb) (List.getElem_mem hkl) hkn
  have h1 : (⟨(fs[k]).name, (fs[k]).text ++ t, (fs[k]).safe⟩ : FileV) ∈ appR fs nm t := by
    unfold appR
    rw [hk, Int.toNat_natCast, getD_of hkl]
    exact List.mem_set hkl _
  rw [h0]
  exact ⟨rfl, textA_of hL.1 h1 hkn⟩
theorem text_rem {fs : List FileV} {c u : Int} {d : Bool} {nm : ByteArray} (h : (remF fs c u d nm).2 = 0) : (textA (remF fs c u d nm).1 c (begU fs c u d) nm).2 = false := by
  rw [← remF_step] at h ⊢
  obtain ⟨hb, hc, hR⟩ := stepF_ok h
  rw [hR]
  have hf : ¬ findF fs nm < 0 := fun h2 => by unfold remC at hc; rw [if_pos h2] at hc; omega
  rw [remR_others (rising_of (begC_ok hb)).apart nm hf]
  have h1 : findF (others fs nm) nm < 0 := by
    rcases Int.lt_or_le (findF (others fs nm) nm) 0 with h2 | h2
    · exact h2
    · obtain ⟨k, hk, hkl, hkn⟩ := findF_name (Int.not_lt.2 h2)
      exact absurd hkn (mem_others.1 (List.getElem_mem hkl)).2
  unfold textA
  split
  · rfl
  · rfl
theorem text_ren {fs : List FileV} {c u : Int} {d : Bool} {nm t : ByteArray} (h : (renF fs c u d nm t).2 = 0) : textA (renF fs c u d nm t).1 c (begU fs c u d) t = ((textA fs c u nm).1, true) := by
  have hL := (law_ren fs c u d nm t).good h
  rw [← renF_step] at h hL ⊢
  obtain ⟨hb, hc, hR⟩ := stepF_ok h
  rw [hR] at hL ⊢
  obtain ⟨h1, hf⟩ := renC_ok hc
  obtain ⟨k, hk, hkl, hkn⟩ := findF_name hf
  have h0 : textA fs c u nm = ((fs[k]).text, true) := textA_of (begC_ok hb) (List.getElem_mem hkl) hkn
  have hp := renR_perm (rising_of (begC_ok hb)) nm t k hk hkl hkn
  rw [h0]
  exact textA_of hL.1 (hp.mem_iff.2 List.mem_cons_self) rfl

/-- How much the files of a right disk weigh. -/
theorem GoodF.size {fs : List FileV} {c : Int} (h : GoodF fs c) : szFs fs ≤ usedF fs + 12 * fs.length := by
  have hk := h.ok
  clear h
  induction fs with
  | nil => simp [szFs]
  | cons f r ih =>
    have h1 := (okF_parts (hk f List.mem_cons_self)).1
    have h2 : f.name.size ≤ 12 := by
      unfold nameOk at h1
      rw [Bool.and_eq_true, decide_eq_true_eq] at h1
      exact h1.2.2
    have h3 := ih (fun g hg => hk g (List.mem_cons_of_mem _ hg))
    simp [szFs, szF, usedF]
    omega

end Go.Proofs.YthhjomaccbpnbaaDoor
namespace Go.Proofs.YthhjomaccbpnbaaDoor
open Go.RowKit
open Plain

def newC (x : Int) : Int := if 0 ≤ x ∧ x ≤ 100000 then x else 0
def newU (x : Int) : Int := if 0 ≤ x ∧ x ≤ 100000 then -1 else 0

set_option maxRecDepth 100000 in
set_option maxHeartbeats 1000000 in
theorem specNew_any (x : Int) (w : World) :
    Calls Tryd.prog 52 #[.int .i64 x] w fun e w' => e = .returned (.agg #[.slice none 0 0, .int .i64 (newC x), .int .i64 (newU x), .bool false]) ∧ Below w.heap.size w w' := by
  go_enter Tryd.func52, Tryd.ntmps52
  go_wp2_with fail
  refine (in_any x 0 100000 _).mono ?_
  rintro e w2 ⟨rfl, rfl⟩
  by_cases h : 0 ≤ x ∧ x ≤ 100000
  · have HC : Hid (newC x = x ∧ newU x = -1) := hide (by unfold newC newU; rw [if_pos h, if_pos h]; exact ⟨rfl, rfl⟩)
    have hd : decide (0 ≤ x ∧ x ≤ 100000) = true := by simpa using h
    rw [hd]
    clear h hd
    go_wp2
    refine bodyPost_ret (v := .agg #[.slice none 0 0, .int .i64 x, .int .i64 (-1), .bool false]) (by simp [results, Tryd.results52, go_sem]) rfl ⟨by rw [HC.out.1, HC.out.2], ?_⟩
    exact (Below.refl _ _).alloc (Nat.le_refl _) _
  · have HC : Hid (newC x = 0 ∧ newU x = 0) := hide (by unfold newC newU; rw [if_neg h, if_neg h]; exact ⟨rfl, rfl⟩)
    have hd : decide (0 ≤ x ∧ x ≤ 100000) = false := by simpa using h
    rw [hd]
    clear h hd
    go_wp2
    refine bodyPost_ret (v := .agg #[.slice none 0 0, .int .i64 0, .int .i64 0, .bool false]) (by simp [results, Tryd.results52, go_sem]) rfl ⟨by rw [HC.out.1, HC.out.2], ?_⟩
    exact (Below.refl _ _).alloc (Nat.le_refl _) _

end Go.Proofs.YthhjomaccbpnbaaDoor
namespace Go.Proofs.YthhjomaccbpnbaaDoor
open Go.RowKit Go.Maps
open Plain

theorem beg_good {fs : List FileV} (h : GoodF fs 200) : begC fs 200 (-1) false = 0 ∧ begU fs 200 (-1) false = -1 ∧ begD fs 200 (-1) false = false := by
  have h1 : diskOk fs 200 (-1) = true := h.diskOk (by omega) (by omega)
  refine ⟨by unfold begC; rw [if_pos h1, if_neg (by simp)], by unfold begU; rw [if_neg (by rintro ⟨-, -, h⟩; omega)], by unfold begD; rw [if_pos h1, if_neg (by omega)]⟩
/-- What a step makes of right files. -/
theorem good_stepF {fs : List FileV} {code : Int} {R : List FileV} (h : GoodF fs 200) (hR : code = 0 → GoodF R 200) : GoodF (stepF fs 200 (-1) false code R).1 200 := by
  unfold stepF
  rw [if_pos (beg_good h).1]
  show GoodF (if code = 0 then R else fs) 200
  split
  · rename_i h0; exact hR h0
  · exact h
theorem good_creF {fs : List FileV} (h : GoodF fs 200) (nm : ByteArray) : GoodF (creF fs 200 (-1) false nm).1 200 := by rw [← creF_step]; exact good_stepF h (fun hc => good_cre h nm hc)
theorem good_appF {fs : List FileV} (h : GoodF fs 200) (nm t : ByteArray) : GoodF (appF fs 200 (-1) false nm t).1 200 := by rw [← appF_step]; exact good_stepF h (fun hc => good_app h nm t hc)
theorem good_renF {fs : List FileV} (h : GoodF fs 200) (nm t : ByteArray) : GoodF (renF fs 200 (-1) false nm t).1 200 := by rw [← renF_step]; exact good_stepF h (fun hc => good_ren h nm t hc)
theorem good_synF {fs : List FileV} (h : GoodF fs 200) (nm : ByteArray) : GoodF (synF fs 200 (-1) false nm).1 200 := by
  unfold synF
  rw [if_pos (beg_good h).1]
  split
  · exact h
  · rename_i hf; exact good_syn h nm hf
theorem good_nil : GoodF [] 200 := ⟨by simp, by simp [usedF], List.Pairwise.nil, fun f hf => by simp at hf⟩
theorem synF_len' (fs : List FileV) (c u : Int) (d : Bool) (nm : ByteArray) : (synF fs c u d nm).1.length = fs.length := by
  unfold synF
  split
  · split
    · rfl
    · simp
  · rfl

/-- Where a row's first cell is. -/
theorem FOwn.at0 {w : World} {base : Nat} {a : Option Addr} {n cap : Nat} {fs : List FileV} (h : FOwn w base (.slice a n cap) fs) : (a = none ∧ n = 0 ∧ cap = 0) ∨ ∃ g, a = some ⟨g, 0, none⟩ := by
  rcases h.2 with ⟨e, h0⟩ | ⟨g, c, cur, e, _⟩
  · simp only [Value.slice.injEq] at e
    exact .inl ⟨e.1, e.2.1, e.2.2⟩
  · simp only [Value.slice.injEq] at e
    exact .inr ⟨g, e.1⟩
theorem FOwn.cap0 {w : World} {base : Nat} {a : Option Addr} {n cap : Nat} {fs : List FileV} (h : FOwn w base (.slice a n cap) fs) : a = none → cap = 0 := by
  rcases h.at0 with ⟨_, _, h3⟩ | ⟨g, rfl⟩
  · exact fun _ => h3
  · intro e; cases e
theorem FOwn.rowZ {w : World} {base : Nat} {a : Option Addr} {n cap : Nat} {fs : List FileV} (h : FOwn w base (.slice a n cap) fs) : FRow w 0 a n fs where
  len := h.row.len
  cells := fun i hi => by
    obtain ⟨b, off, h1, _, h3⟩ := h.row.cells i hi
    exact ⟨b, off, h1, Nat.zero_le _, h3⟩
/-- A block that holds a disk is none that holds files. -/
theorem FOwn.blkNe {w : World} {base : Nat} {v : Value} {fs : List FileV} (h : FOwn w base v fs) {b : Nat} {cs : Array Value} {t : TypeId} (hb : w.heap[b]? = some (.cells cs t (0, 0))) (ht : t ≠ 51) : v.ownBlock ≠ some b := by
  intro e
  rcases h.2 with ⟨rfl, _⟩ | ⟨g, c, cur, rfl, _, hg, _⟩
  · cases e
  · simp only [Value.ownBlock, Option.some.injEq] at e
    subst e
    rw [hg] at hb
    simp only [Option.some.injEq, Obj.cells.injEq] at hb
    exact ht hb.2.1.symm
/-- What is drawn from the cursor leaves rows behind it alone. -/
theorem FOwn.grownB {w w' : World} {base B : Nat} {v : Value} {fs : List FileV} (h : FOwn w base v fs) (hg : w.grownBy w' (some B)) (hB : B < base) : FOwn w' base v fs := by
  refine World.ownsRow.kept h hg ?_
  cases e : v.ownBlock with
  | none => exact .inl rfl
  | some g => exact .inr (fun q => by injection q with q; have := (h.blk g e).1; omega)

/-- A world in the midst of l3Disk: the answer's block, the disk's block bd. -/
structure DMid (w wr : World) (B : Nat) (a : Option Addr) (len cap : Nat) (zs : List Int) (bd : Nat) (a' : Option Addr) (k cap' : Nat) (fs : List FileV) : Prop where
  cur : CurX wr B a len cap zs
  res : wr.heap[w.heap.size]? = some (.cells #[.slice none 0 0, .int .i64 0, .int .i64 0, .bool false] 26 (0, 0))
  dsk : wr.heap[bd]? = some (.cells #[.slice a' k cap', .int .i64 200, .int .i64 (-1), .bool false] 26 (0, 0))
  own : FOwn wr (w.heap.size + 1) (.slice a' k cap') fs
  good : GoodF fs 200
  gro : w.grownBy wr (some B)
  lo : w.heap.size < bd
  hB : B < w.heap.size
theorem DMid.grown {w wr wr' : World} {B : Nat} {a : Option Addr} {len cap : Nat} {zs : List Int} {bd : Nat} {a' : Option Addr} {k cap' : Nat} {fs : List FileV} (h : DMid w wr B a len cap zs bd a' k cap' fs) (hg : wr.grownBy wr' (some B)) (hc : CurX wr' B a len cap zs) : DMid w wr' B a len cap zs bd a' k cap' fs where
  cur := hc
  res := by have := h.hB; rw [hg.block _ (lt_of_block h.res) (fun e => by injection e with e; omega)]; exact h.res
  dsk := by have := h.hB; have := h.lo; rw [hg.block _ (lt_of_block h.dsk) (fun e => by injection e with e; omega)]; exact h.dsk
  own := h.own.grownB hg (by have := h.hB; omega)
  good := h.good
  gro := grown_trans h.gro hg
  lo := h.lo
  hB := h.hB
theorem DMid.later {w wr wr' : World} {B : Nat} {a : Option Addr} {len cap : Nat} {zs : List Int} {bd : Nat} {a' : Option Addr} {k cap' : Nat} {fs : List FileV} (h : DMid w wr B a len cap zs bd a' k cap' fs) (hb : Below wr.heap.size wr wr') : DMid w wr' B a len cap zs bd a' k cap' fs :=
  h.grown ⟨hb.os, hb.tape, hb.output, hb.size, fun i hi _ => hb.block i hi⟩ (h.cur.below hb h.cur.lt)

/-- Four cells of a block written. -/
def set4 (w : World) (b : Nat) (v0 v1 v2 v3 : Value) : World := (((w.setCell ⟨b, 0, none⟩ v0).setCell ⟨b, 1, none⟩ v1).setCell ⟨b, 2, none⟩ v2).setCell ⟨b, 3, none⟩ v3
theorem set4_other (w : World) (b i : Nat) (v0 v1 v2 v3 : Value) (h : i ≠ b) : (set4 w b v0 v1 v2 v3).heap[i]? = w.heap[i]? := by
  unfold set4
  rw [Below.heap_setCell _ _ _ _ h, Below.heap_setCell _ _ _ _ h, Below.heap_setCell _ _ _ _ h, Below.heap_setCell _ _ _ _ h]
theorem set4_size (w : World) (b : Nat) (v0 v1 v2 v3 : Value) : (set4 w b v0 v1 v2 v3).heap.size = w.heap.size := by simp [set4, World.setCell]
theorem set4_heap {w : World} {b : Nat} {x0 x1 x2 x3 : Value} {t : TypeId} (h : w.heap[b]? = some (.cells #[x0, x1, x2, x3] t (0, 0))) (v0 v1 v2 v3 : Value) : (set4 w b v0 v1 v2 v3).heap[b]? = some (.cells #[v0, v1, v2, v3] t (0, 0)) := by
  unfold set4
  rw [heap_setCell_cells (heap_setCell_cells (heap_setCell_cells (heap_setCell_cells h _) _) _) _]
  rfl
theorem FOwn.set4 {w : World} {base : Nat} {v : Value} {fs : List FileV} (h : FOwn w base v fs) {b : Nat} (hb : v.ownBlock ≠ some b) (v0 v1 v2 v3 : Value) : FOwn (set4 w b v0 v1 v2 v3) base v fs :=
  (((h.setNe _ _ hb).setNe _ _ hb).setNe _ _ hb).setNe _ _ hb
theorem grown_set4 {w wr : World} {B b : Nat} (h : w.grownBy wr (some B)) (hb : w.heap.size ≤ b) (v0 v1 v2 v3 : Value) : w.grownBy (set4 wr b v0 v1 v2 v3) (some B) :=
  ⟨h.os, h.tape, h.output, by rw [set4_size]; exact h.size, fun i hi hr => by rw [set4_other _ _ _ _ _ _ _ (by omega)]; exact h.block i hi hr⟩
theorem CurX.set4 {w : World} {B : Nat} {a : Option Addr} {len cap : Nat} {zs : List Int} (h : CurX w B a len cap zs) {b : Nat} (hb : B < b) (v0 v1 v2 v3 : Value) : CurX (set4 w b v0 v1 v2 v3) B a len cap zs :=
  (((h.set ⟨b, 0, none⟩ v0 hb).set ⟨b, 1, none⟩ v1 hb).set ⟨b, 2, none⟩ v2 hb).set ⟨b, 3, none⟩ v3 hb
/-- A step's answer goes into x, and from there into the disk. -/
theorem DMid.put {w wr : World} {B : Nat} {a : Option Addr} {len cap : Nat} {zs : List Int} {bd : Nat} {a' : Option Addr} {k cap' : Nat} {fs : List FileV} (h : DMid w wr B a len cap zs bd a' k cap' fs) {xb : Nat} {x0 x1 x2 x3 : Value} (hx : wr.heap[xb]? = some (.cells #[x0, x1, x2, x3] 26 (0, 0))) (hlt : bd < xb)
    {a2 : Option Addr} {m cap2 : Nat} {R : List FileV} (ho : FOwn wr (w.heap.size + 1) (.slice a2 m cap2) R) (hg : GoodF R 200) :
    DMid w (set4 (set4 wr xb (.slice a2 m cap2) (.int .i64 200) (.int .i64 (-1)) (.bool false)) bd (.slice a2 m cap2) (.int .i64 200) (.int .i64 (-1)) (.bool false)) B a len cap zs bd a2 m cap2 R where
  cur := (h.cur.set4 (by have := h.hB; have := h.lo; omega) _ _ _ _).set4 (by have := h.hB; have := h.lo; omega) _ _ _ _
  res := by have := h.lo; rw [set4_other _ _ _ _ _ _ _ (by omega), set4_other _ _ _ _ _ _ _ (by omega)]; exact h.res
  dsk := by
    have h1 := h.dsk
    rw [← set4_other wr xb bd (.slice a2 m cap2) (.int .i64 200) (.int .i64 (-1)) (.bool false) (by omega)] at h1
    exact set4_heap h1 _ _ _ _
  own := (ho.set4 (ho.blkNe hx (by decide)) _ _ _ _).set4 (ho.blkNe h.dsk (by decide)) _ _ _ _
  good := hg
  gro := grown_set4 (grown_set4 h.gro (by have := h.lo; omega) _ _ _ _) (by have := h.lo; omega) _ _ _ _
  lo := h.lo
  hB := h.hB

end Go.Proofs.YthhjomaccbpnbaaDoor
