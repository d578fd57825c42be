/-
  impl.inOrder: the files of a map, in the order of their names, in new memory.
-/
import Derived.Test.YthhjomaccbpnbabDoorSortF
import Derived.Test.YthhjomaccbpnbabDoorByName
import Derived.Sort.EncStr
import Derived.Sort.OwnSorted
namespace Go.Proofs.YthhjomaccbpnbabDoor
open Go.RowKit Go.Maps
open Plain

/-- What has been met of the map's files: no two of one name; just those that are no longer to come. -/
def Met (S : List FileV) (left : Lit → Bool) (ls : List FileV) : Prop := ls.Pairwise (fun f g => f.name ≠ g.name) ∧ ∀ f, f ∈ ls ↔ (f ∈ S ∧ left (litN f) = false)
theorem Met.start {D : DataW Unit} {S : List FileV} (h : Shows D S) : Met S (has D) [] := ⟨List.Pairwise.nil, fun f => by
  constructor
  · intro hf; simp at hf
  · rintro ⟨h1, h2⟩
    have h3 : has D (litN f) = true := (h.has_ f.name).2 ⟨f, h1, rfl⟩
    rw [h3] at h2
    cases h2⟩
theorem Met.step {S : List FileV} {left : Lit → Bool} {ls : List FileV} (hS : S.Pairwise (fun f g => f.name ≠ g.name)) (h : Met S left ls) {f : FileV} (hf : f ∈ S) (hl : left (litN f) = true) : Met S (fun z => left z && !z.sameKey (litN f)) (ls ++ [f]) := by
  refine ⟨List.pairwise_append.2 ⟨h.1, by simp, fun a ha b hb => ?_⟩, fun g => ?_⟩
  · obtain rfl : b = f := by simpa using hb
    intro e
    have h1 := (h.2 a).1 ha
    have : a = b := apart_eq hS h1.1 hf e
    rw [this, hl] at h1
    exact absurd h1.2 (by simp)
  · by_cases e : g = f
    · subst e
      have : (litN g).sameKey (litN g) = true := WideAt.sameKey_self (litN_key g)
      simp [hf, this]
    · by_cases en : g.name = f.name
      · constructor
        · intro hg
          rcases List.mem_append.1 hg with hg | hg
          · exact absurd (apart_eq hS ((h.2 g).1 hg).1 hf en) e
          · exact absurd (by simpa using hg) e
        · rintro ⟨h1, -⟩
          exact absurd (apart_eq hS h1 hf en) e
      · have : (litN g).sameKey (litN f) = false := sameKey_ne (lit_ne en)
        simp [h.2 g, this, e]
theorem Met.perm {S : List FileV} {left : Lit → Bool} {ls : List FileV} (hS : S.Pairwise (fun f g => f.name ≠ g.name)) (h : Met S left ls) (hl : ∀ kl, left kl = false) : ls.Perm S :=
  (List.perm_ext_iff_of_nodup (h.1.imp (fun {_ _} hne e => hne (by rw [e]))) (hS.imp (fun {_ _} hne e => hne (by rw [e])))).2 (fun f => by rw [h.2 f, hl]; simp)
/-- A file of the map, as its reading tells it. -/
theorem Shows.told {D : DataW Unit} {S : List FileV} (h : Shows D S) {f : FileV} (ha : ∀ zd, D.atKey (litN f) zd = fileD f) : f ∈ S := by
  have hh : has D (litN f) = true := has_true_of_atKey ha
  obtain ⟨g, hg, e⟩ := (h.has_ f.name).1 hh
  have h1 := h.at_ g hg .nil
  have e2 : litN g = litN f := by unfold litN; rw [e]
  rw [e2, ha] at h1
  rw [fileD_inj h1]
  exact hg

/-- 'out = append(out, f)', out a row of the call's own: what has turned is that row alone. -/
theorem wpList_app_row {ops : Array Oper} {rest : List Oper} {o : Oper} {act : Act} {Q : Exit → Act → World → Prop} (hgd : o.guard = none) (s x : Operand)
    (ho : o.op = .call { callee := .builtin .append, args := #[s, x], argTypes := #[26, 26] }) {w : World} {base : Nat} {v : Value} {fs : List FileV} (hown : FOwn w base v fs) (hb : base ≤ w.heap.size)
    (f : FileV) (hn : fs.length + 1 ≤ 1099511627776) (hs : act.eval s = v) (hx : act.eval x = .slice (some ⟨w.heap.size, 0, none⟩) 1 1)
    (h : ∀ a' cap' w', FOwn w' base (.slice a' (fs.length + 1) cap') (fs ++ [f]) → (w.alloc (.cells #[.string f.name, .string f.text, .int .i64 f.safe] 45)).grownBy w' v.ownBlock → wpList Tryd.prog ops Q rest (act.put o.dst (.slice a' (fs.length + 1) cap')) w') :
    wpList Tryd.prog ops Q (o :: rest) act (w.alloc (.cells #[.string f.name, .string f.text, .int .i64 f.safe] 45)) := by
  have hA : Below w.heap.size w (w.alloc (.cells #[.string f.name, .string f.text, .int .i64 f.safe] 45)) := (Below.refl _ _).alloc (Nat.le_refl _) _
  refine wpList_app_files hgd s x ho (hown.later hA (Nat.le_refl _)) (by simp; omega) (row_one w f) hn hs hx ?_
  intro a' n' cap' w' hn' hown' hg
  subst hn'
  exact h a' cap' w' hown' hg

set_option maxRecDepth 100000 in
set_option maxHeartbeats 400000 in
theorem implInOrder_any (w : World) (B n : Nat) (S R : List FileV) (hm : MOwn w B n S) (hn : n ≤ 1000) (hR : Rising R) (hp : R.Perm S) :
    Calls Tryd.prog 57 #[.map (some B)] w fun e w' => (∃ a' cap', e = .returned (.slice a' R.length cap') ∧ FOwn w' w.heap.size (.slice a' R.length cap') R) ∧ Below w.heap.size w w' := by
  obtain ⟨D, hown, hsh⟩ := hm
  have hsz := hown.size_le
  have hS : S.length ≤ n := by rw [← hsh.size]; exact hsz
  have HO := hide hown
  have HSH := hide hsh
  have HSZ := hide hsh.size
  obtain ⟨i0, hi, hz0, hz1, hz2⟩ := info_parts Tryd.infoF
  have HP := hide hp
  have HRi := hide hR
  have hB := hown.lt
  clear hown hsh hp hR
  go_enter Tryd.func57, Tryd.ntmps57
  go_wp2_with (first
    | (at_len; refine wpList_len_own _ rfl _ 48 rfl 9 45 Tryd.underlying48 _ B n D rfl HO.out ?_)
    | (at_make; refine wpList_make_own _ rfl _ _ 26 rfl w.heap.size 45 i0 _ 3 Tryd.underlying26 hi hz0 hz1 _ _ _ (Maps.size D) rfl rfl rfl (by rw [hz2]; omega) (by unfold maxLen; omega) (Nat.le_refl _) ?_; intro w1 ho1 hg1)
    | (at_range; refine wpList_range_own _ rfl _ 48 rfl 9 45 keyLaw Tryd.underlying48 _ B n _ rfl (HO.out.kept hg1 (by simp)) ?_; intro w0 hrg0 hg0 hs0)
    | go_in)
  go_frame
  have HO0 : Hid (FOwn w0 w.heap.size (.slice (some ⟨w.heap.size, 0, none⟩) 0 (Maps.size D)) []) := hide (ho1.kept hg0 (Or.inr (by simp [Value.ownBlock])))
  have HB0 : Hid (Below w.heap.size w w0) := hide (((Below.refl _ _).grown hg1 (Nat.le_refl _) (fun j hj => by cases hj)).grown hg0 hg1.size (fun j hj => by cases hj))
  have HRG0 := hide hrg0
  have hr1 : w.heap.size ≤ w1.heap.size := hg1.size
  obtain ⟨r, hr⟩ : ∃ r, w1.heap.size = r := ⟨_, rfl⟩
  rw [hr] at HRG0 hr1 ⊢
  clear hrg0 hg0 hs0 ho1 hg1 hr
  go_loopw [3] (fun v wr => ∃ (left : Lit → Bool) (cnt : Nat) (ls : List FileV) (a' : Option Addr) (cap' : Nat), v = .slice a' ls.length cap' ∧ ls.length + cnt ≤ Maps.size D ∧ Hid (wr.ranges Tryd.prog 9 fileElem B r n D left cnt) ∧ Hid (Met S left ls) ∧ Hid (FOwn wr w.heap.size (.slice a' ls.length cap') ls) ∧ Hid (Below w.heap.size w wr))
    (fun _ wr => wr.rangeLeft B r)
  case atStart => exact ⟨_, _, [], _, _, rfl, by simp, HRG0, hide (Met.start HSH.out), HO0, HB0⟩
  case round =>
    clear HO0 HB0 HRG0
    obtain ⟨left, cnt, ls, a', cap', rfl, hcs, HRG, HMET, HOW, HB⟩ := hrel
    go_wp2_with (first
      | (at_next; refine wpList_next_ranges _ rfl _ rfl 9 keyLaw fileElem Go.Proofs.encStr FileV.val (fun key kl hk => by obtain ⟨x, hx, _⟩ := Maps.keyOf_str Tryd.underlying9 hk; exact ⟨x, hx⟩) (fun v y hv => by obtain ⟨f, rfl, _⟩ := fileElem_inv hv; exact ⟨f, rfl⟩) B r n _ _ _ rfl HRG.out ?_ ?_)
      | go_in)
    · intro hc0 hl0
      have HPM := hide (HMET.out.perm HSH.out.apart hl0)
      have HLS : Hid (ls.length = R.length) := hide (by rw [HPM.out.length_eq, HP.out.length_eq])
      have HST := hide (sort_any wr w.heap.size a' ls.length cap' ls HOW.out (by omega))
      clear hc0 hl0
      go_wp2_with fail
      refine HST.out.mono ?_
      rintro e w' ⟨rfl, ⟨gs, hgp, hgs, hgo⟩, hgr⟩
      have HE : Hid (gs = R) := hide (HRi.out.eq_of (hgp.trans (HPM.out.trans HP.out.symm)) hgs)
      have HGO := hide hgo
      have HGR := hide hgr
      clear hgp hgs hgo hgr HST
      go_wp2
      go_ret
      have h1 := HGO.out
      rw [HE.out] at h1
      refine ⟨⟨a', cap', by rw [← HLS.out]; rfl, by rw [← HLS.out]; exact h1⟩, HB.out.grown HGR.out HB.out.size (fun j hj => ?_)⟩
      exact (HOW.out.blk j hj).1
    · intro x c kl yd yp w2 cnt2 hkey hlk hv hat hrg2 hlt hg2 hs2 hen
      obtain ⟨x', ex, rfl, _⟩ := Maps.keyOf_str Tryd.underlying9 hkey
      obtain rfl : x = x' := encStr_inj ex
      obtain rfl : yd = fileD c := by rw [fileElem_mk] at hv; simp at hv; exact hv.1.symm
      have hcx : litN c = .string x := by
        have hh : has D (.string x) = true := has_true_of_atKey hat
        obtain ⟨g, hg, e⟩ := (HSH.out.has_ ⟨x.toArray⟩).1 (by simpa using hh)
        have e2 : litN g = .string x := by unfold litN; rw [e]
        have h1 := HSH.out.at_ g hg .nil
        rw [e2, hat] at h1
        rw [fileD_inj h1, e2]
      have HCM : Hid (Met S (fun z => left z && !z.sameKey (.string x)) (ls ++ [c])) := hide (by
        rw [← hcx] at hat hlk ⊢
        exact HMET.out.step HSH.out.apart (HSH.out.told hat) hlk)
      have HRG2 := hide hrg2
      have HO2 : Hid (FOwn w2 w.heap.size (.slice a' ls.length cap') ls) := hide (HOW.out.kept hg2 (Or.inr (row_ne_iter HOW.out HRG.out).symm))
      have HB2 : Hid (Below w.heap.size w w2) := hide (HB.out.grown hg2 HB.out.size (fun j hj => by cases hj; exact hr1))
      have hsw : w.heap.size ≤ w2.heap.size := HB2.out.size
      have HLT := hide hlt
      simp only [FileV.val] at hen ⊢
      clear hkey hlk hv hat hrg2 hg2 hs2 hcx ex hlt
      have HOB := hide (HO2.out.later ((Below.refl _ w2).alloc (Nat.le_refl _) (.cells #[.string c.name, .string c.text, .int .i64 c.safe] 45)) (Nat.le_refl _))
      go_wp2_with (first
        | (at_builtin; refine wpList_app_row rfl (.tmp 15) (.tmp 17) rfl HOB.out (by simp; omega) c (by omega) rfl (by rw [size_alloc]; rfl) ?_; intro a3 cap3 w3 ho3 hg3; go_frame)
        | go_in)
      have HRG3 : Hid (w3.ranges Tryd.prog 9 fileElem B r n D (fun z => left z && !z.sameKey (.string x)) cnt2) := hide (((HRG2.out.alloc _).alloc _).kept hg3 (row_ne_low HO2.out hB) (row_ne_iter HO2.out HRG2.out))
      have HB3 : Hid (Below w.heap.size w w3) := hide (((HB2.out.alloc HB2.out.size _).alloc (by simp; omega) _).grown hg3 (by simp; omega) (fun j hj => (HO2.out.blk j hj).1))
      have HO3 := hide ho3
      clear ho3 hg3 hen
      go_roundw
      case rel => exact ⟨_, cnt2, ls ++ [c], a3, cap3, by simp, by have := HLT.out; simp; omega, HRG3, HCM, by simpa using HO3, HB3⟩
      case measure => rw [HRG3.out.left_eq, HRG.out.left_eq]; exact HLT.out

end Go.Proofs.YthhjomaccbpnbabDoor
