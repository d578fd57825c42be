/-
  slices.BinarySearchFunc at files and a name, by its own text. impl.FileText. The closure of impl.Sync.
-/
import Derived.Test.YthhjomaccbpnbaaDoorG02
import Derived.Laws.BitsAllLaws
import Derived.Test.YthhjomaccbpnbaaDoorG04
namespace Go.Proofs.YthhjomaccbpnbaaDoor
open Go.RowKit
open Plain

theorem cmpB_lt (x y : ByteArray) : cmpB x y < 0 ↔ x.data.toList < y.data.toList := by
  unfold cmpB
  simp only [bytesLess_lt, tl]
  by_cases h1 : x.data.toList < y.data.toList
  · simp [h1]
  · by_cases h2 : y.data.toList < x.data.toList <;> simp [h1, h2]
theorem cmpB_eq (x y : ByteArray) : cmpB x y = 0 ↔ x = y := by
  unfold cmpB
  simp only [bytesLess_lt, tl]
  by_cases h1 : x.data.toList < y.data.toList
  · simp [h1]
    intro e
    rw [e] at h1
    exact List.lt_irrefl _ h1
  · by_cases h2 : y.data.toList < x.data.toList
    · simp [h1, h2]
      intro e
      rw [e] at h2
      exact List.lt_irrefl _ h2
    · simp [h1, h2]
      rcases List.le_iff_lt_or_eq.1 (List.not_lt.1 h1) with h | h
      · exact absurd h h2
      · exact name_of_data h.symm

/-- Where the search ends: the files ahead have lesser names, the others have not. -/
structure Place (fs : List FileV) (x : ByteArray) (i : Nat) : Prop where
  le : i ≤ fs.length
  lo : ∀ k, (h : k < fs.length) → k < i → (fs[k]).name.data.toList < x.data.toList
  hi : ∀ k, (h : k < fs.length) → i ≤ k → ¬ (fs[k]).name.data.toList < x.data.toList
def bsB (fs : List FileV) (x : ByteArray) (i : Nat) : Bool := decide (i < fs.length) && decide (cmpB (fs.getD i zeroF).name x = 0)

set_option maxRecDepth 100000 in
set_option maxHeartbeats 1000000 in
theorem ftC_any (f : FileV) (x : ByteArray) (W : World) : Calls Tryd.prog 37 #[.agg #[.string f.name, .string f.text, .int .i64 f.safe], .string x] W fun e w' => e = .returned (.int .i64 (cmpB f.name x)) ∧ Below W.heap.size W w' := by
  have hcon := fun W' => cmpS_any f.name x W'
  generalize cmpB f.name x = r at hcon ⊢
  go_enter Tryd.func37, Tryd.ntmps37
  go_wp2_with (go_at_call 38; refine (hcon _).mono ?_; rintro e w' ⟨rfl, rfl⟩)
  go_ret
  exact ⟨rfl, (Below.refl _ _).alloc (Nat.le_refl _) _⟩

set_option maxRecDepth 100000 in
set_option maxHeartbeats 2000000 in
theorem bsf_any (w : World) (a : Option Addr) (n cap : Nat) (fs : List FileV) (hr : FRow w 0 a n fs) (hn : n ≤ 1048576) (hris : Rising fs) (x : ByteArray) :
    Calls Tryd.prog 36 #[.slice a n cap, .string x, .func (.func 37) #[] #[]] w fun e w' => (∃ i : Nat, e = .returned (.tuple #[.int .i64 i, .bool (bsB fs x i)]) ∧ Place fs x i) ∧ Below w.heap.size w w' := by
  have HR := hide hr
  have hlen := hr.len
  clear hr
  go_enter Tryd.func36, Tryd.ntmps36
  go_wp2
  go_loopw [9, 10] (fun i j wr => ∃ I J : Nat, I ≤ J ∧ J ≤ n ∧ i = .int .i64 I ∧ j = .int .i64 J ∧ Hid ((∀ k, (h : k < fs.length) → k < I → (fs[k]).name.data.toList < x.data.toList) ∧ (∀ k, (h : k < fs.length) → J ≤ k → ¬ (fs[k]).name.data.toList < x.data.toList)) ∧ Hid (Below w.heap.size w wr)) (fun i j _ => (intOf j).toNat - (intOf i).toNat)
  case atStart => exact ⟨0, n, by omega, by omega, rfl, rfl, hide ⟨fun k h h2 => by omega, fun k h h2 => by omega⟩, hide (Below.refl _ _)⟩
  case round =>
    obtain ⟨I, J, hIJ, hJn, rfl, rfl, HP, HB⟩ := hrel
    by_cases hlt : I < J
    · have t1 : decide ((I : Int) < (J : Int)) = true := by simp; omega
      have hH : (I + J) / 2 < fs.length := by omega
      obtain ⟨b, off, rfl, -, hbw, e1, e2, e3⟩ := (HR.out.later HB.out (Nat.le_refl _)).cells ((I + J) / 2) hH
      have HC := hide (ftC_any (fs[(I + J) / 2]) x wr)
      by_cases q : cmpB (fs[(I + J) / 2]).name x < 0
      · have t2 : decide (cmpB (fs[(I + J) / 2]).name x < 0) = true := by simpa using q
        have hq := hide ((cmpB_lt _ _).1 q)
        clear q
        go_wp2_with (go_at_call 37; refine HC.out.mono ?_; rintro e w2 ⟨rfl, hb2⟩)
        go_roundw
        case rel =>
          refine ⟨(I + J) / 2 + 1, J, by omega, hJn, by go_num, rfl, hide ⟨fun k h hk => ?_, HP.out.2⟩, hide (HB.out.trans (hb2.mono HB.out.size))⟩
          rcases Nat.lt_or_ge k ((I + J) / 2) with h1 | h1
          · exact List.lt_trans (List.pairwise_iff_getElem.1 hris k ((I + J) / 2) h hH h1) hq.out
          · obtain rfl : k = (I + J) / 2 := by omega
            exact hq.out
        case measure => first | (simp [intOf]; done) | (simp [intOf]; omega)
      · have t2 : decide (cmpB (fs[(I + J) / 2]).name x < 0) = false := by simpa using q
        have hq := hide (fun h => q ((cmpB_lt _ _).2 h))
        clear q
        go_wp2_with (go_at_call 37; refine HC.out.mono ?_; rintro e w2 ⟨rfl, hb2⟩)
        go_roundw
        case rel =>
          refine ⟨I, (I + J) / 2, by omega, by omega, rfl, by first | rfl | go_num, hide ⟨HP.out.1, fun k h hk => ?_⟩, hide (HB.out.trans (hb2.mono HB.out.size))⟩
          rcases Nat.lt_or_ge ((I + J) / 2) k with h1 | h1
          · intro h2
            exact hq.out (List.lt_trans (List.pairwise_iff_getElem.1 hris ((I + J) / 2) k hH h h1) h2)
          · obtain rfl : k = (I + J) / 2 := by omega
            exact hq.out
        case measure => first | (simp [intOf]; done) | (simp [intOf]; omega)
    · obtain rfl : I = J := by omega
      have t1 : decide ((I : Int) < (I : Int)) = false := by simp
      have HPL : Hid (Place fs x I) := hide ⟨by omega, HP.out.1, HP.out.2⟩
      clear HP
      by_cases hin : I < n
      · have t3 : decide ((I : Int) < (n : Int)) = true := by simp; omega
        have hI : I < fs.length := by omega
        obtain ⟨b, off, rfl, -, hbw, e1, e2, e3⟩ := (HR.out.later HB.out (Nat.le_refl _)).cells I hI
        have HC := hide (ftC_any (fs[I]) x wr)
        have HV : Hid (bsB fs x I = decide (cmpB (fs[I]).name x = 0)) := hide (by unfold bsB; rw [getD_of hI, decide_eq_true hI, Bool.true_and])
        obtain ⟨z, hz⟩ : ∃ z, cmpB (fs[I]).name x = z := ⟨_, rfl⟩
        rw [hz] at HV HC
        by_cases q : z = 0
        · have t4 : (z == 0) = true := by simpa using q
          have HV2 : Hid (bsB fs x I = true) := hide (by rw [HV.out]; simpa using q)
          clear q hz
          go_wp2_with (go_at_call 37; refine HC.out.mono ?_; rintro e w2 ⟨rfl, hb2⟩)
          refine bodyPost_ret (v := .tuple #[.int .i64 I, .bool true]) (by simp [results, Tryd.results36, go_sem]) rfl ⟨⟨I, by rw [HV2.out], HPL.out⟩, HB.out.trans (hb2.mono HB.out.size)⟩
        · have t4 : (z == 0) = false := by simpa using q
          have HV2 : Hid (bsB fs x I = false) := hide (by rw [HV.out]; simpa using q)
          clear q hz
          go_wp2_with (go_at_call 37; refine HC.out.mono ?_; rintro e w2 ⟨rfl, hb2⟩)
          refine bodyPost_ret (v := .tuple #[.int .i64 I, .bool false]) (by simp [results, Tryd.results36, go_sem]) rfl ⟨⟨I, by rw [HV2.out], HPL.out⟩, HB.out.trans (hb2.mono HB.out.size)⟩
      · have t3 : decide ((I : Int) < (n : Int)) = false := by simp; omega
        have HV : Hid (bsB fs x I = false) := hide (by unfold bsB; rw [decide_eq_false (by omega), Bool.false_and])
        go_wp2
        refine bodyPost_ret (v := .tuple #[.int .i64 I, .bool false]) (by simp [results, Tryd.results36, go_sem]) rfl ⟨⟨I, by rw [HV.out], HPL.out⟩, HB.out⟩

end Go.Proofs.YthhjomaccbpnbaaDoor
namespace Go.Proofs.YthhjomaccbpnbaaDoor
open Go.RowKit
open Plain

theorem place_hit {fs : List FileV} {x : ByteArray} {i : Nat} (h : Place fs x i) (hb : bsB fs x i = true) : ∃ hi : i < fs.length, (fs[i]).name = x ∧ findF fs x = (i : Int) := by
  unfold bsB at hb
  rw [Bool.and_eq_true, decide_eq_true_eq, decide_eq_true_eq] at hb
  obtain ⟨h1, h2⟩ := hb
  rw [getD_of h1, cmpB_eq] at h2
  refine ⟨h1, h2, findF_hit fs x i h1 (fun j hj e => ?_) h2⟩
  have := h.lo j (by omega) hj
  rw [e] at this
  exact List.lt_irrefl _ this
theorem place_miss {fs : List FileV} {x : ByteArray} {i : Nat} (hr : Rising fs) (h : Place fs x i) (hb : bsB fs x i = false) : findF fs x < 0 := by
  rcases Int.lt_or_le (findF fs x) 0 with h0 | h0
  · exact h0
  · exfalso
    obtain ⟨k, hk, hkl, hkn⟩ := findF_name (Int.not_lt.2 h0)
    rcases Nat.lt_trichotomy k i with h1 | h1 | h1
    · have := h.lo k hkl h1
      rw [hkn] at this
      exact List.lt_irrefl _ this
    · subst h1
      unfold bsB at hb
      rw [getD_of hkl, hkn, decide_eq_true hkl, decide_eq_true ((cmpB_eq x x).2 rfl)] at hb
      cases hb
    · have hi : i < fs.length := by omega
      have h2 := List.pairwise_iff_getElem.1 hr i k hi hkl h1
      rw [hkn] at h2
      exact h.hi i hi (Nat.le_refl _) h2

set_option maxRecDepth 100000 in
set_option maxHeartbeats 2000000 in
theorem implText_any (w : World) (a : Option Addr) (n cap : Nat) (fs : List FileV) (hr : FRow w 0 a n fs) (hn : n ≤ 1048576) (hz : szFs fs ≤ 1048576) (c u : Int) (d : Bool) (nm : ByteArray) :
    Calls Tryd.prog 16 #[.agg #[.slice a n cap, .int .i64 c, .int .i64 u, .bool d], .string nm] w fun e w' => e = .returned (.tuple #[.string (textA fs c u nm).1, .bool (textA fs c u nm).2]) ∧ Below w.heap.size w w' := by
  have hlen := hr.len
  have hbx := box4 w (.slice a n cap) (.int .i64 c) (.int .i64 u) (.bool d) 26
  obtain ⟨W, hW⟩ : ∃ W, W = w.alloc (.cells #[.slice a n cap, .int .i64 c, .int .i64 u, .bool d] 26) := ⟨_, rfl⟩
  rw [← hW] at hbx
  have HR := hide (hr.later hbx.1 (Nat.le_refl _))
  have HB := hide hbx.1
  have HX := hide hbx.2
  have HS : Hid (w.heap.size < W.heap.size) := hide (by rw [hW]; simp)
  clear hr hbx
  go_enter Tryd.func16, Tryd.ntmps16
  go_wp2_with fail
  rw [← hW]
  clear hW
  refine (implOk_any W a n cap fs HR.out (by omega) (by omega) c u d).mono ?_
  rintro e w1 ⟨rfl, hb1⟩
  have HR1 := hide (HR.out.later hb1 (Nat.le_refl _))
  have HX1 := hide ((hb1.block _ HS.out).trans HX.out)
  have HB1 := hide (HB.out.trans (hb1.mono HB.out.size))
  have HS1 := hide (Nat.lt_of_lt_of_le HS.out hb1.size)
  clear hb1 HR HX HB HS
  by_cases q : diskOk fs c u = true
  · have HRI := hide (rising_of q)
    have HQ := hide q
    rw [q]
    obtain ⟨y0, y1, y2, y3, -⟩ := cells4 HX1.out
    go_wp2_with fail
    clear y0 y1 y2 y3
    refine (bsf_any w1 a n cap fs HR1.out hn HRI.out nm).mono ?_
    rintro e w2 ⟨⟨i, rfl, hpl⟩, hb2⟩
    have HB2 := hide (HB1.out.trans (hb2.mono HB1.out.size))
    have HX2 := hide ((hb2.block _ HS1.out).trans HX1.out)
    have HR2 := hide (HR1.out.later hb2 (Nat.le_refl _))
    have HPL := hide hpl
    clear hb2 hpl HR1 HX1 HB1
    cases hq2 : bsB fs nm i with
    | false =>
      have HV : Hid (textA fs c u nm = (⟨#[]⟩, false)) := hide (by unfold textA; rw [if_pos HQ.out, if_pos (place_miss HRI.out HPL.out hq2)])
      clear hq2
      go_wp2
      refine bodyPost_ret (v := .tuple #[.string ⟨#[]⟩, .bool false]) (by simp [results, Tryd.results16, go_sem]) rfl ⟨by rw [HV.out], HB2.out⟩
    | true =>
      obtain ⟨hi, hin, hif⟩ := place_hit HPL.out hq2
      have HV : Hid (textA fs c u nm = ((fs[i]).text, true)) := hide (by unfold textA; rw [if_pos HQ.out, hif, if_neg (by omega), Int.toNat_natCast, getD_of hi])
      clear hq2 hin hif
      obtain ⟨y0, y1, y2, y3, -⟩ := cells4 HX2.out
      obtain ⟨b, off, rfl, -, hbw, e1, e2, e3⟩ := HR2.out.cells i hi
      have hi2 : (i : Int) < (n : Int) := by omega
      go_wp2
      first
        | (refine bodyPost_ret (v := .tuple #[.string (fs[i]).text, .bool true]) (by simp [results, Tryd.results16, go_sem]) rfl ⟨by rw [HV.out], HB2.out⟩)
        | (go_region; go_wp2; refine bodyPost_ret (v := .tuple #[.string (fs[i]).text, .bool true]) (by simp [results, Tryd.results16, go_sem]) rfl ⟨by rw [HV.out], HB2.out⟩)
  · have q' : diskOk fs c u = false := by simpa using q
    have HV : Hid (textA fs c u nm = (⟨#[]⟩, false)) := hide (by unfold textA; rw [if_neg q])
    rw [q']
    go_wp2
    refine bodyPost_ret (v := .tuple #[.string ⟨#[]⟩, .bool false]) (by simp [results, Tryd.results16, go_sem]) rfl ⟨by rw [HV.out], HB1.out⟩

end Go.Proofs.YthhjomaccbpnbaaDoor
namespace Go.Proofs.YthhjomaccbpnbaaDoor
open Go.RowKit Go.Maps
open Plain

set_option maxRecDepth 100000 in
set_option maxHeartbeats 1000000 in
theorem syncC_yes (W : World) (B n nb : Nat) (S : List FileV) (hm : MOwn W B n S) (hn : n ≤ 500) (f : FileV) (hf : f ∈ S) (hcell : W.cell? ⟨nb, 0, none⟩ = some (.string f.name)) (hs : f.name.size ≤ 1048576) :
    Calls Tryd.prog 27 #[.map (some B), .pointer (some ⟨nb, 0, none⟩)] W fun e w' => e = .returned .nilIface ∧ MOwn w' B (n + 1) (⟨f.name, f.text, (f.text.size : Int)⟩ :: others S f.name) ∧ W.grownBy w' (some B) := by
  have hB : B < W.heap.size := by obtain ⟨D, h1, h2⟩ := hm; exact h1.lt
  have hnl := cell_lt hcell
  have HFO := hide (implFileOf_yes W B n S hm f hf (by omega))
  obtain ⟨D, hown, hsh⟩ := hm
  have HO := hide hown
  have HSH := hide (hsh.put ⟨f.name, f.text, (f.text.size : Int)⟩)
  have hkey : keyOf Tryd.prog 9 (.string f.name) = some (litN f) := WideMaps.keyOf_string_mk Tryd.underlying9 (by unfold maxLen; omega)
  clear hown hsh
  go_enter Tryd.func27, Tryd.ntmps27
  go_wp2_with fail
  refine HFO.out.mono ?_
  rintro e w1 ⟨rfl, hb1⟩
  have c1 : w1.cell? ⟨nb, 0, none⟩ = some (.string f.name) := by rw [hb1.cell hnl]; exact hcell
  have HG1 : Hid (W.grownBy w1 none) := hide ⟨hb1.os, hb1.tape, hb1.output, hb1.size, fun i hi _ => hb1.block i hi⟩
  have HO1 := hide (HO.out.kept HG1.out (by simp))
  have hnl1 : nb < w1.heap.size := Nat.lt_of_lt_of_le hnl hb1.size
  have hne : nb ≠ w1.heap.size := by omega
  have HS1 := hide hb1.size
  clear hb1 hcell HFO HO
  go_wp2_with (at_mapUpdate; refine wpList_mapUpdate_own _ rfl _ _ _ 47 rfl 9 51 keyLaw Tryd.underlying47 _ B n _ rfl (HO1.out.alloc _) (by unfold maxLen; omega) _ _ _ rfl rfl hkey _ [] (fileElem_mk ⟨f.name, f.text, (f.text.size : Int)⟩) ?_; intro w2 hown2 hg2)
  go_ret
  refine ⟨rfl, ⟨_, hown2, HSH.out⟩, ?_⟩
  exact (HG1.out.but _ |>.andThen (World.grownBy_alloc w1 _ none) (fun j hj => by cases hj)).andThen hg2 (fun j hj => Or.inr hj)

set_option maxRecDepth 100000 in
set_option maxHeartbeats 1000000 in
theorem syncC_no (W : World) (A : SentA) (hA : SentIn W A) (B n nb : Nat) (S : List FileV) (hm : MOwn W B n S) (x : ByteArray) (hcell : W.cell? ⟨nb, 0, none⟩ = some (.string x)) (hx : ∀ g, g ∈ S → g.name ≠ x) (hs : x.size ≤ 1048576) :
    Calls Tryd.prog 27 #[.map (some B), .pointer (some ⟨nb, 0, none⟩)] W fun e w' => e = .returned (errV A 3) ∧ W.grownBy w' (some B) := by
  have HFO := hide (implFileOf_no W A hA B n S hm x hx (by omega))
  clear hm
  go_enter Tryd.func27, Tryd.ntmps27
  go_wp2_with fail
  refine HFO.out.mono ?_
  rintro e w1 ⟨rfl, hb1⟩
  have HB1 := hide hb1
  clear hb1 hcell HFO
  go_wp2
  go_ret
  refine ⟨rfl, ?_⟩
  exact (World.grownBy.but ⟨HB1.out.os, HB1.out.tape, HB1.out.output, HB1.out.size, fun i hi _ => HB1.out.block i hi⟩ _).andThen (World.grownBy_alloc w1 _ none) (fun j hj => by cases hj)

end Go.Proofs.YthhjomaccbpnbaaDoor
