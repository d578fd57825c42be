/-
  impl.Frame and impl.Unframe, under what the package's table holds.
-/
import Derived.Test.YthnealhaleccpaaDoorFramePlain
import Derived.Test.YthnealhaleccpaaDoorShowImpl
import Derived.Test.YthnealhaleccpaaDoorTaker
import Derived.Test.YthnealhaleccpaaDoorCrcImpl
namespace Go.Proofs.YthnealhaleccpaaDoor
open Go.RowKit
open Plain

/-- In whatever world whose table is right f answers v and touches nothing that was there. -/
def AnsT (f : FuncId) (args : Array Value) (v : Value) : Prop := ∀ w, STab w → Calls Tryd.prog f args w fun e w' => e = .returned v ∧ Below w.heap.size w w'

theorem uf_no (s : ByteArray) (h : sumF s = true ∨ txtF (sumR s) = true ∨ 200 < (txtV (sumR s)).size ∨ ¬ crcN (textS (txtV (sumR s))) = sumV s) : uf s = (⟨#[]⟩, 0) := by
  refine uf_of (Or.inr ⟨rfl, rfl, ?_⟩)
  rintro u T hu rfl
  have e : frameS u ++ T = fixN (crcN (textS u) : Int) 4 ++ (textS u ++ T) := by rw [frameS_in u hu, ByteArray.append_assoc]; rfl
  obtain ⟨a1, a2, a3⟩ := sum_fix (crcN (textS u)) (crcN_le _) (textS u ++ T)
  obtain ⟨b1, b2, b3⟩ := txt_text u T (by omega)
  rw [e, a1, a2, a3, b1, b3] at h
  rcases h with h | h | h | h
  · cases h
  · cases h
  · omega
  · exact h rfl
theorem uf_yes (s : ByteArray) (h1 : sumF s = false) (h2 : txtF (sumR s) = false) (h3 : (txtV (sumR s)).size ≤ 200) (h4 : crcN (textS (txtV (sumR s))) = sumV s) : uf s = (txtV (sumR s), 4 + (textS (txtV (sumR s))).size) := by
  refine uf_of (Or.inl ⟨h3, ?_, txtR (sumR s), ?_⟩)
  · rw [frameS_in _ h3, ByteArray.size_append, sumS_size]
  · have e1 := sum_back s h1
    have e2 := txt_back (sumR s) h2
    rw [frameS_in _ h3, ByteArray.append_assoc, e2]
    unfold sumS
    rw [h4, e1]
theorem summed_eq (s : ByteArray) (h : txtF s = false) : s.extract 0 (s.size - (txtR s).size) = textS (txtV s) := by
  have e := txt_back s h
  have hz : s.size = (textS (txtV s)).size + (txtR s).size := by rw [← ByteArray.size_append, e]
  have ht := ba_take (textS (txtV s)) (txtR s)
  rw [e] at ht
  rw [show s.size - (txtR s).size = (textS (txtV s)).size from by omega, ht]

set_option maxRecDepth 100000 in
set_option maxHeartbeats 1000000 in
theorem implFrame_any (s : ByteArray) (hs : s.size ≤ 1048576) : AnsT 28 #[.string s] (.string (frameS s)) := by
  intro w ht
  have HTB := hide ht
  clear ht
  by_cases h : s.size ≤ 200
  · have t0 : decide ((200 : Int) < (s.size : Int)) = false := by simp; omega
    have HV := hide (showText_any s hs)
    have HF : Hid (frameS s = fixN (crcN (textS s) : Int) 4 ++ textS s) := hide (frameS_in s h)
    have hz := textS_size' s
    have HC : Hid (∀ W, STab W → _) := hide (fun W hW => implCrc_any (textS s) W (by omega) hW)
    have HX := hide (implFix4_any (crcN (textS s) : Int) (by have := crcN_le (textS s); omega))
    have h4 := fixN_size (crcN (textS s) : Int) 4
    have z2 : ¬ 9223372036854775807 < (fixN (crcN (textS s) : Int) 4).size + (textS s).size := by omega
    generalize fixN (crcN (textS s) : Int) 4 = f at *
    generalize crcN (textS s) = c at *
    generalize textS s = t at *
    clear h
    go_enter Tryd.func28, Tryd.ntmps28
    go_wp2_with fail
    refine (HV.out _).mono ?_
    rintro e w1 ⟨rfl, hb1⟩
    have HB1 := hide hb1
    have HT1 := hide (HTB.out.later hb1)
    clear hb1 HV HTB
    go_wp2_with fail
    refine (HC.out _ HT1.out).mono ?_
    rintro e w2 ⟨rfl, hb2⟩
    have HB2 := hide (HB1.out.trans (hb2.mono HB1.out.size))
    clear hb2 HC HB1 HT1
    go_wp2_with fail
    refine (HX.out _).mono ?_
    rintro e w3 ⟨rfl, hb3⟩
    have HB3 := hide (HB2.out.trans (hb3.mono HB2.out.size))
    clear hb3 HX HB2
    go_wp2
    go_ret
    exact ⟨by rw [HF.out]; rfl, HB3.out⟩
  · have t0 : decide ((200 : Int) < (s.size : Int)) = true := by simp; omega
    have HF : Hid (frameS s = ⟨#[]⟩) := hide (frameS_out s h)
    clear h
    go_enter Tryd.func28, Tryd.ntmps28
    go_wp2
    go_ret
    exact ⟨by rw [HF.out]; rfl, Below.refl _ _⟩

theorem tk_new (w : World) (s : ByteArray) : TkAt w w.heap.size s false (w.alloc (.cells #[.string s, .bool false] 57)) := ⟨heap_alloc_new w _, Nat.le_refl _, al1 _ _⟩

set_option maxRecDepth 100000 in
set_option maxHeartbeats 4000000 in
theorem implUnframe_any (s : ByteArray) (hs : s.size ≤ 1048576) : AnsT 33 #[.string s] (.tuple #[.string (uf s).1, .int .i64 ((uf s).2 : Nat)]) := by
  intro w ht
  have HTB := hide ht
  have HA := hide (tk_new w s)
  clear ht
  have HNO := hide (uf_no s)
  have HYES := hide (uf_yes s)
  have hsR : (sumR s).size ≤ s.size := by
    unfold sumR
    split
    · rw [ba_len _ _ _ (by omega) (Nat.le_refl _)]; omega
    · exact Nat.le_refl _
  have HSUM := hide (summed_eq (sumR s))
  have hV := txtV_size (sumR s)
  have hR := txtR_size (sumR s)
  have HTK : Hid (∀ W, TkAt w w.heap.size (sumR s) (false || sumF s) W → _) := hide (fun W hW => tkText_any w W w.heap.size (sumR s) (false || sumF s) hW (by omega))
  have HCRC : Hid ((txtV (sumR s)).size ≤ 200 → ∀ W, STab W → _) := hide (fun hz W hW => implCrc_any (textS (txtV (sumR s))) W (by have := textS_size' (txtV (sumR s)); omega) hW)
  have hsz := textS_size' (txtV (sumR s))
  go_enter Tryd.func33, Tryd.ntmps33
  go_wp2_with fail
  refine (tkSum_any w _ w.heap.size s false HA.out hs).mono ?_
  rintro e w1 ⟨rfl, h1⟩
  obtain ⟨c0, c1⟩ := h1.cells
  have H1 := hide h1
  clear h1 HA
  go_wp2_with fail
  clear c0 c1
  refine (HTK.out _ H1.out).mono ?_
  rintro e w2 ⟨rfl, h2⟩
  obtain ⟨c0, c1⟩ := h2.cells
  have HB2 := hide h2.bel
  have HT2 := hide (HTB.out.later h2.bel)
  clear h2 HTK H1 HTB
  generalize sumV s = sm at *
  generalize sumF s = f1 at *
  generalize sumR s = B at *
  generalize txtF B = f2 at *
  generalize hR0 : txtR B = R at *
  generalize hV0 : txtV B = T at *
  clear hR0 hV0
  by_cases hf : (false || f1 || f2) = true
  · rw [hf] at c1
    have HE : Hid (uf s = (⟨#[]⟩, 0)) := hide (HNO.out (by cases f1 <;> cases f2 <;> simp_all))
    clear HNO HYES HSUM HCRC
    go_wp2
    go_ret2
    rw [HE.out]
    exact ⟨rfl, HB2.out⟩
  have hf' : (false || f1 || f2) = false := by simpa using hf
  rw [hf'] at c1
  have hf1 : f1 = false := by cases f1 <;> simp_all
  have hf2 : f2 = false := by cases f2 <;> simp_all
  clear hf hf'
  by_cases h200 : T.size ≤ 200
  · have t0 : decide ((200 : Int) < (T.size : Int)) = false := by simp; omega
    have HS2 := hide (HSUM.out hf2)
    have HC := hide (HCRC.out h200)
    have b0 : (0 : Int) ≤ (B.size : Int) - (R.size : Int) := by omega
    have b1 : (B.size : Int) - (R.size : Int) ≤ (B.size : Int) := by omega
    have HN : Hid (((B.size : Int) - (R.size : Int)).toNat = B.size - R.size) := hide (by omega)
    have hsl : ∀ W : World, (Instr.slice 9 (.string B) none (some (.int .i64 ((B.size : Int) - (R.size : Int)))) none).run Tryd.prog W = .ok (.string (textS T)) W := fun W => by
      rw [run_slice_string_h W 9 B Tryd.underlying9 .i64 _ b0 b1, HN.out, HS2.out]
    clear HSUM HCRC HS2 HN
    by_cases hc : crcN (textS T) = sm
    · have HE : Hid (uf s = (T, 4 + (textS T).size)) := hide (HYES.out hf1 hf2 h200 hc)
      have q : ((crcN (textS T) : Int) != (sm : Int)) = false := by simp; omega
      clear HNO HYES hc
      generalize crcN (textS T) = cc at *
      generalize textS T = X at *
      go_wp2_with fail
      refine (HC.out _ HT2.out).mono ?_
      rintro e w3 ⟨rfl, hb3⟩
      have HB3 := hide (HB2.out.trans (hb3.mono HB2.out.size))
      clear hb3 HC HB2 HT2 c0 c1
      go_wp2
      go_ret2
      rw [HE.out]
      exact ⟨by simp, HB3.out⟩
    · have HE : Hid (uf s = (⟨#[]⟩, 0)) := hide (HNO.out (Or.inr (Or.inr (Or.inr hc))))
      have q : ((crcN (textS T) : Int) != (sm : Int)) = true := by simp; omega
      clear HNO HYES hc
      generalize crcN (textS T) = cc at *
      generalize textS T = X at *
      go_wp2_with fail
      refine (HC.out _ HT2.out).mono ?_
      rintro e w3 ⟨rfl, hb3⟩
      have HB3 := hide (HB2.out.trans (hb3.mono HB2.out.size))
      clear hb3 HC HB2 HT2 c0 c1
      go_wp2
      go_ret2
      rw [HE.out]
      exact ⟨rfl, HB3.out⟩
  · have t0 : decide ((200 : Int) < (T.size : Int)) = true := by simp; omega
    have HE : Hid (uf s = (⟨#[]⟩, 0)) := hide (HNO.out (Or.inr (Or.inr (Or.inl (by omega)))))
    clear HNO HYES HSUM HCRC
    go_wp2
    go_ret2
    rw [HE.out]
    exact ⟨rfl, HB2.out⟩

end Go.Proofs.YthnealhaleccpaaDoor
