/-
  spec.Orphans.
-/
import Derived.Test.YthnealhaleccpaaGreatDoorG17
import Derived.Test.YthnealhaleccpaaGreatDoorMNamesIdS
import Derived.Test.YthnealhaleccpaaGreatDoorG02
import Derived.Test.YthnealhaleccpaaGreatDoorG13
import Derived.Test.YthnealhaleccpaaGreatDoorG08
namespace Go.Proofs.YthnealhaleccpaaGreatDoor
open Go.RowKit
open Plain

/-- The boxes of the two arguments stand, and what they show. -/
structure OArg (w : World) (a : Option Addr) (n cap : Nat) (c u : Int) (d : Bool) (fs : List FileV) (x : Int) (b : Option Addr) (m capb : Nat) (zs : List Int) (W : World) : Prop where
  dsk : W.heap[w.heap.size]? = some (.cells #[.slice a n cap, .int .i64 c, .int .i64 u, .bool d] 39 (0, 0))
  row : FRow W 0 a n fs
  liv : W.heap[w.heap.size + 1]? = some (.cells #[.int .i64 x, .slice b m capb] 26 (0, 0))
  ids : IRow W 0 b m zs
  bel : Below w.heap.size w W
theorem OArg.later {w : World} {a : Option Addr} {n cap : Nat} {c u : Int} {d : Bool} {fs : List FileV} {x : Int} {b : Option Addr} {m capb : Nat} {zs : List Int} {W W' : World} (h : OArg w a n cap c u d fs x b m capb zs W) (hb : Below W.heap.size W W') : OArg w a n cap c u d fs x b m capb zs W' :=
  ⟨(hb.block _ (lt_of_block h.dsk)).trans h.dsk, h.row.later hb (Nat.le_refl _), (hb.block _ (lt_of_block h.liv)).trans h.liv, h.ids.later hb (Nat.le_refl _), h.bel.trans (hb.mono h.bel.size)⟩
theorem OArg.grown {w : World} {a : Option Addr} {n cap : Nat} {c u : Int} {d : Bool} {fs : List FileV} {x : Int} {b : Option Addr} {m capb : Nat} {zs : List Int} {W W' : World} {r : Option Nat} (h : OArg w a n cap c u d fs x b m capb zs W) (h0 : FRow w 0 a n fs) (h1 : IRow w 0 b m zs) (hg : W.grownBy W' r) (hr : ∀ g, r = some g → w.heap.size + 1 < g) : OArg w a n cap c u d fs x b m capb zs W' := by
  have hb : Below w.heap.size w W' := h.bel.grown hg h.bel.size (fun g e => by have := hr g e; omega)
  exact ⟨(hg.block _ (lt_of_block h.dsk) (fun e => by have := hr _ e.symm; omega)).trans h.dsk, h0.later hb (Nat.le_refl _), (hg.block _ (lt_of_block h.liv) (fun e => by have := hr _ e.symm; omega)).trans h.liv, h1.later hb (Nat.le_refl _), hb⟩
theorem OArg.cells {w : World} {a : Option Addr} {n cap : Nat} {c u : Int} {d : Bool} {fs : List FileV} {x : Int} {b : Option Addr} {m capb : Nat} {zs : List Int} {W : World} (h : OArg w a n cap c u d fs x b m capb zs W) :
    W.cell? ⟨w.heap.size, 0, none⟩ = some (.slice a n cap) ∧ W.cell? ⟨w.heap.size, 1, none⟩ = some (.int .i64 c) ∧ W.cell? ⟨w.heap.size, 2, none⟩ = some (.int .i64 u) ∧ W.cell? ⟨w.heap.size, 3, none⟩ = some (.bool d) ∧ W.cell? ⟨w.heap.size + 1, 0, none⟩ = some (.int .i64 x) ∧ W.cell? ⟨w.heap.size + 1, 1, none⟩ = some (.slice b m capb) := by
  obtain ⟨h1, h2, h3, h4, -⟩ := cells4 h.dsk
  obtain ⟨k1, k2, -⟩ := cells2 h.liv
  exact ⟨h1, h2, h3, h4, k1, k2⟩

set_option maxRecDepth 100000 in
set_option maxHeartbeats 8000000 in
theorem specOrph_any (w : World) (a : Option Addr) (n cap : Nat) (fs : List FileV) (hr : FRow w 0 a n fs) (hz : szFs fs ≤ 1048576) (hn : n ≤ 1048576) (c u : Int) (d : Bool) (x : Int) (b : Option Addr) (m capb : Nat) (zs : List Int) (hi : IRow w 0 b m zs) (hm : m ≤ 1048576) :
    Calls Tryz.prog 19 #[.agg #[.slice a n cap, .int .i64 c, .int .i64 u, .bool d], .agg #[.int .i64 x, .slice b m capb]] w fun e w' => (∃ a' n' c', e = .returned (.slice a' n' c') ∧ TOwn w' w.heap.size (.slice a' n' c') (orphS fs c u zs)) ∧ Below w.heap.size w w' := by
  have hfn := hr.len
  have hin := hi.len
  obtain ⟨W, hW⟩ : ∃ W, W = (w.alloc (.cells #[.slice a n cap, .int .i64 c, .int .i64 u, .bool d] 39)).alloc (.cells #[.int .i64 x, .slice b m capb] 26) := ⟨_, rfl⟩
  have hA := news2 w (.cells #[.slice a n cap, .int .i64 c, .int .i64 u, .bool d] 39) (.cells #[.int .i64 x, .slice b m capb] 26)
  rw [← hW] at hA
  have HA : Hid (OArg w a n cap c u d fs x b m capb zs W) := hide ⟨hA.2.2.1, hr.later hA.2.1 (Nat.le_refl _), hA.2.2.2, hi.later hA.2.1 (Nat.le_refl _), hA.2.1⟩
  have HR := hide hr
  have HI := hide hi
  clear hA hr hi
  have HX := hide (specOk_any (W.alloc (.cells #[] 9)) a n cap fs (HA.out.row.later (al1 W _) (Nat.le_refl _)) (by omega) (by omega) c u d)
  have HOW : Hid (TOwn (W.alloc (.cells #[] 9)) (w.heap.size + 2) (.slice (some ⟨w.heap.size + 2, 0, none⟩) 0 0) []) := hide (by
    have h := TOwn.empty W
    rw [show W.heap.size = w.heap.size + 2 by rw [hW]; simp] at h
    exact h)
  have HA0 := hide (HA.out.later (al1 W (.cells #[] 9)))
  clear HA
  go_enter Tryz.func19, Tryz.ntmps19
  go_wp2_with fail
  rw [← hW]
  clear hW
  refine HX.out.mono ?_
  rintro e w1 ⟨rfl, hb1⟩
  have HA1 := hide (HA0.out.later hb1)
  have HO1 := hide (HOW.out.later hb1 (Nat.le_refl _))
  clear HX HOW HA0 hb1
  by_cases q : diskOk fs c u = true
  · have HV : Hid (orphS fs c u zs = orphL fs zs) := hide (by unfold orphS; rw [if_pos q])
    have hn130 := ok_len q
    rw [q]
    obtain ⟨y0, y1, y2, y3, y4, y5⟩ := HA1.out.cells
    go_wp2
    go_loopw [5, 6] (fun v i wr => ∃ (k : Nat) (a' : Option Addr) (n' c' : Nat), k ≤ n ∧ v = .slice a' n' c' ∧ i = .int .i64 k ∧ Hid (OArg w a n cap c u d fs x b m capb zs wr) ∧ Hid (TOwn wr (w.heap.size + 2) (.slice a' n' c') (orphL (fs.take k) zs))) (fun _ i _ => n - (intOf i).toNat)
    case atStart => exact ⟨0, _, 0, 0, by omega, rfl, rfl, HA1, HO1⟩
    case round =>
      clear HA1 HO1 y0 y1 y2 y3 y4 y5
      obtain ⟨k, a', n', c', hk, rfl, rfl, HA, HO⟩ := hrel
      obtain ⟨y0, y1, y2, y3, y4, y5⟩ := HA.out.cells
      by_cases hlt : k < n
      · have hkf : k < fs.length := by omega
        obtain ⟨bf, off, rfl, -, hbw, e1, e2, e3⟩ := HA.out.row.cells k hkf
        have HSU := hide (orphL_succ fs zs k hkf)
        have hol := orphL_len (fs.take k) zs
        rw [List.length_take] at hol
        have hnl := HO.out.len
        have hnm : (fs[k]).name.size ≤ 1048576 := Nat.le_trans (name_le fs k hkf) hz
        have HID := hide (specIdOf_any (fs[k]).name hnm)
        have HOB : Hid (orphB zs (fs[k]).name = (((io (fs[k]).name).2 && !(zs.contains (io (fs[k]).name).1)) || decide ((fs[k]).name = tempS))) := hide rfl
        have hn6 : n' ≤ 130 := by omega
        have hk2 : (k : Int) < (n : Int) := by omega
        obtain ⟨nm, hnm0⟩ : ∃ nm, (fs[k]).name = nm := ⟨_, rfl⟩
        rw [hnm0] at e1 HSU HID HOB hnm
        obtain ⟨idn, hidn⟩ : ∃ z, (io nm).1 = z := ⟨_, rfl⟩
        obtain ⟨is, his⟩ : ∃ z, (io nm).2 = z := ⟨_, rfl⟩
        rw [hidn, his] at HID HOB
        have HNM := hide hnm0
        clear hnm0 hidn his hol hnl
        go_wp2_with fail
        refine (HID.out _).mono ?_
        rintro e w2 ⟨rfl, hb2⟩
        have HA2 := hide (HA.out.later hb2)
        have HO2 := hide (HO.out.later hb2 (Nat.le_refl _))
        clear hb2 HA HO y0 y1 y2 y3 y4 y5 HID e1 e2 e3
        obtain ⟨y0, y1, y2, y3, y4, y5⟩ := HA2.out.cells
        go_wp2
        clear y0 y1 y2 y3 y4 y5
        go_loopw [9, 10] (fun h i wr => ∃ j : Nat, j ≤ m ∧ h = .bool (hasK zs idn j) ∧ i = .int .i64 j ∧ Hid (OArg w (some ⟨bf, off, none⟩) n cap c u d fs x b m capb zs wr) ∧ Hid (TOwn wr (w.heap.size + 2) (.slice a' n' c') (orphL (fs.take k) zs))) (fun _ i _ => m - (intOf i).toNat)
        case atStart => exact ⟨0, by omega, rfl, rfl, HA2, HO2⟩
        case round =>
          clear HA2 HO2
          obtain ⟨j, hj, rfl, rfl, HA, HO⟩ := hrel
          obtain ⟨y0, y1, y2, y3, y4, y5⟩ := HA.out.cells
          by_cases hjm : j < m
          · have hjz : j < zs.length := by omega
            obtain ⟨bi, oi, rfl, -, hbi, e1⟩ := HA.out.ids.cells j hjz
            have HSJ := hide (hasK_succ zs idn j hjz)
            have hj2 : (j : Int) < (m : Int) := by omega
            obtain ⟨zj, hzj⟩ : ∃ zj, zs[j] = zj := ⟨_, rfl⟩
            rw [hzj] at e1 HSJ
            clear hzj
            obtain ⟨hv, hhv⟩ : ∃ hv, hasK zs idn j = hv := ⟨_, rfl⟩
            rw [hhv] at HSJ ⊢
            clear hhv
            cases hv with
            | true =>
              go_wp2
              go_roundw
              case rel => exact ⟨j + 1, by omega, by rw [HSJ.out]; rfl, by go_num, HA, HO⟩
              case measure => first | (simp [intOf]; done) | (simp [intOf]; omega)
            | false =>
              go_wp2
              go_roundw
              case rel => exact ⟨j + 1, by omega, by rw [HSJ.out]; rfl, by go_num, HA, HO⟩
              case measure => first | (simp [intOf]; done) | (simp [intOf]; omega)
          · obtain rfl : j = m := by omega
            have hall : hasK zs idn j = zs.contains idn := by rw [← hin]; exact hasK_all zs idn
            rw [hall]
            clear hall
            generalize zs.contains idn = has at *
            obtain ⟨bf', off', q0, -, hbw, e1, e2, e3⟩ := HA.out.row.cells k hkf
            simp only [Option.some.injEq, Addr.mk.injEq] at q0
            obtain ⟨rfl, rfl, -⟩ := q0
            rw [HNM.out] at e1
            have HB : Hid (orphB zs nm = true → orphL (fs.take (k + 1)) zs = orphL (fs.take k) zs ++ [nm]) := hide (fun h => by rw [HSU.out, if_pos h])
            have HC : Hid (orphB zs nm = false → orphL (fs.take (k + 1)) zs = orphL (fs.take k) zs) := hide (fun h => by rw [HSU.out, if_neg (by rw [h]; simp), List.append_nil])
            have HAG : Hid (∀ W', (wr.alloc (.cells #[.string nm] 9)).grownBy W' (Value.slice a' n' c').ownBlock → True → OArg w (some ⟨bf, off, none⟩) n cap c u d fs x b j capb zs W') := hide (fun W' hg _ => (HA.out.later (al1 wr _)).grown HR.out HI.out hg (fun g e => by have := (World.ownsRow.lt HO.out g e).1; omega))
            have HSZ : Hid (w.heap.size + 2 ≤ wr.heap.size) := hide (lt_of_block HA.out.liv)
            by_cases ht : nm = tempS
            · have q1 := temp_eq ht
              have HSB := hide (HB.out (by rw [HOB.out, decide_eq_true ht]; simp))
              clear ht HB HC HOB HSU
              cases is with
              | true =>
                cases has with
                | true =>
                  have HO4 : Hid ((wr.alloc (.cells #[.string nm] 9)).ownsRow (w.heap.size + 2) 9 1 (.slice a' n' c') n' ((orphL (fs.take k) zs).map Value.string)) := hide (by have h := HO.out.later (al1 wr (.cells #[.string nm] 9)) (Nat.le_refl _); unfold TOwn at h; rw [HO.out.len] at h; exact h)
                  have HLN := hide HO.out.len
                  go_wp2_with (at_builtin; refine wpList_app_str rfl _ _ rfl nm HO4.out HSZ.out (by omega) rfl rfl ?_; intro v' w6 ho6 hg6; have HA6 := hide (HAG.out _ hg6 (by simp)); have HO6 : Hid (TOwn w6 (w.heap.size + 2) v' (orphL (fs.take k) zs ++ [nm])) := hide (by unfold TOwn; rw [List.length_append, HLN.out, List.map_append]; exact ho6); clear ho6 hg6)
                  have hval : ∃ a6 n6 c6, v' = .slice a6 n6 c6 := by
                    rcases HO6.out.2 with ⟨e, _⟩ | ⟨g, cap, cur, e, _⟩
                    · exact ⟨_, _, _, e⟩
                    · exact ⟨_, _, _, e⟩
                  obtain ⟨a6, n6, c6, rfl⟩ := hval
                  rw [← HSB.out] at HO6
                  clear HO4 HLN HSZ HAG HSB y0 y1 y2 y3 y4 y5
                  go_roundw
                  case rel => exact ⟨k + 1, a6, n6, c6, by omega, rfl, by go_num, HA6, HO6⟩
                  case measure => first | (simp [intOf]; done) | (simp [intOf]; omega)
                | false =>
                  have HO4 : Hid ((wr.alloc (.cells #[.string nm] 9)).ownsRow (w.heap.size + 2) 9 1 (.slice a' n' c') n' ((orphL (fs.take k) zs).map Value.string)) := hide (by have h := HO.out.later (al1 wr (.cells #[.string nm] 9)) (Nat.le_refl _); unfold TOwn at h; rw [HO.out.len] at h; exact h)
                  have HLN := hide HO.out.len
                  go_wp2_with (at_builtin; refine wpList_app_str rfl _ _ rfl nm HO4.out HSZ.out (by omega) rfl rfl ?_; intro v' w6 ho6 hg6; have HA6 := hide (HAG.out _ hg6 (by simp)); have HO6 : Hid (TOwn w6 (w.heap.size + 2) v' (orphL (fs.take k) zs ++ [nm])) := hide (by unfold TOwn; rw [List.length_append, HLN.out, List.map_append]; exact ho6); clear ho6 hg6)
                  have hval : ∃ a6 n6 c6, v' = .slice a6 n6 c6 := by
                    rcases HO6.out.2 with ⟨e, _⟩ | ⟨g, cap, cur, e, _⟩
                    · exact ⟨_, _, _, e⟩
                    · exact ⟨_, _, _, e⟩
                  obtain ⟨a6, n6, c6, rfl⟩ := hval
                  rw [← HSB.out] at HO6
                  clear HO4 HLN HSZ HAG HSB y0 y1 y2 y3 y4 y5
                  go_roundw
                  case rel => exact ⟨k + 1, a6, n6, c6, by omega, rfl, by go_num, HA6, HO6⟩
                  case measure => first | (simp [intOf]; done) | (simp [intOf]; omega)
              | false =>
                have HO4 : Hid ((wr.alloc (.cells #[.string nm] 9)).ownsRow (w.heap.size + 2) 9 1 (.slice a' n' c') n' ((orphL (fs.take k) zs).map Value.string)) := hide (by have h := HO.out.later (al1 wr (.cells #[.string nm] 9)) (Nat.le_refl _); unfold TOwn at h; rw [HO.out.len] at h; exact h)
                have HLN := hide HO.out.len
                go_wp2_with (at_builtin; refine wpList_app_str rfl _ _ rfl nm HO4.out HSZ.out (by omega) rfl rfl ?_; intro v' w6 ho6 hg6; have HA6 := hide (HAG.out _ hg6 (by simp)); have HO6 : Hid (TOwn w6 (w.heap.size + 2) v' (orphL (fs.take k) zs ++ [nm])) := hide (by unfold TOwn; rw [List.length_append, HLN.out, List.map_append]; exact ho6); clear ho6 hg6)
                have hval : ∃ a6 n6 c6, v' = .slice a6 n6 c6 := by
                  rcases HO6.out.2 with ⟨e, _⟩ | ⟨g, cap, cur, e, _⟩
                  · exact ⟨_, _, _, e⟩
                  · exact ⟨_, _, _, e⟩
                obtain ⟨a6, n6, c6, rfl⟩ := hval
                rw [← HSB.out] at HO6
                clear HO4 HLN HSZ HAG HSB y0 y1 y2 y3 y4 y5
                go_roundw
                case rel => exact ⟨k + 1, a6, n6, c6, by omega, rfl, by go_num, HA6, HO6⟩
                case measure => first | (simp [intOf]; done) | (simp [intOf]; omega)
            · have q1 := temp_ne ht
              have hob : orphB zs nm = (is && !has) := by rw [HOB.out, decide_eq_false ht, Bool.or_false]
              clear ht HOB HSU
              cases is with
              | true =>
                cases has with
                | true =>
                  have HSB : Hid (TOwn wr (w.heap.size + 2) (.slice a' n' c') (orphL (fs.take (k + 1)) zs)) := hide (by rw [HC.out hob]; exact HO.out)
                  clear hob HB HC HAG HSZ
                  go_wp2
                  go_roundw
                  case rel => exact ⟨k + 1, a', n', c', by omega, rfl, by go_num, HA, HSB⟩
                  case measure => first | (simp [intOf]; done) | (simp [intOf]; omega)
                | false =>
                  have HSB := hide (HB.out hob)
                  clear hob HB HC
                  have HO4 : Hid ((wr.alloc (.cells #[.string nm] 9)).ownsRow (w.heap.size + 2) 9 1 (.slice a' n' c') n' ((orphL (fs.take k) zs).map Value.string)) := hide (by have h := HO.out.later (al1 wr (.cells #[.string nm] 9)) (Nat.le_refl _); unfold TOwn at h; rw [HO.out.len] at h; exact h)
                  have HLN := hide HO.out.len
                  go_wp2_with (at_builtin; refine wpList_app_str rfl _ _ rfl nm HO4.out HSZ.out (by omega) rfl rfl ?_; intro v' w6 ho6 hg6; have HA6 := hide (HAG.out _ hg6 (by simp)); have HO6 : Hid (TOwn w6 (w.heap.size + 2) v' (orphL (fs.take k) zs ++ [nm])) := hide (by unfold TOwn; rw [List.length_append, HLN.out, List.map_append]; exact ho6); clear ho6 hg6)
                  have hval : ∃ a6 n6 c6, v' = .slice a6 n6 c6 := by
                    rcases HO6.out.2 with ⟨e, _⟩ | ⟨g, cap, cur, e, _⟩
                    · exact ⟨_, _, _, e⟩
                    · exact ⟨_, _, _, e⟩
                  obtain ⟨a6, n6, c6, rfl⟩ := hval
                  rw [← HSB.out] at HO6
                  clear HO4 HLN HSZ HAG HSB y0 y1 y2 y3 y4 y5
                  go_roundw
                  case rel => exact ⟨k + 1, a6, n6, c6, by omega, rfl, by go_num, HA6, HO6⟩
                  case measure => first | (simp [intOf]; done) | (simp [intOf]; omega)
              | false =>
                have HSB : Hid (TOwn wr (w.heap.size + 2) (.slice a' n' c') (orphL (fs.take (k + 1)) zs)) := hide (by rw [HC.out hob]; exact HO.out)
                clear hob HB HC HAG HSZ
                go_wp2
                go_roundw
                case rel => exact ⟨k + 1, a', n', c', by omega, rfl, by go_num, HA, HSB⟩
                case measure => first | (simp [intOf]; done) | (simp [intOf]; omega)
      · obtain rfl : k = n := by omega
        have HE : Hid (TOwn wr w.heap.size (.slice a' n' c') (orphS fs c u zs)) := hide (by
          have h := HO.out
          rw [List.take_of_length_le (by omega)] at h
          rw [HV.out]
          exact ⟨h.1, by rcases h.2 with h1 | ⟨g, cc, cur, e, hbg, h1⟩; · exact .inl h1
                         · exact .inr ⟨g, cc, cur, e, by omega, h1⟩⟩)
        have HB := hide HA.out.bel
        clear HO
        go_wp2
        go_ret
        exact ⟨⟨a', n', c', rfl, HE.out⟩, HB.out⟩
  · have HV : Hid (orphS fs c u zs = []) := hide (by unfold orphS; rw [if_neg q])
    have qf : diskOk fs c u = false := by simpa using q
    rw [qf]
    have HE : Hid (TOwn w1 w.heap.size (.slice (some ⟨w.heap.size + 2, 0, none⟩) 0 0) (orphS fs c u zs)) := hide (by
      have h := HO1.out
      rw [HV.out]
      exact ⟨h.1, by rcases h.2 with h1 | ⟨g, cc, cur, e, hbg, h1⟩; · exact .inl h1
                     · exact .inr ⟨g, cc, cur, e, by omega, h1⟩⟩)
    have HB := hide HA1.out.bel
    clear q qf HO1 HA1 HV
    go_wp2
    go_ret
    exact ⟨⟨_, _, _, rfl, HE.out⟩, HB.out⟩

end Go.Proofs.YthnealhaleccpaaGreatDoor
