/-
  impl.Orphans.
-/
import Derived.Test.YthnealhaleccpaaGreatDoorMOrphSpec
import Derived.Test.YthnealhaleccpaaGreatDoorG21
import Derived.Test.YthnealhaleccpaaGreatDoorMDiskOkImpl
namespace Go.Proofs.YthnealhaleccpaaGreatDoor
open Go.RowKit
open Plain

theorem contains_any (W : World) (b : Option Addr) (m capb : Nat) (zs : List Int) (hi : IRow W 0 b m zs) (hm : m ≤ 1048576) (x : Int) :
    Calls Tryz.prog 37 #[.slice b m capb, .int .i64 x] W fun e w' => e = .returned (.bool (zs.contains x)) ∧ w' = W := by
  have hl := hi.len
  by_cases h0 : m = 0
  · subst h0
    have hz : zs = [] := List.length_eq_zero_iff.1 hl
    subst hz
    exact Tryz.slices_Contains_int_empty b capb x W
  · obtain ⟨b', off, rfl, -, -, -⟩ := hi.cells 0 (by omega)
    have h := Tryz.slices_Contains_int b' off m capb zs x W (by omega) (by omega) (fun j hj => by
      obtain ⟨b2, o2, q0, -, -, q1⟩ := hi.cells j hj
      simp only [Option.some.injEq, Addr.mk.injEq] at q0
      obtain ⟨rfl, rfl, -⟩ := q0
      rw [q1]
      simp [List.getD, hj])
    rw [← hl, List.take_length] at h
    rw [← hl]
    exact h

set_option maxRecDepth 100000 in
set_option maxHeartbeats 8000000 in
theorem implOrph_any (w : World) (a : Option Addr) (n cap : Nat) (fs : List FileV) (hr : FRow w 0 a n fs) (hz : szFs fs ≤ 1048576) (hn : n ≤ 1048576) (c u : Int) (d : Bool) (x : Int) (b : Option Addr) (m capb : Nat) (zs : List Int) (hi : IRow w 0 b m zs) (hm : m ≤ 1048576) (htab : Tab w) (hsyn : Syn w) :
    Calls Tryz.prog 15 #[.agg #[.slice a n cap, .int .i64 c, .int .i64 u, .bool d], .agg #[.int .i64 x, .slice b m capb]] w fun e w' => (∃ a' n' c', e = .returned (.slice a' n' c') ∧ TOwn w' w.heap.size (.slice a' n' c') (orphS fs c u zs)) ∧ Below w.heap.size w w' := by
  have hfn := hr.len
  have hin := hi.len
  obtain ⟨W, hW⟩ : ∃ W, W = (w.alloc (.cells #[.slice a n cap, .int .i64 c, .int .i64 u, .bool d] 39)).alloc (.cells #[.int .i64 x, .slice b m capb] 26) := ⟨_, rfl⟩
  have hA := news2 w (.cells #[.slice a n cap, .int .i64 c, .int .i64 u, .bool d] 39) (.cells #[.int .i64 x, .slice b m capb] 26)
  rw [← hW] at hA
  have HA : Hid (OArg w a n cap c u d fs x b m capb zs W) := hide ⟨hA.2.2.1, hr.later hA.2.1 (Nat.le_refl _), hA.2.2.2, hi.later hA.2.1 (Nat.le_refl _), hA.2.1⟩
  have HR := hide hr
  have HI := hide hi
  have HTB := hide htab
  have HSY := hide hsyn
  clear hA hr hi htab hsyn
  have HX := hide (implOk_any W a n cap fs HA.out.row (by omega) (by omega) c u d)
  go_enter Tryz.func15, Tryz.ntmps15
  go_wp2_with fail
  rw [← hW]
  clear hW
  refine HX.out.mono ?_
  rintro e w1 ⟨rfl, hb1⟩
  have HA1 := hide (HA.out.later hb1)
  clear HX HA hb1
  by_cases q : diskOk fs c u = true
  · have HV : Hid (orphS fs c u zs = orphL fs zs) := hide (by unfold orphS; rw [if_pos q])
    have hn130 := ok_len q
    rw [q]
    obtain ⟨y0, y1, y2, y3, y4, y5⟩ := HA1.out.cells
    go_wp2
    go_loopw [5, 16] (fun v i wr => ∃ (k : Nat) (a' : Option Addr) (n' c' : Nat), k ≤ n ∧ v = .slice a' n' c' ∧ i = .int .i64 k ∧ Hid (OArg w a n cap c u d fs x b m capb zs wr) ∧ Hid (TOwn wr (w.heap.size + 2) (.slice a' n' c') (orphL (fs.take k) zs))) (fun _ i _ => n - (intOf i).toNat)
    case atStart => exact ⟨0, _, 0, 0, by omega, rfl, rfl, HA1, hide (TOwn.nil _ _)⟩
    case round =>
      clear HA1 y0 y1 y2 y3 y4 y5
      obtain ⟨k, a', n', c', hk, rfl, rfl, HA, HO⟩ := hrel
      obtain ⟨y0, y1, y2, y3, y4, y5⟩ := HA.out.cells
      by_cases hlt : k < n
      · have hkf : k < fs.length := by omega
        obtain ⟨bf, off, rfl, -, hbw, e1, e2, e3⟩ := HA.out.row.cells k hkf
        have HSU := hide (orphL_succ fs zs k hkf)
        have hol := orphL_len (fs.take k) zs
        rw [List.length_take] at hol
        have hnl := HO.out.len
        have hnm : (fs[k]).name.size ≤ 1048576 := Nat.le_trans (name_le fs k hkf) hz
        have HOB : Hid (orphB zs (fs[k]).name = (((io (fs[k]).name).2 && !(zs.contains (io (fs[k]).name).1)) || decide ((fs[k]).name = tempS))) := hide rfl
        have hn6 : n' ≤ 130 := by omega
        have hk2 : (k : Int) < (n : Int) := by omega
        obtain ⟨nm, hnm0⟩ : ∃ nm, (fs[k]).name = nm := ⟨_, rfl⟩
        rw [hnm0] at e1 HSU HOB hnm
        obtain ⟨tx, htx⟩ : ∃ tx, (fs[k]).text = tx := ⟨_, rfl⟩
        obtain ⟨sf, hsf⟩ : ∃ sf, (fs[k]).safe = sf := ⟨_, rfl⟩
        rw [htx] at e2
        rw [hsf] at e3
        obtain ⟨X, hX⟩ : ∃ X, X = wr.alloc (.cells #[.string nm, .string tx, .int .i64 sf] 73) := ⟨_, rfl⟩
        have HAX : Hid (OArg w (some ⟨bf, off, none⟩) n cap c u d fs x b m capb zs X) := hide (by rw [hX]; exact HA.out.later (al1 wr _))
        have HOX : Hid (TOwn X (w.heap.size + 2) (.slice a' n' c') (orphL (fs.take k) zs)) := hide (by rw [hX]; exact HO.out.later (al1 wr _) (Nat.le_refl _))
        have HXN : Hid (X.heap[wr.heap.size]? = some (.cells #[.string nm, .string tx, .int .i64 sf] 73 (0, 0))) := hide (by rw [hX]; exact heap_alloc_new wr _)
        have HID := hide (implIdOf_any nm hnm X (HTB.out.later HAX.out.bel) (HSY.out.later HAX.out.bel))
        obtain ⟨idn, hidn⟩ : ∃ z, (io nm).1 = z := ⟨_, rfl⟩
        obtain ⟨is, his⟩ : ∃ z, (io nm).2 = z := ⟨_, rfl⟩
        rw [hidn, his] at HID HOB
        clear hnm0 hidn his hol hnl HA HO htx hsf
        go_wp2_with fail
        rw [← hX]
        refine (HID.out).mono ?_
        rintro e Y ⟨rfl, hb2⟩
        have HA2 := hide (HAX.out.later hb2)
        have HO2 := hide (HOX.out.later hb2 (Nat.le_refl _))
        obtain ⟨z0, z1, z2⟩ := cells3 ((hb2.block _ (lt_of_block HXN.out)).trans HXN.out)
        clear hb2 HAX HOX y0 y1 y2 y3 y4 y5 HID e1 e2 e3 hX HXN
        obtain ⟨y0, y1, y2, y3, y4, y5⟩ := HA2.out.cells
        have HCT := hide (contains_any Y b m capb zs HA2.out.ids hm idn)
        have HB : Hid (orphB zs nm = true → orphL (fs.take (k + 1)) zs = orphL (fs.take k) zs ++ [nm]) := hide (fun h => by rw [HSU.out, if_pos h])
        have HC : Hid (orphB zs nm = false → orphL (fs.take (k + 1)) zs = orphL (fs.take k) zs) := hide (fun h => by rw [HSU.out, if_neg (by rw [h]; simp), List.append_nil])
        have HAG : Hid (∀ W', (Y.alloc (.cells #[.string nm] 9)).grownBy W' (Value.slice a' n' c').ownBlock → True → OArg w (some ⟨bf, off, none⟩) n cap c u d fs x b m capb zs W') := hide (fun W' hg _ => (HA2.out.later (al1 Y _)).grown HR.out HI.out hg (fun g e => by have := (World.ownsRow.lt HO2.out g e).1; omega))
        have HSZ : Hid (w.heap.size + 2 ≤ Y.heap.size) := hide (lt_of_block HA2.out.liv)
        by_cases ht : nm = tempS
        · have q1 := temp_eq ht
          have HSB := hide (HB.out (by rw [HOB.out, decide_eq_true ht]; simp))
          clear ht HB HC HOB HSU HCT
          have HO4 : Hid ((Y.alloc (.cells #[.string nm] 9)).ownsRow (w.heap.size + 2) 9 1 (.slice a' n' c') n' ((orphL (fs.take k) zs).map Value.string)) := hide (by have h := HO2.out.later (al1 Y (.cells #[.string nm] 9)) (Nat.le_refl _); unfold TOwn at h; rw [HO2.out.len] at h; exact h)
          have HLN := hide HO2.out.len
          go_wp2_with (at_builtin; refine wpList_app_str rfl _ _ rfl nm HO4.out HSZ.out (by omega) rfl rfl ?_; intro v' w6 ho6 hg6; have HA6 := hide (HAG.out _ hg6 (by simp)); have HO6 : Hid (TOwn w6 (w.heap.size + 2) v' (orphL (fs.take k) zs ++ [nm])) := hide (by unfold TOwn; rw [List.length_append, HLN.out, List.map_append]; exact ho6); clear ho6 hg6)
          have hval : ∃ a6 n6 c6, v' = .slice a6 n6 c6 := by
            rcases HO6.out.2 with ⟨e, _⟩ | ⟨g, cap, cur, e, _⟩
            · exact ⟨_, _, _, e⟩
            · exact ⟨_, _, _, e⟩
          obtain ⟨a6, n6, c6, rfl⟩ := hval
          rw [← HSB.out] at HO6
          clear HO4 HLN HSZ HAG HSB
          go_roundw
          case rel => exact ⟨k + 1, a6, n6, c6, by omega, rfl, by go_num, HA6, HO6⟩
          case measure => first | (simp [intOf]; done) | (simp [intOf]; omega)
        · have q1 := temp_ne ht
          have hob : orphB zs nm = (is && !(zs.contains idn)) := by rw [HOB.out, decide_eq_false ht, Bool.or_false]
          clear ht HOB HSU
          cases is with
          | true =>
            generalize zs.contains idn = has at *
            go_wp2_with fail
            refine HCT.out.mono ?_
            rintro e w3 ⟨rfl, hw3⟩
            rw [hw3]
            clear HCT hw3
            cases has with
            | true =>
              have HSB : Hid (TOwn Y (w.heap.size + 2) (.slice a' n' c') (orphL (fs.take (k + 1)) zs)) := hide (by rw [HC.out hob]; exact HO2.out)
              clear hob HB HC HAG HSZ
              go_wp2
              go_roundw
              case rel => exact ⟨k + 1, a', n', c', by omega, rfl, by go_num, HA2, HSB⟩
              case measure => first | (simp [intOf]; done) | (simp [intOf]; omega)
            | false =>
              have HSB := hide (HB.out hob)
              clear hob HB HC
              have HO4 : Hid ((Y.alloc (.cells #[.string nm] 9)).ownsRow (w.heap.size + 2) 9 1 (.slice a' n' c') n' ((orphL (fs.take k) zs).map Value.string)) := hide (by have h := HO2.out.later (al1 Y (.cells #[.string nm] 9)) (Nat.le_refl _); unfold TOwn at h; rw [HO2.out.len] at h; exact h)
              have HLN := hide HO2.out.len
              go_wp2_with (at_builtin; refine wpList_app_str rfl _ _ rfl nm HO4.out HSZ.out (by omega) rfl rfl ?_; intro v' w6 ho6 hg6; have HA6 := hide (HAG.out _ hg6 (by simp)); have HO6 : Hid (TOwn w6 (w.heap.size + 2) v' (orphL (fs.take k) zs ++ [nm])) := hide (by unfold TOwn; rw [List.length_append, HLN.out, List.map_append]; exact ho6); clear ho6 hg6)
              have hval : ∃ a6 n6 c6, v' = .slice a6 n6 c6 := by
                rcases HO6.out.2 with ⟨e, _⟩ | ⟨g, cap, cur, e, _⟩
                · exact ⟨_, _, _, e⟩
                · exact ⟨_, _, _, e⟩
              obtain ⟨a6, n6, c6, rfl⟩ := hval
              rw [← HSB.out] at HO6
              clear HO4 HLN HSZ HAG HSB
              go_roundw
              case rel => exact ⟨k + 1, a6, n6, c6, by omega, rfl, by go_num, HA6, HO6⟩
              case measure => first | (simp [intOf]; done) | (simp [intOf]; omega)
          | false =>
            have HSB : Hid (TOwn Y (w.heap.size + 2) (.slice a' n' c') (orphL (fs.take (k + 1)) zs)) := hide (by rw [HC.out hob]; exact HO2.out)
            clear hob HB HC HAG HSZ
            go_wp2
            go_roundw
            case rel => exact ⟨k + 1, a', n', c', by omega, rfl, by go_num, HA2, HSB⟩
            case measure => first | (simp [intOf]; done) | (simp [intOf]; omega)
      · obtain rfl : k = n := by omega
        have HE : Hid (TOwn wr w.heap.size (.slice a' n' c') (orphS fs c u zs)) := hide (by
          have h := HO.out
          rw [List.take_of_length_le (by omega)] at h
          rw [HV.out]
          exact ⟨h.1, by rcases h.2 with h1 | ⟨g, cc, cur, e, hbg, h1⟩; · exact .inl h1
                         · exact .inr ⟨g, cc, cur, e, by omega, h1⟩⟩)
        have HB := hide HA.out.bel
        clear HO
        go_wp2
        go_ret
        exact ⟨⟨a', n', c', rfl, HE.out⟩, HB.out⟩
  · have HV : Hid (orphS fs c u zs = []) := hide (by unfold orphS; rw [if_neg q])
    have qf : diskOk fs c u = false := by simpa using q
    rw [qf]
    have HE : Hid (TOwn w1 w.heap.size (.slice none 0 0) (orphS fs c u zs)) := hide (by rw [HV.out]; exact TOwn.nil _ _)
    have HB := hide HA1.out.bel
    clear q qf HA1 HV
    go_wp2
    go_ret
    exact ⟨⟨_, _, _, rfl, HE.out⟩, HB.out⟩

end Go.Proofs.YthnealhaleccpaaGreatDoor
