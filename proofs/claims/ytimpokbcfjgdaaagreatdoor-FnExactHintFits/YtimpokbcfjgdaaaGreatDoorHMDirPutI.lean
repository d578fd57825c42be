/-
  impl.DirPut.
-/
import Derived.Test.YtimpokbcfjgdaaaGreatDoorHG24
import Derived.Test.YtimpokbcfjgdaaaGreatDoorHG19
import Derived.Test.YtimpokbcfjgdaaaGreatDoorHMInsertI
namespace Go.Proofs.YtimpokbcfjgdaaaGreatDoor
open Go.RowKit Go.Shelf Go.Lib
open Plain

/-- DirPut's closure: does the key stand behind that of the entry that it has captured? -/
theorem putPred (p : EntV) (B : Nat) (w : World) (hB : B < w.heap.size) (hk : Blk5 w B p) :
    PredBelow Tryz.prog 125 #[.pointer (some ⟨B, 0, none⟩)] (fun x => .agg (entSh.cells x).toArray) (fun x => klt p.key x.key) w := fun W x hb => by
  have hk2 := hk.later hb hB
  have hc : W.cell? ⟨B, 0, none⟩ = some (.string p.key) := (cells5 hk2).1
  have hBW : B < W.heap.size := Nat.lt_of_lt_of_le hB hb.size
  have hne : B ≠ W.heap.size := by omega
  clear hk hk2
  show Calls Tryz.prog 125 #[.agg #[.string x.key, .int .i64 x.seg, .int .i64 x.pos, .int .i64 x.len, .int .i64 x.bat], .pointer (some ⟨B, 0, none⟩)] W fun e w' => e = .returned (.bool (klt p.key x.key)) ∧ Below w.heap.size w w'
  cases hq : klt p.key x.key with
  | true =>
    have t1 : Op.bytesLess x.key.toList p.key.toList = false := klt_asymm hq
    have t2 := str_ne x.key p.key (fun e => klt_ne hq e.symm)
    clear hq
    go_enter Tryz.func125, Tryz.ntmps125
    go_wp2
    go_ret
    exact ⟨rfl, hb.alloc hb.size _⟩
  | false =>
    by_cases he : x.key = p.key
    · have t2 := str_eq _ _ he
      have t3 : Op.bytesLess x.key.toList p.key.toList = false := by rw [he]; exact klt_irrefl _
      clear hq he
      go_enter Tryz.func125, Tryz.ntmps125
      go_wp2
      go_ret
      exact ⟨rfl, hb.alloc hb.size _⟩
    · have t1 : Op.bytesLess x.key.toList p.key.toList = true := klt_other hq he
      have t2 := str_ne _ _ he
      clear hq he
      go_enter Tryz.func125, Tryz.ntmps125
      go_wp2
      go_ret
      exact ⟨rfl, hb.alloc hb.size _⟩

theorem putE_len (xs : List EntV) (p : EntV) : (putE xs p).length = (dropE xs p.key).length + 1 := by unfold putE; rw [insE_len]

set_option maxRecDepth 100000 in
set_option maxHeartbeats 4000000 in
theorem implPut_any (w : World) (a : Option Addr) (n cap : Nat) (xs : List EntV) (p : EntV) (hr : entSh.Row w a n xs) (hn : n ≤ 4194304) :
    Calls Tryz.prog 115 #[.slice a n cap, .agg #[.string p.key, .int .i64 p.seg, .int .i64 p.pos, .int .i64 p.len, .int .i64 p.bat]] w fun e w' => (∃ a' cap', e = .returned (.slice a' (putE xs p).length cap') ∧ entSh.Own 71 w' w.heap.size (.slice a' (putE xs p).length cap') (putE xs p)) ∧ Below w.heap.size w w' := by
  have hlen := hr.len
  have hdl := dropE_len xs p.key
  rw [putE_len]
  obtain ⟨W, hW⟩ : ∃ W, W = w.alloc (.cells #[.string p.key, .int .i64 p.seg, .int .i64 p.pos, .int .i64 p.len, .int .i64 p.bat] 71) := ⟨_, rfl⟩
  have HB : Hid (Below w.heap.size w W) := hide (by rw [hW]; exact al1 w _)
  have HK : Hid (Blk5 W w.heap.size p) := hide (by rw [hW]; exact Blk5.new w p)
  have HD := hide (implDrop_any W a n cap xs p.key (hr.later HB.out) (by omega))
  have HLW : Hid (w.heap.size < W.heap.size) := hide HK.out.lt
  obtain ⟨ys, hys⟩ : ∃ ys, dropE xs p.key = ys := ⟨_, rfl⟩
  have HPE : Hid (putE xs p = insE ys p) := hide (by unfold putE; rw [hys])
  rw [HPE.out]
  rw [hys] at HD hdl ⊢
  clear hr hys
  go_enter Tryz.func115, Tryz.ntmps115
  go_wp2_with fail
  rw [← hW]
  clear hW
  refine HD.out.mono ?_
  rintro e w1 ⟨⟨g, rfl, ho1⟩, hb1⟩
  have HO1 := hide ho1
  have HK1 := hide (HK.out.later hb1 HK.out.lt)
  have HB1 := hide (HB.out.trans (hb1.mono HB.out.size))
  have HSZ1 : Hid (W.heap.size ≤ w1.heap.size) := hide hb1.size
  have hm : ys.length ≤ 4194304 := by omega
  obtain ⟨m, hmm⟩ : ∃ m, ys.length = m := ⟨_, rfl⟩
  rw [hmm] at HO1 hm ⊢
  have HX := hide (idx_any (fun x => klt p.key x.key) 125 _ (enters_of Tryz.func125 (by kernel_rfl) rfl) g 0 m m ys w1 HO1.out.row (HO1.out.blk g rfl).2 (by omega) (putPred p w.heap.size w1 HK1.out.lt HK1.out))
  clear ho1 hb1 HD HB HK hdl
  go_wp2_with fail
  refine HX.out.mono ?_
  rintro e w2 ⟨⟨r, rfl, hcase⟩, hb2⟩
  have HO2 := hide (HO1.out.later hb2 (Nat.le_refl _))
  have HK2 := hide (HK1.out.later hb2 HK1.out.lt)
  have HB2 := hide (HB1.out.trans (hb2.mono HB1.out.size))
  have HSZ2 : Hid (W.heap.size ≤ w2.heap.size) := hide (Nat.le_trans HSZ1.out hb2.size)
  clear hb2 HX HO1 HK1 HB1 HSZ1
  obtain ⟨y0, y1, y2, y3, y4, -⟩ := cells5 HK2.out
  have HV : Hid (entSh.Row (w2.alloc (.cells #[.string p.key, .int .i64 p.seg, .int .i64 p.pos, .int .i64 p.len, .int .i64 p.bat] 71)) (some ⟨w2.heap.size, 0, none⟩) 1 [p]) := hide (Shape.Row.single entSh 71 w2 p)
  have HO3 := hide (HO2.out.later (al1 w2 (.cells #[.string p.key, .int .i64 p.seg, .int .i64 p.pos, .int .i64 p.len, .int .i64 p.bat] 71)) (Nat.le_refl _))
  have HB3 := hide (HB2.out.alloc HB2.out.size (.cells #[.string p.key, .int .i64 p.seg, .int .i64 p.pos, .int .i64 p.len, .int .i64 p.bat] 71))
  rcases hcase with ⟨rfl, h2⟩ | ⟨k, hk, rfl, h2, h3⟩
  · have HE : Hid (insE ys p = ys ++ [p]) := hide (insE_end ys p h2)
    have HI := hide (insert_end _ W.heap.size g m w2.heap.size 1 ys p HO3.out (by have := HSZ2.out; simp; omega) HV.out (by omega))
    clear h2
    go_wp2_with fail
    refine HI.out.mono ?_
    rintro e w4 ⟨⟨a', cap', rfl, ho4⟩, hb4⟩
    have HO4 := hide ho4
    have HB4 := hide (HB3.out.trans (hb4.mono (Nat.le_of_lt HLW.out)))
    clear ho4 hb4 HI HB3 HB2
    go_wp2
    go_ret
    refine ⟨⟨a', cap', ?_⟩, HB4.out⟩
    rw [hmm, HE.out]
    exact ⟨rfl, HO4.out.mono (Nat.le_of_lt HLW.out)⟩
  · have hkm : k < m := by omega
    have HE : Hid (insE ys p = ys.take k ++ p :: ys.drop k) := hide (insE_at ys p k hk h3 h2)
    have HI := hide (insert_mid _ W.heap.size g m k w2.heap.size 1 ys p HO3.out HV.out hkm (by omega))
    clear h2 h3
    go_wp2_with fail
    refine HI.out.mono ?_
    rintro e w4 ⟨⟨cap', rfl, ho4⟩, hb4⟩
    have HO4 := hide (ho4.mono HB3.out.size)
    have HB4 := hide (HB3.out.trans (hb4.mono HB3.out.size))
    clear ho4 hb4 HI HB3 HB2
    go_wp2
    go_ret
    refine ⟨⟨some ⟨w2.heap.size + 1, 0, none⟩, cap', ?_⟩, HB4.out⟩
    have h4 := HO4.out
    rw [World.size_alloc] at h4
    rw [hmm, HE.out]
    exact ⟨rfl, h4⟩

end Go.Proofs.YtimpokbcfjgdaaaGreatDoor
