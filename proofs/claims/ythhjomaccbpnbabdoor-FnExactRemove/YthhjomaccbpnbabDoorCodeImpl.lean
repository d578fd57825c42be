/-
  impl.diskCode, impl.ready, impl.fileOf.
-/
import Derived.Test.YthhjomaccbpnbabDoorErrImpl
import Derived.Test.YthhjomaccbpnbabDoorByName
namespace Go.Proofs.YthhjomaccbpnbabDoor
open Go.RowKit Go.Maps
open Plain

theorem is_code' (w : World) (A : SentA) (h : SentIn w A) (c k : Int) (hc : 1 ≤ c ∧ c ≤ 5) (hk : 1 ≤ k ∧ k ≤ 5) :
    Calls Tryd.prog 54 #[.iface 118 (.pointer (some (A.at_ c))), .iface 118 (.pointer (some (A.at_ k)))] w fun e w' => e = .returned (.bool (decide (c = k))) ∧ w = w' :=
  (is_code w A h c k hc hk).mono fun _ _ ⟨h1, h2⟩ => ⟨h1, h2.symm⟩
theorem at1 (A : SentA) : A.at_ 1 = A.down := rfl
theorem at2 (A : SentA) : A.at_ 2 = A.full := rfl
theorem at3 (A : SentA) : A.at_ 3 = A.none := rfl
theorem at4 (A : SentA) : A.at_ 4 = A.has := rfl
theorem at5 (A : SentA) : A.at_ 5 = A.args := rfl

set_option maxRecDepth 100000 in
set_option maxHeartbeats 1000000 in
theorem implCode_any (w : World) (A : SentA) (h : SentIn w A) (c : Int) (hc : 0 ≤ c ∧ c ≤ 5) :
    Calls Tryd.prog 55 #[errV A c] w fun e w' => e = .returned (.int .i64 c) ∧ w = w' := by
  have c1 := h.cDown
  have c2 := h.cFull
  have c3 := h.cNone
  have c4 := h.cHas
  have HI := hide (is_code' w A h)
  clear h
  obtain rfl | rfl | rfl | rfl | rfl | rfl : c = 0 ∨ c = 1 ∨ c = 2 ∨ c = 3 ∨ c = 4 ∨ c = 5 := by omega
  · rw [show errV A 0 = .nilIface from rfl]
    go_enter Tryd.func55, Tryd.ntmps55
    go_wp2
    go_ret
    exact ⟨rfl, rfl⟩
  · rw [show errV A 1 = .iface 118 (.pointer (some A.down)) from rfl]
    have i1 := hide (HI.out 1 1 (by omega) (by omega))
    rw [at1] at i1
    go_enter Tryd.func55, Tryd.ntmps55
    go_wp2_with fail
    refine i1.out.mono ?_
    rintro e w2 ⟨rfl, rfl⟩
    go_wp2
    go_ret
    exact ⟨rfl, rfl⟩
  · rw [show errV A 2 = .iface 118 (.pointer (some A.full)) from rfl]
    have i1 := hide (HI.out 2 1 (by omega) (by omega))
    rw [at2, at1] at i1
    have i2 := hide (HI.out 2 2 (by omega) (by omega))
    rw [at2] at i2
    go_enter Tryd.func55, Tryd.ntmps55
    go_wp2_with fail
    refine i1.out.mono ?_
    rintro e w2 ⟨rfl, rfl⟩
    go_wp2_with fail
    refine i2.out.mono ?_
    rintro e w2 ⟨rfl, rfl⟩
    go_wp2
    go_ret
    exact ⟨rfl, rfl⟩
  · rw [show errV A 3 = .iface 118 (.pointer (some A.none)) from rfl]
    have i1 := hide (HI.out 3 1 (by omega) (by omega))
    rw [at3, at1] at i1
    have i2 := hide (HI.out 3 2 (by omega) (by omega))
    rw [at3, at2] at i2
    have i3 := hide (HI.out 3 3 (by omega) (by omega))
    rw [at3] at i3
    go_enter Tryd.func55, Tryd.ntmps55
    go_wp2_with fail
    refine i1.out.mono ?_
    rintro e w2 ⟨rfl, rfl⟩
    go_wp2_with fail
    refine i2.out.mono ?_
    rintro e w2 ⟨rfl, rfl⟩
    go_wp2_with fail
    refine i3.out.mono ?_
    rintro e w2 ⟨rfl, rfl⟩
    go_wp2
    go_ret
    exact ⟨rfl, rfl⟩
  · rw [show errV A 4 = .iface 118 (.pointer (some A.has)) from rfl]
    have i1 := hide (HI.out 4 1 (by omega) (by omega))
    rw [at4, at1] at i1
    have i2 := hide (HI.out 4 2 (by omega) (by omega))
    rw [at4, at2] at i2
    have i3 := hide (HI.out 4 3 (by omega) (by omega))
    rw [at4, at3] at i3
    have i4 := hide (HI.out 4 4 (by omega) (by omega))
    rw [at4] at i4
    go_enter Tryd.func55, Tryd.ntmps55
    go_wp2_with fail
    refine i1.out.mono ?_
    rintro e w2 ⟨rfl, rfl⟩
    go_wp2_with fail
    refine i2.out.mono ?_
    rintro e w2 ⟨rfl, rfl⟩
    go_wp2_with fail
    refine i3.out.mono ?_
    rintro e w2 ⟨rfl, rfl⟩
    go_wp2_with fail
    refine i4.out.mono ?_
    rintro e w2 ⟨rfl, rfl⟩
    go_wp2
    go_ret
    exact ⟨rfl, rfl⟩
  · rw [show errV A 5 = .iface 118 (.pointer (some A.args)) from rfl]
    have i1 := hide (HI.out 5 1 (by omega) (by omega))
    rw [at5, at1] at i1
    have i2 := hide (HI.out 5 2 (by omega) (by omega))
    rw [at5, at2] at i2
    have i3 := hide (HI.out 5 3 (by omega) (by omega))
    rw [at5, at3] at i3
    have i4 := hide (HI.out 5 4 (by omega) (by omega))
    rw [at5, at4] at i4
    go_enter Tryd.func55, Tryd.ntmps55
    go_wp2_with fail
    refine i1.out.mono ?_
    rintro e w2 ⟨rfl, rfl⟩
    go_wp2_with fail
    refine i2.out.mono ?_
    rintro e w2 ⟨rfl, rfl⟩
    go_wp2_with fail
    refine i3.out.mono ?_
    rintro e w2 ⟨rfl, rfl⟩
    go_wp2_with fail
    refine i4.out.mono ?_
    rintro e w2 ⟨rfl, rfl⟩
    go_wp2
    go_ret
    exact ⟨rfl, rfl⟩

set_option maxRecDepth 100000 in
set_option maxHeartbeats 1000000 in
theorem implReady_any (w : World) (A : SentA) (h : SentIn w A) (a : Option Addr) (n cap : Nat) (fs : List FileV) (hr : FRow w 0 a n fs) (hn : n ≤ 1048576) (hz : szFs fs ≤ 1048576) (c u : Int) (d : Bool) :
    Calls Tryd.prog 53 #[.agg #[.slice a n cap, .int .i64 c, .int .i64 u, .bool d]] w fun e w' => e = .returned (errV A (begC fs c u d)) ∧ Below w.heap.size w w' := by
  have hbx := box4 w (.slice a n cap) (.int .i64 c) (.int .i64 u) (.bool d) 28
  obtain ⟨W, hW⟩ : ∃ W, W = w.alloc (.cells #[.slice a n cap, .int .i64 c, .int .i64 u, .bool d] 28) := ⟨_, rfl⟩
  rw [← hW] at hbx
  have HR := hide (hr.later hbx.1 (Nat.le_refl _))
  have HB := hide hbx.1
  have HX := hide hbx.2
  have HS : Hid (w.heap.size < W.heap.size) := hide (by rw [hW]; simp)
  have HSE := hide (h.later hbx.1 (Nat.le_refl _))
  clear hr hbx h
  go_enter Tryd.func53, Tryd.ntmps53
  go_wp2_with fail
  rw [← hW]
  clear hW
  refine (implOk_any W a n cap fs HR.out (by omega) (by omega) c u d).mono ?_
  rintro e w1 ⟨rfl, hb1⟩
  have HX1 := hide ((hb1.block _ HS.out).trans HX.out)
  have HB1 := hide (HB.out.trans (hb1.mono HB.out.size))
  have HS1 := hide (HSE.out.later hb1 (Nat.le_refl _))
  have hs1 : w.heap.size < w1.heap.size := Nat.lt_of_lt_of_le HS.out hb1.size
  clear hb1 HR HX HB HS HSE
  have cD := HS1.out.cDown
  have cA := HS1.out.cArgs
  by_cases q : diskOk fs c u = true
  · rw [q]
    obtain ⟨y0, y1, y2, y3, -⟩ := cells4 HX1.out
    cases d
    · by_cases q2 : u = 0
      · subst q2
        have HV : Hid (begC fs c 0 false = 1) := hide (by simp [begC, q])
        clear q
        go_wp2
        go_ret
        exact ⟨by rw [HV.out]; rfl, HB1.out⟩
      · have HV : Hid (begC fs c u false = 0) := hide (by simp [begC, q, q2])
        have t2 : (u == 0) = false := by simpa using q2
        clear q
        go_wp2
        go_ret
        exact ⟨by rw [HV.out]; rfl, HB1.out⟩
    · have HV : Hid (begC fs c u true = 1) := hide (by simp [begC, q])
      clear q
      go_wp2
      go_ret
      exact ⟨by rw [HV.out]; rfl, HB1.out⟩
  · have q' : diskOk fs c u = false := by simpa using q
    have HV : Hid (begC fs c u d = 5) := hide (by simp [begC, q'])
    rw [q']
    clear q q'
    go_wp2
    go_ret
    exact ⟨by rw [HV.out]; rfl, HB1.out⟩

theorem zeroF_val (w : World) : (zeroValue 45).run Tryd.prog w = .ok (.agg #[.string ⟨#[]⟩, .string ⟨#[]⟩, .int .i64 0]) w := by kernel_rfl

set_option maxRecDepth 100000 in
set_option maxHeartbeats 1000000 in
/-- There is such a file. -/
theorem implFileOf_yes (w : World) (B n : Nat) (S : List FileV) (hm : MOwn w B n S) (f : FileV) (hf : f ∈ S) (hs : f.name.size ≤ 1099511627776) :
    Calls Tryd.prog 40 #[.map (some B), .string f.name] w fun e w' => e = .returned (.tuple #[.agg #[.string f.name, .string f.text, .int .i64 f.safe], .nilIface]) ∧ Below w.heap.size w w' := by
  obtain ⟨D, hown, hsh⟩ := hm
  have HO := hide hown
  have hkey : keyOf Tryd.prog 9 (.string f.name) = some (litN f) := WideMaps.keyOf_string_mk Tryd.underlying9 (by unfold maxLen; omega)
  have hh : has D (litN f) = true := (hsh.has_ f.name).2 ⟨f, hf, rfl⟩
  have ha := hsh.at_ f hf
  have hb := hown.lt
  have HL : Hid (∀ W : World, W.ownsMap Tryd.prog 9 fileElem B n D → (Instr.lookup 48 (.map (some B)) (.string f.name) true).run Tryd.prog W = .ok (.tuple #[.agg #[.string f.name, .string f.text, .int .i64 f.safe], .bool true]) W) := hide (fun W hW => by
    obtain ⟨v, ps, h1, h2⟩ := hW.look_ok keyLaw Tryd.underlying48 (zeroF_val W) (zd := fileD zeroF) (zp := []) (fileElem_mk zeroF) hkey
    rw [ha] at h2
    obtain ⟨g, rfl, e⟩ := fileElem_inv h2
    simp only [Prod.mk.injEq] at e
    rw [hh] at h1
    rw [h1, ← fileD_inj e.1]
    rfl)
  have hl := HL.out (w.alloc (.cells #[.string ⟨#[]⟩, .string ⟨#[]⟩, .int .i64 0] 45)) (hown.alloc _)
  clear hown hsh hkey hh ha HL HO
  go_enter Tryd.func40, Tryd.ntmps40
  go_wp2
  refine bodyPost_ret (v := .tuple #[.agg #[.string f.name, .string f.text, .int .i64 f.safe], .nilIface]) (by simp [results, Tryd.results40, go_sem]) rfl ⟨rfl, ?_⟩
  exact (alloc2 w _ _).2.1

set_option maxRecDepth 100000 in
set_option maxHeartbeats 1000000 in
/-- There is none. -/
theorem implFileOf_no (w : World) (A : SentA) (h : SentIn w A) (B n : Nat) (S : List FileV) (hm : MOwn w B n S) (x : ByteArray) (hx : ∀ g, g ∈ S → g.name ≠ x) (hs : x.size ≤ 1099511627776) :
    Calls Tryd.prog 40 #[.map (some B), .string x] w fun e w' => e = .returned (.tuple #[.agg #[.string ⟨#[]⟩, .string ⟨#[]⟩, .int .i64 0], .iface 118 (.pointer (some A.none))]) ∧ Below w.heap.size w w' := by
  obtain ⟨D, hown, hsh⟩ := hm
  have hkey : keyOf Tryd.prog 9 (.string x) = some (.string x.data.toList) := WideMaps.keyOf_string_mk Tryd.underlying9 (by unfold maxLen; omega)
  have hh := hsh.no hx
  have HL : Hid (∀ W : World, W.ownsMap Tryd.prog 9 fileElem B n D → (Instr.lookup 48 (.map (some B)) (.string x) true).run Tryd.prog W = .ok (.tuple #[.agg #[.string ⟨#[]⟩, .string ⟨#[]⟩, .int .i64 0], .bool false]) W) := hide (fun W hW => by
    obtain ⟨v, ps, h1, h2⟩ := hW.look_ok keyLaw Tryd.underlying48 (zeroF_val W) (zd := fileD zeroF) (zp := []) (fileElem_mk zeroF) hkey
    rw [atKey_of_not_has hh] at h2
    obtain ⟨g, rfl, e⟩ := fileElem_inv h2
    simp only [Prod.mk.injEq] at e
    rw [hh] at h1
    rw [h1, ← fileD_inj e.1]
    rfl)
  have hl := HL.out (w.alloc (.cells #[.string ⟨#[]⟩, .string ⟨#[]⟩, .int .i64 0] 45)) (hown.alloc _)
  obtain ⟨Y, hY⟩ : ∃ Y, Y = (w.alloc (.cells #[.string ⟨#[]⟩, .string ⟨#[]⟩, .int .i64 0] 45)).alloc (.cells #[.string ⟨#[]⟩, .string ⟨#[]⟩, .int .i64 0] 45) := ⟨_, rfl⟩
  have hA := alloc2 w (.cells #[.string ⟨#[]⟩, .string ⟨#[]⟩, .int .i64 0] 45) (.cells #[.string ⟨#[]⟩, .string ⟨#[]⟩, .int .i64 0] 45)
  rw [← hY] at hA
  have HBY := hide hA.2.1
  have g4 := (h.later hA.2.1 (Nat.le_refl _)).cNone
  have l4 : 4 < w.heap.size := cell_lt h.cNone
  obtain ⟨z0, z1, z2⟩ := cells3 hA.2.2.1
  have z3 : ∀ j, Y.frozen? ⟨w.heap.size, j, none⟩ = false := fun j => by simp [World.frozen?, hA.2.2.1]
  have z30 := z3 0
  have z31 := z3 1
  have z32 := z3 2
  have n4 : w.heap.size ≠ 4 := by omega
  have n4' : 4 ≠ w.heap.size := by omega
  clear hown hsh hkey hh HL h hA z3
  go_enter Tryd.func40, Tryd.ntmps40
  go_wp2
  rw [← hY]
  clear hl hY
  go_region
  go_wp2
  refine bodyPost_ret (v := .tuple #[.agg #[.string ⟨#[]⟩, .string ⟨#[]⟩, .int .i64 0], .iface 118 (.pointer (some A.none))]) (by simp [results, Tryd.results40, go_sem, *]) rfl ⟨rfl, ?_⟩
  refine Below.drew ?_
  iterate 3 (refine Below.setCell ?_ (by dsimp only; omega) _)
  exact HBY.out

end Go.Proofs.YthhjomaccbpnbabDoor
