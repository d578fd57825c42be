/-
  FnPower's walk.
-/
import Derived.Test.YthfpcjamlbkgfaaPowLaw
import Derived.Test.YthfpcjamlbkgfaaPowImpl
import Derived.Test.YthfpcjamlbkgfaaDrawPw
import Derived.Test.YthfpcjamlbkgfaaLawBase
import Derived.Test.YthfpcjamlbkgfaaSameSpec
import Derived.Test.YthfpcjamlbkgfaaUsedImpl
import Derived.Test.YthfpcjamlbkgfaaAtBig
import Derived.Deep.RegionHeld3
namespace Go.Proofs.Ythfpcjamlbkgfaa
open Go.RowKit
open Plain

set_option maxRecDepth 100000 in
theorem begins_yes (x s : ByteArray) (h : x.size ≤ s.size) (e : s.extract 0 x.size = x) (w : World) :
    Calls Try.prog 15 #[.string x, .string s] w fun e w' => e = .returned (.bool true) ∧ w = w' := by
  have ht : (s.extract 0 x.size).toList = x.toList := by rw [e]
  have hb : ((s.extract 0 x.size).toList == x.toList) = true := by rw [e]; simp
  go_enter Try.func15, Try.ntmps15
  go_wp2
  go_ret
  exact ⟨rfl, rfl⟩

/-- What the law carries: the drawn disk, the one behind the failure, the tears. -/
structure PK (w W : World) (b3 b5 lo : Nat) (a' : Option Addr) (k cap' : Nat) (c u : Int) (d : Bool) (fs : List FileV) (a2 : Option Addr) (cap2 : Nat) (U : Int) (D : Bool) (gs : List FileV) (b : Option Addr) (m capb : Nat) (ts : List Int) : Prop where
  vd : DVar W b3 w.heap.size a' k cap' c u d fs
  vx : DVar W b5 lo a2 k cap2 c U D gs
  vt : IOwn W w.heap.size (.slice b m capb) ts
  bel : Below w.heap.size w W
theorem PK.later {w W W' : World} {b3 b5 lo : Nat} {a' : Option Addr} {k cap' : Nat} {c u : Int} {d : Bool} {fs : List FileV} {a2 : Option Addr} {cap2 : Nat} {U : Int} {D : Bool} {gs : List FileV} {b : Option Addr} {m capb : Nat} {ts : List Int}
    (h : PK w W b3 b5 lo a' k cap' c u d fs a2 cap2 U D gs b m capb ts) (hb : Below W.heap.size W W') : PK w W' b3 b5 lo a' k cap' c u d fs a2 cap2 U D gs b m capb ts :=
  ⟨h.vd.later hb, h.vx.later hb, h.vt.later hb (Nat.le_refl _), h.bel.trans (hb.mono h.bel.size)⟩
theorem at_of {w : World} {base : Nat} {a : Option Addr} {n cap : Nat} {fs : List FileV} (h : FOwn w base (.slice a n cap) fs) : a = none ∨ ∃ g, a = some ⟨g, 0, none⟩ := by
  rcases h.at0 with h | h
  · exact .inl h.1
  · exact .inr h

set_option maxRecDepth 100000 in
set_option maxHeartbeats 16000000 in
theorem fnPower_walk (a0 : Option Addr) (len0 cap0 : Nat) (z0 : List Int) (w : World) (hc : CodeAt w a0 len0 z0) (hl : len0 ≤ 1048576) :
    Calls Try.prog 3 #[.slice a0 len0 cap0] w fun e w' => e = .returned (.bool true) ∧ Below w.heap.size w w' := by
  have hbig : decide (1048576 < len0) = false := by simp; omega
  have HC := hide hc
  clear hc
  go_enter Try.func3, Try.ntmps3
  go_wp2_with fail
  refine (big_any a0 len0 cap0 w).mono ?_
  rintro e w0 ⟨rfl, rfl⟩
  rw [hbig]
  clear hbig
  go_wp2_with fail
  refine (drawPower_any w a0 len0 cap0 z0 HC.out).mono ?_
  rintro e w1 ⟨⟨a', k, cap', c, u, d, fs, b, m, capb, ts, rfl, hsm, hm4, ho1, hz1⟩, hb1⟩
  obtain ⟨X1, hX1⟩ : ∃ X, X = w1.alloc (.cells #[.slice a' k cap', .int .i64 c, .int .i64 u, .bool d] 26) := ⟨_, rfl⟩
  have HV1 : Hid (DVar X1 w1.heap.size w.heap.size a' k cap' c u d fs) := hide (by rw [hX1]; exact DVar.new (w0 := w1) ho1 (Nat.le_refl _))
  have HZ1 : Hid (IOwn X1 w.heap.size (.slice b m capb) ts) := hide (by rw [hX1]; exact hz1.later (alloc_below _ _) (Nat.le_refl _))
  have HB1 : Hid (Below w.heap.size w X1) := hide (by rw [hX1]; exact hb1.trans ((alloc_below w1 _).mono hb1.size))
  have y := HV1.out.cells
  rw [hX1] at y
  obtain ⟨y0, y1, y2, y3⟩ := y
  clear ho1 hz1 hb1 HC
  go_wp2_with fail
  clear y0 y1 y2 y3
  rw [← hX1]
  clear hX1
  obtain ⟨b3, hb3⟩ : ∃ b, w1.heap.size = b := ⟨_, rfl⟩
  rw [hb3] at HV1 ⊢
  clear hb3
  refine (implPow_any X1 a' k cap' fs (at_of HV1.out.own) HV1.out.own.row0 (by omega) (by omega) c u d b m capb ts HZ1.out.row (by omega)).mono ?_
  rintro e w2 ⟨⟨a2, cap2, rfl, ho2⟩, hb2⟩
  obtain ⟨U, hU⟩ : ∃ U, powU fs c u = U := ⟨_, rfl⟩
  obtain ⟨D, hD⟩ : ∃ D, powD fs c u d = D := ⟨_, rfl⟩
  obtain ⟨gs, hgs⟩ : ∃ gs, powF fs c u ts = gs := ⟨_, rfl⟩
  rw [hU, hD]
  rw [hgs] at ho2
  obtain ⟨X2, hX2⟩ : ∃ X, X = w2.alloc (.cells #[.slice a2 k cap2, .int .i64 c, .int .i64 U, .bool D] 26) := ⟨_, rfl⟩
  have HK : Hid (PK w X2 b3 w2.heap.size X1.heap.size a' k cap' c u d fs a2 cap2 U D gs b m capb ts) := hide (by
    rw [hX2]
    exact ⟨(HV1.out.later hb2).later (alloc_below _ _), DVar.new (w0 := w2) ho2 (Nat.le_refl _), (HZ1.out.later hb2 (Nat.le_refl _)).later (alloc_below _ _) (Nat.le_refl _), (HB1.out.trans (hb2.mono HB1.out.size)).trans ((alloc_below w2 _).mono (Nat.le_trans HB1.out.size hb2.size))⟩)
  have HU := hide hU
  have HD := hide hD
  have HGS := hide hgs
  have y := HK.out.vd.cells
  rw [hX2] at y
  obtain ⟨y0, y1, y2, y3⟩ := y
  clear hU hD hgs ho2 hb2 HV1 HZ1 HB1
  go_wp2_with fail
  clear y0 y1 y2 y3
  rw [← hX2]
  clear hX2
  obtain ⟨b5, hb5⟩ : ∃ b, w2.heap.size = b := ⟨_, rfl⟩
  obtain ⟨lo, hlo⟩ : ∃ b, X1.heap.size = b := ⟨_, rfl⟩
  rw [hb5, hlo] at HK
  rw [hb5]
  clear hb5 hlo
  refine (specOk_any X2 a' k cap' fs HK.out.vd.own.row0 (by omega) (by omega) c u d).mono ?_
  rintro e w3 ⟨rfl, hb3⟩
  have HK3 := hide (HK.out.later hb3)
  clear hb3 HK
  by_cases q : diskOk fs c u = true
  · rw [q]
    have hS := safeM_of (safe_of q)
    have hUD : U = -1 ∧ D = false ∧ gs = powL ts 0 fs := by
      rw [← HU.out, ← HD.out, ← HGS.out]
      unfold powU powD powF
      rw [if_pos q, if_pos q, if_pos q]
      exact ⟨rfl, rfl, rfl⟩
    obtain ⟨rfl, rfl, rfl⟩ := hUD
    clear HU HD HGS
    have hok := pow_ok q ts
    have hsz : szFs (powL ts 0 fs) ≤ 10000 := Nat.le_trans (szFs_powL ts fs 0 hS) hsm.2.1
    have HVO : Hid (volA (powL ts 0 fs) c (-1) = 0) := hide (by unfold volA; rw [if_pos hok, powL_vol ts fs 0 hS])
    have HSE : Hid (setA (powL ts 0 fs) c (-1) = true) := hide (by unfold setA; rw [hok, powL_vol ts fs 0 hS]; rfl)
    have HOK := hide hok
    have HS := hide hS
    have HSF := hide (safe_of q)
    clear hok hS
    -- the first look
    obtain ⟨y0, y1, y2, y3⟩ := HK3.out.vx.cells
    obtain ⟨x0, x1, x2, x3⟩ := HK3.out.vd.cells
    go_wp2_with fail
    clear y0 y1 y2 y3 x0 x1 x2 x3
    refine (specOk_any w3 a2 k cap2 (powL ts 0 fs) HK3.out.vx.own.row0 (by omega) (by omega) c (-1) false).mono ?_
    rintro e w4 ⟨rfl, hb4⟩
    rw [HOK.out]
    have HK4 := hide (HK3.out.later hb4)
    clear hb4 HK3
    obtain ⟨y0, y1, y2, y3⟩ := HK4.out.vx.cells
    go_wp2_with fail
    clear y0 y1 y2 y3
    refine (implVol_any w4 a2 k cap2 (powL ts 0 fs) HK4.out.vx.own.row0 (by omega) (by omega) c (-1) false).mono ?_
    rintro e w5 ⟨rfl, hb5⟩
    rw [HVO.out]
    have HK5 := hide (HK4.out.later hb5)
    clear hb5 HK4
    obtain ⟨y0, y1, y2, y3⟩ := HK5.out.vx.cells
    go_wp2_with fail
    clear y0 y1 y2 y3
    refine (implSet_any w5 a2 k cap2 (powL ts 0 fs) HK5.out.vx.own.row0 (by omega) (by omega) c (-1) false).mono ?_
    rintro e w6 ⟨rfl, hb6⟩
    rw [HSE.out]
    have HK6 := hide (HK5.out.later hb6)
    clear hb6 HK5
    obtain ⟨y0, y1, y2, y3⟩ := HK6.out.vx.cells
    go_wp2
    clear y0 y1 y2 y3
    go_loopw [6] (fun i wr => ∃ j : Nat, j ≤ k ∧ i = .int .i64 j ∧ Hid (PK w wr b3 b5 lo a' k cap' c u d fs a2 cap2 (-1) false (powL ts 0 fs) b m capb ts)) (fun i _ => k - (intOf i).toNat)
    case atStart => exact ⟨0, by omega, rfl, HK6⟩
    case round =>
      clear HK6
      obtain ⟨j, hj, rfl, HK⟩ := hrel
      obtain ⟨y0, y1, y2, y3⟩ := HK.out.vx.cells
      obtain ⟨x0, x1, x2, x3⟩ := HK.out.vd.cells
      by_cases hlt : j < k
      · have hjf : j < fs.length := by rw [HK.out.vd.own.len]; exact hlt
        have hjg : j < (powL ts 0 fs).length := by rw [powL_length]; exact hjf
        have hgj : (powL ts 0 fs)[j] = leftF (fs[j]) (tearAt ts j) := by
          have e := powL_get ts fs 0 j hjf
          rw [List.getElem?_eq_getElem hjg, Nat.zero_add] at e
          injection e
        obtain ⟨b1, o1, h1, -, hw1, p1, p2, p3⟩ := HK.out.vd.own.row0.cells j hjf
        obtain ⟨b2, o2, h2, -, hw2, r1, r2, r3⟩ := HK.out.vx.own.row0.cells j hjg
        rw [hgj] at r1 r2 r3
        subst h1
        subst h2
        obtain ⟨g1, g2, g3, g4⟩ := left_begins (HSF.out j hjf) (tearAt ts j)
        obtain ⟨s0, s1⟩ := HSF.out j hjf
        rw [g1] at r1
        obtain ⟨tx, htx⟩ : ∃ tx, (leftF (fs[j]) (tearAt ts j)).text = tx := ⟨_, rfl⟩
        rw [htx] at r2 g2 g3 g4
        obtain ⟨sf, hsf⟩ : ∃ sf, (leftF (fs[j]) (tearAt ts j)).safe = sf := ⟨_, rfl⟩
        rw [hsf] at r3
        have htz : (fs[j]).text.size ≤ 1048576 := Nat.le_trans (text_le fs j hjf) (by omega)
        have HG4 := hide g4
        have hjk : (j : Int) < (k : Int) := by omega
        have v1 : ∀ o : Obj, (wr.alloc o).cell? ⟨b2, o2 + j * 3, none⟩ = some (.string (fs[j]).name) := fun o => by rw [(alloc_below wr o).cell (p := ⟨b2, _, none⟩) hw2]; exact r1
        have v2 : ∀ o : Obj, (wr.alloc o).cell? ⟨b2, o2 + j * 3 + 1, none⟩ = some (.string tx) := fun o => by rw [(alloc_below wr o).cell (p := ⟨b2, _, none⟩) hw2]; exact r2
        have v3 : ∀ o : Obj, (wr.alloc o).cell? ⟨b2, o2 + j * 3 + 2, none⟩ = some (.int .i64 sf) := fun o => by rw [(alloc_below wr o).cell (p := ⟨b2, _, none⟩) hw2]; exact r3
        have hb5l := HK.out.vx.lt
        have v4 : ∀ o : Obj, (wr.alloc o).cell? ⟨b5, 0, none⟩ = some (.slice (some ⟨b2, o2, none⟩) k cap2) := fun o => by rw [(alloc_below wr o).cell (p := ⟨b5, _, none⟩) hb5l]; exact y0
        clear htx hsf hgj g4 g1
        go_wp2_with fail
        refine (begins_yes tx (fs[j]).text g3 HG4.out _).mono ?_
        rintro e w7 ⟨rfl, rfl⟩
        have HK7 := hide ((HK.out.later (alloc_below wr (.cells #[.string (fs[j]).name, .string (fs[j]).text, .int .i64 (fs[j]).safe] 35))).later (alloc_below _ (.cells #[.string (fs[j]).name, .string tx, .int .i64 sf] 35)))
        go_wp2
        go_roundw
        case rel => exact ⟨j + 1, by omega, by go_num, HK7⟩
        case measure => first | (simp [intOf]; done) | (simp [intOf]; omega)
      · obtain rfl : j = k := by omega
        go_wp2
        clear y0 y1 y2 y3 x0 x1 x2 x3
        have HSK : Hid (∀ w', PK w w' b3 b5 lo a' j cap' c u d fs a2 cap2 (-1) false (powL ts 0 fs) b m capb ts → w'.cell? ⟨b5, 0, none⟩ = some (.slice a2 j cap2) ∧ w'.cell? ⟨b5, 1, none⟩ = some (.int .i64 c) ∧ w'.cell? ⟨b5, 2, none⟩ = some (.int .i64 (-1)) ∧ w'.cell? ⟨b5, 3, none⟩ = some (.bool false) ∧ w'.cell? ⟨b3, 0, none⟩ = some (.slice a' j cap') ∧ w'.cell? ⟨b3, 1, none⟩ = some (.int .i64 c) ∧ w'.cell? ⟨b3, 2, none⟩ = some (.int .i64 u) ∧ w'.cell? ⟨b3, 3, none⟩ = some (.bool d) ∧ Hid (PK w w' b3 b5 lo a' j cap' c u d fs a2 cap2 (-1) false (powL ts 0 fs) b m capb ts)) := hide (fun w' h => by
          obtain ⟨y0, y1, y2, y3⟩ := h.vx.cells
          obtain ⟨x0, x1, x2, x3⟩ := h.vd.cells
          exact ⟨y0, y1, y2, y3, x0, x1, x2, x3, hide h⟩)
        have HPW : Hid (∀ W', Hid (PK w W' b3 b5 lo a' j cap' c u d fs a2 cap2 (-1) false (powL ts 0 fs) b m capb ts) → Calls Try.prog 10 #[Value.agg #[.slice a2 j cap2, .int .i64 c, .int .i64 (-1), .bool false], .slice b m capb] W' fun e w' => (∃ a3 cap3, e = .returned (.agg #[.slice a3 j cap3, .int .i64 c, .int .i64 (-1), .bool false]) ∧ FRow w' 0 a3 j (powL ts 0 fs)) ∧ PK w w' b3 b5 lo a' j cap' c u d fs a2 cap2 (-1) false (powL ts 0 fs) b m capb ts) := hide (fun W' h => by
          have h1 := implPow_any W' a2 j cap2 (powL ts 0 fs) (at_of h.out.vx.own) h.out.vx.own.row0 (by omega) (by omega) c (-1) false b m capb ts h.out.vt.row (by omega)
          have e1 : powF (powL ts 0 fs) c (-1) ts = powL ts 0 fs := by unfold powF; rw [if_pos HOK.out, powL_again ts ts fs 0 HS.out]
          have e2 : powU (powL ts 0 fs) c (-1) = -1 := by unfold powU; rw [if_pos HOK.out]
          have e3 : powD (powL ts 0 fs) c (-1) false = false := by unfold powD; rw [if_pos HOK.out]
          rw [e1, e2, e3] at h1
          refine h1.mono ?_
          rintro e w' ⟨⟨a3, cap3, q1, q2⟩, q3⟩
          exact ⟨⟨a3, cap3, q1, q2.row0⟩, h.out.later q3⟩)
        have HSD : Hid (∀ W' a3 cap3, Hid (PK w W' b3 b5 lo a' j cap' c u d fs a2 cap2 (-1) false (powL ts 0 fs) b m capb ts) → FRow W' 0 a3 j (powL ts 0 fs) → Calls Try.prog 12 #[.agg #[.slice a3 j cap3, .int .i64 c, .int .i64 (-1), .bool false], Value.agg #[.slice a2 j cap2, .int .i64 c, .int .i64 (-1), .bool false]] W' fun e w' => e = .returned (.bool true) ∧ PK w w' b3 b5 lo a' j cap' c u d fs a2 cap2 (-1) false (powL ts 0 fs) b m capb ts) := hide (fun W' a3 cap3 h hr => by
          have h1 := specSame_any W' a3 a2 j j cap3 cap2 (powL ts 0 fs) (powL ts 0 fs) hr h.out.vx.own.row0 (by omega) (by omega) c (-1) c (-1) false false
          rw [eqDB_self] at h1
          exact h1.mono (fun e w' ⟨q1, q2⟩ => ⟨q1, h.out.later q2⟩))
        obtain ⟨u1, u2⟩ := powL_used ts fs 0 HS.out
        have hub := usedF_le_sz fs
        obtain ⟨Ux, hUx⟩ : ∃ n : Int, (usedF (powL ts 0 fs) : Int) = n := ⟨_, rfl⟩
        obtain ⟨Ud, hUd⟩ : ∃ n : Int, (usedF fs : Int) = n := ⟨_, rfl⟩
        obtain ⟨Vd, hVd⟩ : ∃ n, volF fs = n := ⟨_, rfl⟩
        have HUX : Hid (∀ W', Hid (PK w W' b3 b5 lo a' j cap' c u d fs a2 cap2 (-1) false (powL ts 0 fs) b m capb ts) → Calls Try.prog 16 #[Value.agg #[.slice a2 j cap2, .int .i64 c, .int .i64 (-1), .bool false]] W' fun e w' => e = .returned (.int .i64 Ux) ∧ PK w w' b3 b5 lo a' j cap' c u d fs a2 cap2 (-1) false (powL ts 0 fs) b m capb ts) := hide (fun W' h => by
          have h1 := implUsedA_any W' a2 j cap2 (powL ts 0 fs) h.out.vx.own.row0 (by omega) (by omega) c (-1) false
          have e1 : usedA (powL ts 0 fs) c (-1) = Ux := by unfold usedA; rw [if_pos HOK.out, hUx]
          rw [e1] at h1
          exact h1.mono (fun e w' ⟨q1, q2⟩ => ⟨q1, h.out.later q2⟩))
        have HUD : Hid (∀ W', Hid (PK w W' b3 b5 lo a' j cap' c u d fs a2 cap2 (-1) false (powL ts 0 fs) b m capb ts) → Calls Try.prog 16 #[Value.agg #[.slice a' j cap', .int .i64 c, .int .i64 u, .bool d]] W' fun e w' => e = .returned (.int .i64 Ud) ∧ PK w w' b3 b5 lo a' j cap' c u d fs a2 cap2 (-1) false (powL ts 0 fs) b m capb ts) := hide (fun W' h => by
          have h1 := implUsedA_any W' a' j cap' fs h.out.vd.own.row0 (by omega) (by omega) c u d
          have e1 : usedA fs c u = Ud := by unfold usedA; rw [if_pos q, hUd]
          rw [e1] at h1
          exact h1.mono (fun e w' ⟨q1, q2⟩ => ⟨q1, h.out.later q2⟩))
        have HVD : Hid (∀ W', Hid (PK w W' b3 b5 lo a' j cap' c u d fs a2 cap2 (-1) false (powL ts 0 fs) b m capb ts) → Calls Try.prog 13 #[Value.agg #[.slice a' j cap', .int .i64 c, .int .i64 u, .bool d]] W' fun e w' => e = .returned (.int .i64 Vd) ∧ PK w w' b3 b5 lo a' j cap' c u d fs a2 cap2 (-1) false (powL ts 0 fs) b m capb ts) := hide (fun W' h => by
          have h1 := implVol_any W' a' j cap' fs h.out.vd.own.row0 (by omega) (by omega) c u d
          have e1 : volA fs c u = Vd := by unfold volA; rw [if_pos q, hVd]
          rw [e1] at h1
          exact h1.mono (fun e w' ⟨q1, q2⟩ => ⟨q1, h.out.later q2⟩))
        have u3 : Ux ≤ Ud := by omega
        have u4 : 0 ≤ Ux := by omega
        have u5 : Ud ≤ 1048576 := by omega
        rw [hUx, hUd, hVd] at u2
        have t1 : decide (Ux ≤ Ud) = true := by simp; omega
        have t2 : decide (Ud - Ux ≤ Vd) = true := by simp; omega
        have hw1 : IntKind.i64.wrap (Ud - Ux) = Ud - Ux := by rw [IntKind.wrap_i64]; omega
        have S0 := HSK.out wr.drew (HK.out.later (Below.refl _ _).drew)
        clear hUx hUd hVd u1 u2 hub HVO HSE HOK HS HSF
        go_region_held3 (fun w' => w'.cell? ⟨b5, 0, none⟩ = some (.slice a2 j cap2) ∧ w'.cell? ⟨b5, 1, none⟩ = some (.int .i64 c) ∧ w'.cell? ⟨b5, 2, none⟩ = some (.int .i64 (-1)) ∧ w'.cell? ⟨b5, 3, none⟩ = some (.bool false) ∧ w'.cell? ⟨b3, 0, none⟩ = some (.slice a' j cap') ∧ w'.cell? ⟨b3, 1, none⟩ = some (.int .i64 c) ∧ w'.cell? ⟨b3, 2, none⟩ = some (.int .i64 u) ∧ w'.cell? ⟨b3, 3, none⟩ = some (.bool d) ∧ Hid (PK w w' b3 b5 lo a' j cap' c u d fs a2 cap2 (-1) false (powL ts 0 fs) b m capb ts)) (assumption) (first
          | (go_at_call 10; refine (HPW.out wr.drew S0.2.2.2.2.2.2.2.2).mono ?_; rintro e w7 ⟨⟨a3, cap3, rfl, hr7⟩, hk7⟩; have hS7 := HSK.out w7 hk7; have HR7 := hide hr7; clear hr7)
          | (go_at_call 12; refine (HSD.out w7 a3 cap3 hS7.2.2.2.2.2.2.2.2 HR7.out).mono ?_; rintro e w8 ⟨rfl, hk8⟩; have hS8 := HSK.out w8 hk8)
          | (go_at_call 16; first
            | (refine (HUX.out w11 hS11.2.2.2.2.2.2.2.2).mono ?_; rintro e w12 ⟨rfl, hk12⟩; have hS12 := HSK.out w12 hk12)
            | (refine (HUD.out w10 hS10.2.2.2.2.2.2.2.2).mono ?_; rintro e w11 ⟨rfl, hk11⟩; have hS11 := HSK.out w11 hk11)
            | (refine (HUD.out w9 hS9.2.2.2.2.2.2.2.2).mono ?_; rintro e w10 ⟨rfl, hk10⟩; have hS10 := HSK.out w10 hk10)
            | (refine (HUX.out w8 hS8.2.2.2.2.2.2.2.2).mono ?_; rintro e w9 ⟨rfl, hk9⟩; have hS9 := HSK.out w9 hk9))
          | (go_at_call 13; refine (HVD.out w12 hS12.2.2.2.2.2.2.2.2).mono ?_; rintro e w13 ⟨rfl, hk13⟩; have hS13 := HSK.out w13 hk13))
        have HB := hide hk13.bel
        clear hS13 hk13 hS12 hk12 hS11 hk11 hS10 hk10 hS9 hk9 hS8 hk8 hS7 hk7 S0 HR7 HVD HUD HUX HSD HPW HSK HK
        go_wp2
        go_ret
        exact ⟨rfl, HB.out⟩
  · have q' : diskOk fs c u = false := by simpa using q
    rw [q']
    have hUD : U = u ∧ D = d ∧ gs = fs := by
      rw [← HU.out, ← HD.out, ← HGS.out]
      unfold powU powD powF
      rw [if_neg q, if_neg q, if_neg q]
      exact ⟨rfl, rfl, rfl⟩
    obtain ⟨rfl, rfl, rfl⟩ := hUD
    clear HU HD HGS
    obtain ⟨y0, y1, y2, y3⟩ := HK3.out.vx.cells
    obtain ⟨x0, x1, x2, x3⟩ := HK3.out.vd.cells
    go_wp2_with fail
    clear y0 y1 y2 y3 x0 x1 x2 x3
    refine (specSame_any w3 a2 a' k k cap2 cap' gs gs HK3.out.vx.own.row0 HK3.out.vd.own.row0 (by omega) (by omega) c U c U D D).mono ?_
    rintro e w4 ⟨rfl, hb4⟩
    rw [eqDB_self]
    have HK4 := hide (HK3.out.later hb4)
    clear hb4 HK3
    go_wp2
    go_ret
    exact ⟨rfl, HK4.out.bel⟩

end Go.Proofs.Ythfpcjamlbkgfaa
