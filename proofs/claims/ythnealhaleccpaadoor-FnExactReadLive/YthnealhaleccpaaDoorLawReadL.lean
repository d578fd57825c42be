/-
  The walk of the exact law of ReadLive.
-/
import Derived.Test.YthnealhaleccpaaDoorLiveMark
import Derived.Test.YthnealhaleccpaaDoorReadLImpl
import Derived.Test.YthnealhaleccpaaDoorReadLSpec
namespace Go.Proofs.YthnealhaleccpaaDoor
open Go.RowKit
open Plain

/-- Block B holds a list of the law's own; its numbers lie in a row from block lo on, ahead of B; what was there in w is untouched. -/
structure LOwn (w : World) (lo B : Nat) (x : Int) (a : Option Addr) (n cap : Nat) (zs : List Int) (W : World) : Prop where
  row : W.heap[B]? = some (.cells #[.int .i64 x, .slice a n cap] 27 (0, 0))
  own : IOwn W lo (.slice a n cap) zs
  top : ∀ g, (Value.slice a n cap).ownBlock = some g → g < B
  bel : Below w.heap.size w W
  low : w.heap.size ≤ lo
  pos : w.heap.size ≤ B
theorem LOwn.later {w : World} {lo B : Nat} {x : Int} {a : Option Addr} {n cap : Nat} {zs : List Int} {W W' : World} (h : LOwn w lo B x a n cap zs W) (hb : Below W.heap.size W W') : LOwn w lo B x a n cap zs W' :=
  ⟨(hb.block _ (lt_of_block h.row)).trans h.row, h.own.later hb (Nat.le_refl _), h.top, h.bel.trans (hb.mono h.bel.size), h.low, h.pos⟩
theorem LOwn.new {w W : World} {lo : Nat} (x : Int) {a : Option Addr} {n cap : Nat} {zs : List Int} (h : IOwn W lo (.slice a n cap) zs) (hb : Below w.heap.size w W) (hl : w.heap.size ≤ lo) : LOwn w lo W.heap.size x a n cap zs (W.alloc (.cells #[.int .i64 x, .slice a n cap] 27)) :=
  ⟨heap_alloc_new W _, h.later (al1 W _) (Nat.le_refl _), fun g hg => (World.ownsRow.lt h g hg).2, hb.alloc hb.size _, hl, hb.size⟩
/-- Another row is written, behind this list. -/
theorem LOwn.other {w : World} {lo B : Nat} {x : Int} {a : Option Addr} {n cap : Nat} {zs : List Int} {W W' : World} {r : Option Nat} (h : LOwn w lo B x a n cap zs W) (hg : W.grownBy W' r) (hr : ∀ g, r = some g → B < g) : LOwn w lo B x a n cap zs W' := by
  have hB := lt_of_block h.row
  have hp := h.pos
  refine ⟨(hg.block _ hB (fun e => by have := hr _ e.symm; omega)).trans h.row, ⟨h.own.1, ?_⟩, h.top, h.bel.grown hg h.bel.size (fun g e => by have h1 := hr g e; omega), h.low, h.pos⟩
  rcases h.own.2 with h1 | ⟨g, c, cur, e, hbg, hg1, h2⟩
  · exact .inl h1
  · have ht := h.top g (by rw [e]; rfl)
    exact .inr ⟨g, c, cur, e, hbg, (hg.block g (lt_of_block hg1) (fun e2 => by have := hr g e2.symm; omega)).trans hg1, h2⟩
theorem LOwn.written {w : World} {lo B : Nat} {x : Int} {a : Option Addr} {n cap : Nat} {zs ys : List Int} {W W' : World} (h : LOwn w lo B x a n cap zs W) (hg : W.grownBy W' (Value.slice a n cap).ownBlock) (ho : IOwn W' lo (.slice a n cap) ys) : LOwn w lo B x a n cap ys W' := by
  refine ⟨(hg.block _ (lt_of_block h.row) (fun e => by have := h.top _ e.symm; omega)).trans h.row, ho, h.top, h.bel.grown hg h.bel.size (fun g e => Nat.le_trans h.low (World.ownsRow.lt h.own g e).1), h.low, h.pos⟩
theorem LOwn.cells {w : World} {lo B : Nat} {x : Int} {a : Option Addr} {n cap : Nat} {zs : List Int} {W : World} (h : LOwn w lo B x a n cap zs W) : W.cell? ⟨B, 0, none⟩ = some (.int .i64 x) ∧ W.cell? ⟨B, 1, none⟩ = some (.slice a n cap) := by
  obtain ⟨h1, h2, -, -⟩ := cells2 h.row
  exact ⟨h1, h2⟩

set_option maxRecDepth 100000 in
set_option maxHeartbeats 8000000 in
theorem lawReadLive_walk (s : ByteArray) (w : World) (ht : STab w) :
    Calls Tryd.prog 4 #[.string s] w fun e w' => e = .returned (.bool true) ∧ Below w.heap.size w w' := by
  by_cases hb : s.size ≤ 1048576
  · have t0 : decide ((1048576 : Int) < (s.size : Int)) = false := by simp; omega
    have HT := hide ht
    have HSP := hide (specReadL_any s hb w)
    have HIM := hide (fun W h => implReadL_any s hb W h)
    have hlen : (rl s).1.ids.length ≤ 60 := by
      rcases rl_RL s with ⟨_, h2, _⟩ | ⟨_, h2, _⟩
      · exact (live_bd h2).2.1.2
      · rw [h2]; exact Nat.zero_le _
    clear ht hb
    obtain ⟨x, hx⟩ : ∃ x, (rl s).1.next = x := ⟨_, rfl⟩
    obtain ⟨zs, hz⟩ : ∃ zs, (rl s).1.ids = zs := ⟨_, rfl⟩
    obtain ⟨ok, hok⟩ : ∃ ok, (rl s).2 = ok := ⟨_, rfl⟩
    rw [hx, hz, hok] at HSP HIM
    rw [hz] at hlen
    clear hx hz hok
    go_enter Tryd.func4, Tryd.ntmps4
    go_wp2_with fail
    refine HSP.out.mono ?_
    rintro e w1 ⟨⟨a1, n1, c1, rfl, ho1⟩, hb1⟩
    have hn1 := ho1.len
    have HB1 := hide hb1
    have hA1 := LOwn.new x ho1 hb1 (Nat.le_refl _)
    obtain ⟨X1, hX1⟩ : ∃ X, X = w1.alloc (.cells #[.int .i64 x, .slice a1 n1 c1] 27) := ⟨_, rfl⟩
    rw [← hX1] at hA1
    have HA1 := hide hA1
    have hbX : Below w1.heap.size w1 X1 := by rw [hX1]; exact al1 w1 _
    have HTX := hide (HT.out.later (hb1.trans (hbX.mono hb1.size)))
    have HL1 : Hid (w1.heap.size < X1.heap.size) := hide (lt_of_block hA1.row)
    clear ho1 hb1 HSP hbX hA1
    go_wp2_with fail
    rw [← hX1]
    clear hX1
    obtain ⟨B1, hB1⟩ : ∃ B, w1.heap.size = B := ⟨_, rfl⟩
    rw [hB1] at HA1 HL1 ⊢
    clear hB1
    refine (HIM.out X1 HTX.out).mono ?_
    rintro e w2 ⟨⟨a2, n2, c2, rfl, ho2⟩, hb2⟩
    obtain rfl : n2 = n1 := by have := ho2.len; omega
    have HA2 := hide (HA1.out.later hb2)
    have hG2 := LOwn.new x ho2 (HA1.out.bel.trans (hb2.mono HA1.out.bel.size)) HA1.out.bel.size
    obtain ⟨X2, hX2⟩ : ∃ X, X = w2.alloc (.cells #[.int .i64 x, .slice a2 n2 c2] 27) := ⟨_, rfl⟩
    rw [← hX2] at hG2
    have hbX : Below w2.heap.size w2 X2 := by rw [hX2]; exact al1 w2 _
    have HK : Hid (LOwn w w.heap.size B1 x a1 n2 c1 zs X2 ∧ LOwn w X1.heap.size w2.heap.size x a2 n2 c2 zs X2) := hide ⟨HA2.out.later hbX, hG2⟩
    obtain ⟨y0, y1⟩ := HK.out.1.cells
    obtain ⟨z0, z1⟩ := HK.out.2.cells
    rw [hX2] at y0 y1 z0 z1
    clear HA2 hG2 hbX HA1 HTX ho2 hb2
    go_wp2_with fail
    rw [← hX2]
    clear hX2 y0 y1 z0 z1
    obtain ⟨B2, hB2⟩ : ∃ B, w2.heap.size = B := ⟨_, rfl⟩
    obtain ⟨l2, hl2⟩ : ∃ l, X1.heap.size = l := ⟨_, rfl⟩
    rw [hB2, hl2] at HK
    rw [hl2] at HL1
    rw [hB2]
    clear hB2 hl2
    refine (eqLive_same X2 x a2 a1 n2 c2 c1 zs HK.out.2.own.row HK.out.1.own.row (by omega)).mono ?_
    rintro e w3 ⟨rfl, hb3⟩
    have HK3 : Hid (LOwn w w.heap.size B1 x a1 n2 c1 zs w3 ∧ LOwn w l2 B2 x a2 n2 c2 zs w3) := hide ⟨HK.out.1.later hb3, HK.out.2.later hb3⟩
    clear hb3 HK
    obtain ⟨z0, z1⟩ := HK3.out.2.cells
    go_wp2_with fail
    clear z0 z1
    refine (markLive_any w3 l2 x a2 n2 c2 zs (by omega) 1 (by omega) HK3.out.2.own).mono ?_
    rintro e w4 ⟨rfl, ho4, hg4⟩
    have HK4 : Hid (LOwn w w.heap.size B1 x a1 n2 c1 zs w4 ∧ LOwn w l2 B2 x a2 n2 c2 (upI n2 1) w4) := hide ⟨HK3.out.1.other hg4 (fun g e => Nat.lt_of_lt_of_le HL1.out (World.ownsRow.lt HK3.out.2.own g e).1), HK3.out.2.written hg4 ho4⟩
    obtain ⟨z0, z1⟩ := HK4.out.2.cells
    have HHE := hide (fun W (h : IRow W 0 a2 n2 (upI n2 1)) => heldLive_any W x a2 n2 c2 (by omega) 1 (by omega) h)
    obtain ⟨t, ht⟩ : ∃ t : Int, ((1 + n2 : Nat) : Int) = t := ⟨_, rfl⟩
    have t1 : decide (t < 0) = false := by simp; omega
    have t2 : (t != t) = false := by simp
    rw [ht] at HHE ⊢
    clear ht ho4 hg4 HK3 HL1
    go_wp2_with fail
    clear z0 z1
    refine (HHE.out w4 HK4.out.2.own.row).mono ?_
    rintro e w5 ⟨rfl, hb5⟩
    have HK5 : Hid (LOwn w w.heap.size B1 x a1 n2 c1 zs w5 ∧ LOwn w l2 B2 x a2 n2 c2 (upI n2 1) w5) := hide ⟨HK4.out.1.later hb5, HK4.out.2.later hb5⟩
    clear hb5 HK4
    go_wp2_with fail
    refine (HIM.out w5 (HT.out.later HK5.out.1.bel)).mono ?_
    rintro e w6 ⟨⟨a3, n3, c3, rfl, ho3⟩, hb6⟩
    obtain rfl : n3 = n2 := by have := ho3.len; omega
    obtain ⟨X6, hX6⟩ : ∃ X, X = w6.alloc (.cells #[.int .i64 x, .slice a3 n3 c3] 27) := ⟨_, rfl⟩
    have hbX : Below w6.heap.size w6 X6 := by rw [hX6]; exact al1 w6 _
    have HK6 : Hid ((LOwn w w.heap.size B1 x a1 n3 c1 zs X6 ∧ LOwn w l2 B2 x a2 n3 c2 (upI n3 1) X6) ∧ LOwn w w5.heap.size w6.heap.size x a3 n3 c3 zs X6) := hide ⟨⟨(HK5.out.1.later hb6).later hbX, (HK5.out.2.later hb6).later hbX⟩, by rw [hX6]; exact LOwn.new x ho3 (HK5.out.1.bel.trans (hb6.mono HK5.out.1.bel.size)) HK5.out.1.bel.size⟩
    obtain ⟨y0, y1⟩ := HK6.out.1.1.cells
    obtain ⟨z0, z1⟩ := HK6.out.2.cells
    rw [hX6] at y0 y1 z0 z1
    clear ho3 hb6 hbX HK5 HIM HT
    go_wp2_with fail
    rw [← hX6]
    clear hX6 y0 y1 z0 z1
    refine (eqLive_same X6 x a3 a1 n3 c3 c1 zs HK6.out.2.own.row HK6.out.1.1.own.row (by omega)).mono ?_
    rintro e w7 ⟨rfl, hb7⟩
    have HK7 := hide (HK6.out.1.2.later hb7)
    clear hb7 HK6
    obtain ⟨z0, z1⟩ := HK7.out.cells
    go_wp2_with fail
    clear z0 z1
    refine (HHE.out w7 HK7.out.own.row).mono ?_
    rintro e w8 ⟨rfl, hb8⟩
    have HB8 := hide (HK7.out.later hb8).bel
    clear hb8 HK7 HHE
    go_wp2
    go_ret
    exact ⟨rfl, HB8.out⟩
  · have t0 : decide ((1048576 : Int) < (s.size : Int)) = true := by simp; omega
    go_enter Tryd.func4, Tryd.ntmps4
    go_wp2
    go_ret
    exact ⟨rfl, Below.refl _ _⟩

end Go.Proofs.YthnealhaleccpaaDoor
