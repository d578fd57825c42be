/-
  The walk of the exact law of HintOf.
-/
import Derived.Test.YtimpokbcfjgdaaaGreatDoorG08
import Derived.Test.YtimpokbcfjgdaaaGreatDoorMHofI
import Derived.Test.YtimpokbcfjgdaaaGreatDoorMHofS
namespace Go.Proofs.YtimpokbcfjgdaaaGreatDoor
open Go.RowKit
open Plain

theorem hof_bd (id : Int) (s : ByteArray) : (hof id s).1.list.length ≤ s.size := by
  have h := scanS_len' s
  unfold hof hofL
  split
  · show ((initSp (scanS s).1).map (spotE id)).length ≤ s.size
    rw [List.length_map, init_len]
    omega
  · exact Nat.zero_le _
set_option maxRecDepth 100000 in
set_option maxHeartbeats 8000000 in
theorem lawHintOf_walk (id : Int) (s : ByteArray) (A B : Addr) (w : World) (ht : STab w) (he : ErrIn w A B) :
    Calls Tryz.prog 4 #[.int .i64 id, .string s] w fun e w' => e = .returned (.bool true) ∧ Below w.heap.size w w' := by
  by_cases hb : s.size ≤ 1048576
  · have t0 : decide ((1048576 : Int) < (s.size : Int)) = false := by simp; omega
    have HT := hide ht
    have HER := hide he
    have HSP := hide (specHof_any id s hb w)
    have HIM := hide (fun W h1 h2 => implHof_any id s hb A B W h1 h2)
    have hlen := hof_bd id s
    clear ht he
    obtain ⟨x, hx⟩ : ∃ x, (hof id s).1.size = x := ⟨_, rfl⟩
    obtain ⟨m, hm⟩ : ∃ m, (hof id s).1.mark = m := ⟨_, rfl⟩
    obtain ⟨zs, hz⟩ : ∃ zs, (hof id s).1.list = zs := ⟨_, rfl⟩
    obtain ⟨ok, hok⟩ : ∃ ok, (hof id s).2 = ok := ⟨_, rfl⟩
    rw [hx, hm, hz, hok] at HSP HIM
    rw [hz] at hlen
    have hlen : zs.length ≤ 1048576 := by omega
    clear hx hm hz hok hb
    go_enter Tryz.func4, Tryz.ntmps4
    go_wp2_with fail
    refine HSP.out.mono ?_
    rintro e w1 ⟨⟨a1, n1, c1, rfl, ho1⟩, hb1⟩
    have hn1 := ho1.len
    have HB1 := hide hb1
    have hA1 := HOwn.new x m ho1 hb1 (Nat.le_refl _)
    obtain ⟨X1, hX1⟩ : ∃ X, X = w1.alloc (.cells #[.int .i64 x, .int .i64 m, .slice a1 n1 c1] 26) := ⟨_, rfl⟩
    rw [← hX1] at hA1
    have HA1 := hide hA1
    have hbX : Below w1.heap.size w1 X1 := by rw [hX1]; exact al1 w1 _
    have HTX := hide (And.intro (HT.out.later (hb1.trans (hbX.mono hb1.size))) (HER.out.later (hb1.trans (hbX.mono hb1.size)) (Nat.le_refl _)))
    have HL1 : Hid (w1.heap.size < X1.heap.size) := hide (lt_of_block hA1.row)
    clear ho1 hb1 HSP hbX hA1
    go_wp2_with fail
    rw [← hX1]
    clear hX1
    obtain ⟨B1, hB1⟩ : ∃ B, w1.heap.size = B := ⟨_, rfl⟩
    rw [hB1] at HA1 HL1 ⊢
    clear hB1
    refine (HIM.out X1 HTX.out.1 HTX.out.2).mono ?_
    rintro e w2 ⟨⟨a2, n2, c2, rfl, ho2⟩, hb2⟩
    obtain rfl : n2 = n1 := by have := ho2.len; omega
    have HA2 := hide (HA1.out.later hb2)
    have hG2 := HOwn.new x m ho2 (HA1.out.bel.trans (hb2.mono HA1.out.bel.size)) HA1.out.bel.size
    obtain ⟨X2, hX2⟩ : ∃ X, X = w2.alloc (.cells #[.int .i64 x, .int .i64 m, .slice a2 n2 c2] 26) := ⟨_, rfl⟩
    rw [← hX2] at hG2
    have hbX : Below w2.heap.size w2 X2 := by rw [hX2]; exact al1 w2 _
    have HK : Hid (HOwn w w.heap.size B1 x m a1 n2 c1 zs X2 ∧ HOwn w X1.heap.size w2.heap.size x m a2 n2 c2 zs X2) := hide ⟨HA2.out.later hbX, hG2⟩
    obtain ⟨y0, y1, y2⟩ := HK.out.1.cells
    obtain ⟨z0, z1, z2⟩ := HK.out.2.cells
    rw [hX2] at y0 y1 y2 z0 z1 z2
    clear HA2 hG2 hbX HA1 HTX ho2 hb2
    go_wp2_with fail
    rw [← hX2]
    clear hX2 y0 y1 y2 z0 z1 z2
    obtain ⟨B2, hB2⟩ : ∃ B, w2.heap.size = B := ⟨_, rfl⟩
    obtain ⟨l2, hl2⟩ : ∃ l, X1.heap.size = l := ⟨_, rfl⟩
    rw [hB2, hl2] at HK
    rw [hl2] at HL1
    rw [hB2]
    clear hB2 hl2
    refine (eqHint_same X2 x m a2 a1 n2 c2 c1 zs HK.out.2.own.row HK.out.1.own.row (by omega)).mono ?_
    rintro e w3 ⟨rfl, hb3⟩
    have HK3 : Hid (HOwn w w.heap.size B1 x m a1 n2 c1 zs w3 ∧ HOwn w l2 B2 x m a2 n2 c2 zs w3) := hide ⟨HK.out.1.later hb3, HK.out.2.later hb3⟩
    clear hb3 HK
    obtain ⟨z0, z1, z2⟩ := HK3.out.2.cells
    go_wp2_with fail
    clear z0 z1 z2
    refine (markHint_any w3 l2 x m a2 n2 c2 zs HK3.out.2.own (by omega) 1 (by omega) (by omega)).mono ?_
    rintro e w4 ⟨rfl, ho4, hg4⟩
    have HK4 : Hid (HOwn w w.heap.size B1 x m a1 n2 c1 zs w4 ∧ HOwn w l2 B2 x m a2 n2 c2 (markE n2 1) w4) := hide ⟨HK3.out.1.other hg4 (fun g e => Nat.lt_of_lt_of_le HL1.out (HK3.out.2.own.blk g e).1), HK3.out.2.written hg4 ho4⟩
    obtain ⟨z0, z1, z2⟩ := HK4.out.2.cells
    have HHE := hide (fun W (h : entSh.Row W a2 n2 (markE n2 1)) => heldHint_any W x m a2 n2 c2 (by omega) 1 (by omega) (by omega) h)
    obtain ⟨t, ht⟩ : ∃ t : Int, ((1 + 5 * n2 : Nat) : Int) = t := ⟨_, rfl⟩
    have t1 : decide (t < 0) = false := by simp; omega
    have t2 : (t != t) = false := by simp
    rw [ht] at HHE ⊢
    clear ht ho4 hg4 HK3 HL1
    go_wp2_with fail
    clear z0 z1 z2
    refine (HHE.out w4 HK4.out.2.own.row).mono ?_
    rintro e w5 ⟨rfl, hb5⟩
    have HK5 : Hid (HOwn w w.heap.size B1 x m a1 n2 c1 zs w5 ∧ HOwn w l2 B2 x m a2 n2 c2 (markE n2 1) w5) := hide ⟨HK4.out.1.later hb5, HK4.out.2.later hb5⟩
    clear hb5 HK4
    go_wp2_with fail
    refine (HIM.out w5 (HT.out.later HK5.out.1.bel) (HER.out.later HK5.out.1.bel (Nat.le_refl _))).mono ?_
    rintro e w6 ⟨⟨a3, n3, c3, rfl, ho3⟩, hb6⟩
    obtain rfl : n3 = n2 := by have := ho3.len; omega
    obtain ⟨X6, hX6⟩ : ∃ X, X = w6.alloc (.cells #[.int .i64 x, .int .i64 m, .slice a3 n3 c3] 26) := ⟨_, rfl⟩
    have hbX : Below w6.heap.size w6 X6 := by rw [hX6]; exact al1 w6 _
    have HK6 : Hid ((HOwn w w.heap.size B1 x m a1 n3 c1 zs X6 ∧ HOwn w l2 B2 x m a2 n3 c2 (markE n3 1) X6) ∧ HOwn w w5.heap.size w6.heap.size x m a3 n3 c3 zs X6) := hide ⟨⟨(HK5.out.1.later hb6).later hbX, (HK5.out.2.later hb6).later hbX⟩, by rw [hX6]; exact HOwn.new x m ho3 (HK5.out.1.bel.trans (hb6.mono HK5.out.1.bel.size)) HK5.out.1.bel.size⟩
    obtain ⟨y0, y1, y2⟩ := HK6.out.1.1.cells
    obtain ⟨z0, z1, z2⟩ := HK6.out.2.cells
    rw [hX6] at y0 y1 y2 z0 z1 z2
    clear ho3 hb6 hbX HK5 HIM HT HER
    go_wp2_with fail
    rw [← hX6]
    clear hX6 y0 y1 y2 z0 z1 z2
    refine (eqHint_same X6 x m a3 a1 n3 c3 c1 zs HK6.out.2.own.row HK6.out.1.1.own.row (by omega)).mono ?_
    rintro e w7 ⟨rfl, hb7⟩
    have HK7 := hide (HK6.out.1.2.later hb7)
    clear hb7 HK6
    obtain ⟨z0, z1, z2⟩ := HK7.out.cells
    go_wp2_with fail
    clear z0 z1 z2
    refine (HHE.out w7 HK7.out.own.row).mono ?_
    rintro e w8 ⟨rfl, hb8⟩
    have HB8 := hide (HK7.out.later hb8).bel
    clear hb8 HK7 HHE
    go_wp2
    go_ret
    exact ⟨rfl, HB8.out⟩
  · have t0 : decide ((1048576 : Int) < (s.size : Int)) = true := by simp; omega
    go_enter Tryz.func4, Tryz.ntmps4
    go_wp2
    go_ret
    exact ⟨rfl, Below.refl _ _⟩

end Go.Proofs.YtimpokbcfjgdaaaGreatDoor
