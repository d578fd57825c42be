/-
  The walk of the exact law of DirGet.
-/
import Derived.Test.YtdodlaindeclpaaEntS
import Derived.Test.YtdodlaindeclpaaDirGetI
namespace Go.Proofs.Ytdodlaindeclpaa
open Go.RowKit
open Plain

set_option maxRecDepth 100000 in
set_option maxHeartbeats 4000000 in
theorem lawDirGet_walk (w : World) (a : Option Addr) (n cap : Nat) (xs : List EntV) (hr : entSh.Row w a n xs) (hf : EFits xs) (hl : n ≤ maxLen) (key : ByteArray) (hk : key.size ≤ maxLen) :
    Calls Try.prog 5 #[.slice a n cap, .string key] w fun e w' => e = .returned (.bool true) ∧ Below w.heap.size w w' := by
  unfold maxLen at hk
  by_cases hks : key.size ≤ 1048576
  · have dk : decide ((1048576 : Int) < (key.size : Int)) = false := by simp; omega
    have HSZ := hide (szEntS_any w a n cap xs hr hf hl 1048576 (by omega) (by omega))
    have HR := hide hr
    clear hr hf hl
    go_enter Try.func5, Try.ntmps5
    go_wp2_with fail
    refine HSZ.out.mono ?_
    rintro e w1 ⟨rfl, hb1⟩
    have HB1 := hide hb1
    clear hb1 HSZ
    by_cases hsz : ((n + szEs xs : Nat) : Int) ≤ 1048576
    · rw [lessR_yes hsz]
      have hn : n ≤ 1048576 := by omega
      have d0 : decide ((1048576 : Int) - ((n + szEs xs : Nat) : Int) < 0) = false := by simp; omega
      have HTO : Hid (∀ W, Below w.heap.size w W → _) := hide (fun W (hW : Below w.heap.size w W) => toEntS_any W a n cap xs (HR.out.later hW) hn)
      generalize (1048576 : Int) - ((n + szEs xs : Nat) : Int) = L at *
      obtain ⟨z, hz⟩ : ∃ z, (getE xs key).getD zeroE = z := ⟨_, rfl⟩
      obtain ⟨ok, hok⟩ : ∃ ok, (getE xs key).isSome = ok := ⟨_, rfl⟩
      have HGV : Hid (gotV (getE xs key) = .tuple #[.agg #[.string z.key, .int .i64 z.seg, .int .i64 z.pos, .int .i64 z.len, .int .i64 z.bat], .bool ok]) := hide (by rw [← hz, ← hok]; rfl)
      have d1 : (ok != ok) = false := by simp
      clear hsz hz hok
      go_wp2_with fail
      refine (HTO.out w1 HB1.out).mono ?_
      rintro e w2 ⟨rfl, ho2, hb2⟩
      have HB2 := hide (HB1.out.trans (hb2.mono HB1.out.size))
      have HSP := hide (specGet_any w2 _ n n xs key ho2.row hn)
      rw [HGV.out] at HSP
      clear ho2 hb2 HB1
      go_wp2_with fail
      refine HSP.out.mono ?_
      rintro e w3 ⟨rfl, hb3⟩
      have HB3 := hide (HB2.out.trans (hb3.mono HB2.out.size))
      clear hb3 HSP HB2
      obtain ⟨W3, hW3⟩ : ∃ W3, W3 = w3.alloc (.cells #[.string z.key, .int .i64 z.seg, .int .i64 z.pos, .int .i64 z.len, .int .i64 z.bat] 26) := ⟨_, rfl⟩
      have HK3 : Hid (Blk5 W3 w3.heap.size z) := hide (by rw [hW3]; exact Blk5.new w3 z)
      have HB3' : Hid (Below w.heap.size w W3) := hide (by rw [hW3]; exact HB3.out.alloc HB3.out.size _)
      go_wp2_with fail
      rw [← hW3]
      clear hW3 HB3
      generalize w3.heap.size = B3 at *
      refine (HTO.out W3 HB3'.out).mono ?_
      rintro e w4 ⟨rfl, ho4, hb4⟩
      have HB4 := hide (HB3'.out.trans (hb4.mono HB3'.out.size))
      have HO4 := hide ho4.row
      have HK4 := hide (HK3.out.later hb4 HK3.out.lt)
      have HIM := hide (implGet_any w4 _ 0 n n xs key ho4.row (ho4.blk _ rfl).2 (by omega))
      rw [HGV.out] at HIM
      generalize W3.heap.size = g3 at *
      clear ho4 hb4 HB3' HK3 HGV
      go_wp2_with fail
      refine HIM.out.mono ?_
      rintro e w5 ⟨rfl, hb5⟩
      have HB5 := hide (HB4.out.trans (hb5.mono HB4.out.size))
      have HO5 := hide (HO4.out.later hb5)
      have HK5 := hide (HK4.out.later hb5 HK4.out.lt)
      clear hb5 HIM HB4 HO4 HK4
      obtain ⟨W5, hW5⟩ : ∃ W5, W5 = w5.alloc (.cells #[.string z.key, .int .i64 z.seg, .int .i64 z.pos, .int .i64 z.len, .int .i64 z.bat] 26) := ⟨_, rfl⟩
      have HA : Below w5.heap.size w5 W5 := by rw [hW5]; exact al1 w5 _
      have HB6 := hide (HB5.out.trans (HA.mono HB5.out.size))
      have HO6 := hide (HO5.out.later HA)
      obtain ⟨x0, x1, x2, x3, x4, -⟩ := cells5 HK5.out
      have hlt5 : B3 < w5.heap.size := HK5.out.lt
      have hne5 : B3 ≠ w5.heap.size := by omega
      have HE := hide (eqEnt_any z z)
      rw [(eqE_iff _ _).2 rfl] at HE
      go_wp2_with fail
      rw [← hW5]
      clear hW5 HA HB5 HO5 HK5 hlt5 hne5
      refine (HE.out _).mono ?_
      rintro e w6 ⟨rfl, hb6⟩
      have HB7 := hide (HB6.out.trans (hb6.mono HB6.out.size))
      have HO7 := hide (HO6.out.later hb6)
      clear hb6 HB6 HO6 HE x0 x1 x2 x3 x4
      go_wp2_with fail
      refine (HTO.out w6 HB7.out).mono ?_
      rintro e w7 ⟨rfl, ho7, hb7⟩
      have HB8 := hide (HB7.out.trans (hb7.mono HB7.out.size))
      have HEQ := hide (eqEntS_same w7 _ _ n n n xs (HO7.out.later hb7) ho7.row hn)
      clear ho7 hb7 HB7 HO7
      go_wp2_with fail
      refine HEQ.out.mono ?_
      rintro e w8 ⟨rfl, hb8⟩
      have HB9 := hide (HB8.out.trans (hb8.mono HB8.out.size))
      clear hb8 HB8 HEQ
      go_wp2
      go_ret
      exact ⟨rfl, HB9.out⟩
    · rw [lessR_no (by omega)]
      go_wp2
      go_ret
      exact ⟨rfl, HB1.out⟩
  · have dk : decide ((1048576 : Int) < (key.size : Int)) = true := by simp; omega
    go_enter Try.func5, Try.ntmps5
    go_wp2
    go_ret
    exact ⟨rfl, Below.refl _ _⟩

end Go.Proofs.Ytdodlaindeclpaa
