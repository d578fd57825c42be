/-
  The walk of FnDirs.
-/
import Derived.Test.YtnckdfidehbcaaaDrawPut8
import Derived.Test.YtnckdfidehbcaaaDirsPlain
import Derived.Test.YtnckdfidehbcaaaDirPutI
import Derived.Test.YtnckdfidehbcaaaDirSame
import Derived.Test.YtnckdfidehbcaaaAtBig
import Derived.Deep.QuietTactic
namespace Go.Proofs.Ytnckdfidehbcaaa
open Go.RowKit
open Plain

attribute [local go_sem] ent_guard

theorem gotV_is (o : Option EntV) : gotV o = .tuple #[.agg #[.string (o.getD zeroE).key, .int .i64 (o.getD zeroE).seg, .int .i64 (o.getD zeroE).pos, .int .i64 (o.getD zeroE).len, .int .i64 (o.getD zeroE).bat], .bool o.isSome] := rfl
theorem sameE_self (xs : List EntV) : sameE xs xs = true := (sameE_iff xs xs).2 rfl
theorem own_some {w : World} {T : TypeId} {base : Nat} {a : Option Addr} {n cap : Nat} {xs : List EntV} (h : entSh.Own T w base (.slice a n cap) xs) (hn : 0 < n) : ∃ g, a = some ⟨g, 0, none⟩ := by
  rcases h.2 with ⟨e, h0⟩ | ⟨g, c, cur, e, _⟩
  · have := h.len; omega
  · simp only [Value.slice.injEq] at e
    exact ⟨g, e.1⟩

set_option maxRecDepth 100000 in
set_option maxHeartbeats 8000000 in
theorem dirs_walk (w : World) (a : Option Addr) (len cap : Nat) (zs : List Int) (hc : CodeAt w a len zs) (hl : len ≤ 1048576) :
    Calls Try.prog 3 #[.slice a len cap] w fun e w' => e = .returned (.bool true) ∧ Below w.heap.size w w' := by
  have HC := hide hc
  have hbig : decide (1048576 < len) = false := by simp; omega
  clear hc
  go_enter Try.func3, Try.ntmps3
  go_wp2_with fail
  refine (big_any a len cap w).mono ?_
  rintro e w0 ⟨rfl, rfl⟩
  rw [hbig]
  go_wp2_with fail
  refine (drawPut8_any w a len cap zs HC.out).mono ?_
  rintro e w1 ⟨⟨g, n, c', xs, p, rfl, hn7, ho1⟩, hb1⟩
  obtain ⟨W1, hW1⟩ : ∃ W1, W1 = w1.alloc (.cells #[.string p.key, .int .i64 p.seg, .int .i64 p.pos, .int .i64 p.len, .int .i64 p.bat] 26) := ⟨_, rfl⟩
  have HW : Hid (Below w.heap.size w W1) := hide (by rw [hW1]; exact hb1.alloc hb1.size _)
  have HLX : Hid (∀ W', Below W1.heap.size W1 W' → entSh.Row W' (some ⟨g, 0, none⟩) n xs) := hide (fun W' h => by
    have h1 := (ho1.row.later (al1 w1 (.cells #[.string p.key, .int .i64 p.seg, .int .i64 p.pos, .int .i64 p.len, .int .i64 p.bat] 26)))
    rw [← hW1] at h1
    exact h1.later h)
  have HEX : Hid (∀ W', Below W1.heap.size W1 W' → Blk5 W' w1.heap.size p) := hide (fun W' h => by
    have h1 := Blk5.new w1 p
    rw [← hW1] at h1
    exact h1.later h h1.lt)
  have hnx : xs.length = n := ho1.len
  clear HC hbig ho1 hb1
  go_wp2_with fail
  rw [← hW1]
  clear hW1
  generalize w1.heap.size = E0 at *
  have hB0 : Below W1.heap.size W1 W1 := Below.refl _ _
  refine (specDirOk_any W1 _ n c' xs (HLX.out W1 hB0) (by omega)).mono ?_
  rintro e w2 ⟨rfl, hb2⟩
  have HB2 := hide hb2
  clear hb2 hB0
  cases hok : dirOk xs with
  | false =>
    go_wp2
    go_ret
    exact ⟨rfl, HW.out.trans (HB2.out.mono HW.out.size)⟩
  | true =>
    have HD := hide (dirs_of hok p)
    have HPUT : Hid (∀ W a2 n2 c2 ys, entSh.Row W a2 n2 ys → n2 ≤ 1048576 → _) := hide (fun W a2 n2 c2 ys h h2 => implPut_any W a2 n2 c2 ys p h h2)
    obtain ⟨X, hX⟩ : ∃ X, putE xs p = X := ⟨_, rfl⟩
    obtain ⟨Y, hY⟩ : ∃ Y, dropE X p.key = Y := ⟨_, rfl⟩
    have HDG : Hid (getE X p.key = some p) := hide (by rw [← hX]; exact HD.out.got)
    have HDN : Hid (getE Y p.key = none) := hide (by rw [← hY, ← hX]; exact HD.out.gone)
    have HDO : Hid (dirOk Y = true) := hide (by rw [← hY, ← hX]; exact HD.out.ok)
    have hXY : X.length = Y.length + 1 := by rw [← hY, ← hX]; exact HD.out.len
    have HDT : Hid (∀ z, z ∈ xs → ¬ z.key = p.key → getE X z.key = some z ∧ getE Y z.key = some z) := hide (fun z h1 h2 => by rw [← hY, ← hX]; exact ⟨HD.out.there z h1 h2, HD.out.still z h1 h2⟩)
    have HDR : Hid (RiseE X) := hide (by rw [← hX]; exact HD.out.rise)
    have HDA : Hid (putE X p = X) := hide (by rw [← hX]; exact HD.out.again)
    have hX21 : X.length ≤ 21 := by rw [← hX]; exact HD.out.small
    have HP1 := hide (HPUT.out w2 _ n c' xs (HLX.out w2 HB2.out) (by omega))
    rw [hX] at HP1
    clear hok HD hX
    obtain ⟨nx, hnX⟩ : ∃ nx, X.length = nx := ⟨_, rfl⟩
    obtain ⟨ny, hnY⟩ : ∃ ny, Y.length = ny := ⟨_, rfl⟩
    rw [hnX] at HP1 hXY hX21
    rw [hnY] at hXY
    have hx0 : 0 < nx := by omega
    have hny : ny ≤ 20 := by omega
    have HXY := hide hXY
    clear hXY
    obtain ⟨y0, y1, y2, y3, y4, -⟩ := cells5 (HEX.out w2 HB2.out)
    go_wp2_with fail
    clear y0 y1 y2 y3 y4
    refine HP1.out.mono ?_
    rintro e w3 ⟨⟨ax, cx, rfl, hox⟩, hb3⟩
    obtain ⟨gx, rfl⟩ := own_some hox (by omega)
    have HB3 := hide (HB2.out.trans (hb3.mono HB2.out.size))
    have HX3 := hide hox.row
    have hgx3 : gx < w3.heap.size := (hox.blk gx rfl).2
    have HDR3 := hide (implDrop_any w3 _ nx cx X p.key hox.row (by omega))
    rw [hY, hnY] at HDR3
    clear hox hb3 HP1 HB2
    obtain ⟨y0, y1, y2, y3, y4, -⟩ := cells5 (HEX.out w3 HB3.out)
    go_wp2_with fail
    clear y0 y1 y2 y3 y4
    refine HDR3.out.mono ?_
    rintro e w4 ⟨⟨gy, rfl, hoy⟩, hb4⟩
    have HB4 := hide (HB3.out.trans (hb4.mono HB3.out.size))
    have HX4 := hide (HX3.out.later hb4)
    have HY4 := hide hoy.row
    have hgx4 : gx < w4.heap.size := Nat.lt_of_lt_of_le hgx3 hb4.size
    have hgy4 : gy < w4.heap.size := (hoy.blk gy rfl).2
    clear hoy hb4 HDR3 HB3 HX3 hgx3
    obtain ⟨W4, hW4⟩ : ∃ W4, W4 = w4 := ⟨_, rfl⟩
    have HXX : Hid (∀ W', Below w4.heap.size w4 W' → entSh.Row W' (some ⟨gx, 0, none⟩) nx X ∧ gx < W'.heap.size ∧ entSh.Row W' (some ⟨gy, 0, none⟩) ny Y ∧ gy < W'.heap.size ∧ Below W1.heap.size W1 W') := hide (fun W' h => ⟨HX4.out.later h, Nat.lt_of_lt_of_le hgx4 h.size, HY4.out.later h, Nat.lt_of_lt_of_le hgy4 h.size, HB4.out.trans (h.mono HB4.out.size)⟩)
    have HGX : Hid (∀ W' key, Below w4.heap.size w4 W' → Calls Try.prog 11 #[.slice (some ⟨gx, 0, none⟩) nx cx, .string key] W' fun e w' => e = .returned (gotV (getE X key)) ∧ Below W'.heap.size W' w') := hide (fun W' key h => implGet_any W' gx 0 nx cx X key (HXX.out W' h).1 (HXX.out W' h).2.1 (by omega))
    have HGY : Hid (∀ W' key, Below w4.heap.size w4 W' → Calls Try.prog 11 #[.slice (some ⟨gy, 0, none⟩) ny ny, .string key] W' fun e w' => e = .returned (gotV (getE Y key)) ∧ Below W'.heap.size W' w') := hide (fun W' key h => implGet_any W' gy 0 ny ny Y key (HXX.out W' h).2.2.1 (HXX.out W' h).2.2.2.1 (by omega))
    have HZ4 : Hid (Below w4.heap.size w4 w4) := hide (Below.refl _ _)
    clear hW4 W4 HX4 HY4 hgx4 hgy4 hnX hnY hY
    obtain ⟨y0, y1, y2, y3, y4, -⟩ := cells5 (HEX.out w4 HB4.out)
    have HG1 := hide (HGX.out w4 p.key HZ4.out)
    rw [HDG.out] at HG1
    go_wp2_with fail
    clear y0 y1 y2 y3 y4
    refine HG1.out.mono ?_
    rintro e w5 ⟨rfl, hb5⟩
    have HZ5 := hide hb5
    clear hb5 HG1 HDG HB4
    obtain ⟨W5, hW5⟩ : ∃ W5, W5 = w5.alloc (.cells #[.string p.key, .int .i64 p.seg, .int .i64 p.pos, .int .i64 p.len, .int .i64 p.bat] 26) := ⟨_, rfl⟩
    have HA5 : Hid (Below w5.heap.size w5 W5) := hide (by rw [hW5]; exact al1 w5 _)
    have HK5 : Hid (Blk5 W5 w5.heap.size p) := hide (by rw [hW5]; exact Blk5.new w5 p)
    have HZ5' := hide (HZ5.out.trans (HA5.out.mono HZ5.out.size))
    have HE5 := hide (HEX.out w5 (HXX.out w5 HZ5.out).2.2.2.2)
    have hltE : E0 < w5.heap.size := HE5.out.lt
    have hneE : E0 ≠ w5.heap.size := by omega
    obtain ⟨y0, y1, y2, y3, y4, -⟩ := cells5 HE5.out
    have hgv := gotV_is (some p)
    simp only [Option.getD_some, Option.isSome_some] at hgv
    rw [hgv]
    clear hgv
    go_wp2_with fail
    rw [← hW5]
    clear hW5 y0 y1 y2 y3 y4 hltE hneE HE5
    generalize w5.heap.size = D5 at *
    have HG2 := hide (HGY.out W5 p.key HZ5'.out)
    rw [HDN.out] at HG2
    refine HG2.out.mono ?_
    rintro e w6 ⟨rfl, hb6⟩
    have HZ6 := hide (HZ5'.out.trans (hb6.mono HZ5'.out.size))
    have HK6 := hide (HK5.out.later hb6 HK5.out.lt)
    clear hb6 HG2 HDN HZ5' HK5 HA5 HZ5 HZ4
    obtain ⟨W6, hW6⟩ : ∃ W6, W6 = w6.alloc (.cells #[.string ⟨#[]⟩, .int .i64 0, .int .i64 0, .int .i64 0, .int .i64 0] 26) := ⟨_, rfl⟩
    have HA6 : Hid (Below w6.heap.size w6 W6) := hide (by rw [hW6]; exact al1 w6 _)
    have HZ7 := hide (HZ6.out.trans (HA6.out.mono HZ6.out.size))
    have HK7 := hide (HK6.out.later HA6.out HK6.out.lt)
    have HE6 := hide (HEX.out w6 (HXX.out w6 HZ6.out).2.2.2.2)
    have hltE : E0 < w6.heap.size := HE6.out.lt
    have hltD : D5 < w6.heap.size := HK6.out.lt
    have hneE : E0 ≠ w6.heap.size := by omega
    have hneD : D5 ≠ w6.heap.size := by omega
    obtain ⟨y0, y1, y2, y3, y4, -⟩ := cells5 HE6.out
    obtain ⟨x0, x1, x2, x3, x4, -⟩ := cells5 HK6.out
    have hgv : gotV (none : Option EntV) = .tuple #[.agg #[.string ⟨#[]⟩, .int .i64 0, .int .i64 0, .int .i64 0, .int .i64 0], .bool false] := rfl
    have hpp : eqE p p = true := (eqE_iff p p).2 rfl
    rw [hgv]
    clear hgv
    go_wp2_with fail
    rw [← hW6]
    clear hW6 y0 y1 y2 y3 y4 x0 x1 x2 x3 x4 hltE hltD hneE hneD HE6 HK6 HA6 HZ6
    generalize w6.heap.size = F6 at *
    have HOK := hide (specDirOk_any W6 _ ny ny Y (HXX.out W6 HZ7.out).2.2.1 (by omega))
    rw [HDO.out] at HOK
    refine HOK.out.mono ?_
    rintro e w7 ⟨rfl, hb7⟩
    have HZ8 := hide (HZ7.out.trans (hb7.mono HZ7.out.size))
    clear hb7 HOK HDO HZ7 HK7
    have hxy : (nx : Int) = (ny : Int) + 1 := by have := HXY.out; omega
    go_wp2_with fail
    clear hxy hpp
    go_loopw [11] (fun i wr => ∃ k : Nat, k ≤ n ∧ i = .int .i64 k ∧ Hid (Below w4.heap.size w4 wr)) (fun i _ => n - (nI i).toNat)
    case atStart => exact ⟨0, by omega, rfl, HZ8⟩
    case round =>
      clear HZ8
      obtain ⟨k, hk, rfl, HZ⟩ := hrel
      by_cases hkn : k < n
      · have hkf : k < xs.length := by omega
        have HL := hide (HLX.out wr (HXX.out wr HZ.out).2.2.2.2)
        obtain ⟨b', o', q0, -, e0, e1, e2, e3, e4⟩ := ent_cells HL.out k hkf
        simp only [Option.some.injEq, Addr.mk.injEq] at q0
        obtain ⟨rfl, rfl, -⟩ := q0
        rw [Nat.zero_add] at e0 e1 e2 e3 e4
        have hk2 : (k : Int) < (n : Int) := by omega
        have HT : Hid (¬ (xs[k]).key = p.key → getE X (xs[k]).key = some (xs[k]) ∧ getE Y (xs[k]).key = some (xs[k])) := hide (fun h => HDT.out _ (List.getElem_mem hkf) h)
        have HLZ : Hid (∀ W', Below w4.heap.size w4 W' → W'.cell? ⟨g, k * 5, none⟩ = some (.string (xs[k]).key) ∧ W'.cell? ⟨g, k * 5 + 1, none⟩ = some (.int .i64 (xs[k]).seg) ∧ W'.cell? ⟨g, k * 5 + 2, none⟩ = some (.int .i64 (xs[k]).pos) ∧ W'.cell? ⟨g, k * 5 + 3, none⟩ = some (.int .i64 (xs[k]).len) ∧ W'.cell? ⟨g, k * 5 + 4, none⟩ = some (.int .i64 (xs[k]).bat) ∧ g < W'.heap.size) := hide (fun W' h => by
          obtain ⟨b', o', q0, hb', e0, e1, e2, e3, e4⟩ := ent_cells (HLX.out W' (HXX.out W' h).2.2.2.2) k hkf
          simp only [Option.some.injEq, Addr.mk.injEq] at q0
          obtain ⟨rfl, rfl, -⟩ := q0
          rw [Nat.zero_add] at e0 e1 e2 e3 e4
          exact ⟨e0, e1, e2, e3, e4, hb'⟩)
        obtain ⟨z, hz⟩ : ∃ z, xs[k] = z := ⟨_, rfl⟩
        rw [hz] at e0 e1 e2 e3 e4 HT HLZ
        clear hz HL
        have HG1 := hide (HGX.out wr z.key HZ.out)
        go_wp2_with fail
        clear e0 e1 e2 e3 e4
        refine HG1.out.mono ?_
        rintro e w9 ⟨rfl, hb9⟩
        have HZ9 := hide (HZ.out.trans (hb9.mono HZ.out.size))
        clear hb9 HG1 HZ
        obtain ⟨r1, hr1⟩ : ∃ r, getE X z.key = r := ⟨_, rfl⟩
        rw [hr1] at HT ⊢
        rw [gotV_is r1]
        obtain ⟨f1, hf1⟩ : ∃ f, r1.getD zeroE = f := ⟨_, rfl⟩
        obtain ⟨t1, ht1⟩ : ∃ b, r1.isSome = b := ⟨_, rfl⟩
        rw [hf1, ht1]
        have HF1 : Hid (¬ z.key = p.key → f1 = z ∧ t1 = true) := hide (fun h => by rw [← hf1, ← ht1, (HT.out h).1]; exact ⟨rfl, rfl⟩)
        have HT2 : Hid (¬ z.key = p.key → getE Y z.key = some z) := hide (fun h => (HT.out h).2)
        clear hf1 ht1 hr1 HT r1
        obtain ⟨W9, hW9⟩ : ∃ W9, W9 = w9.alloc (.cells #[.string f1.key, .int .i64 f1.seg, .int .i64 f1.pos, .int .i64 f1.len, .int .i64 f1.bat] 26) := ⟨_, rfl⟩
        have HA9 : Hid (Below w9.heap.size w9 W9) := hide (by rw [hW9]; exact al1 w9 _)
        have HK9 : Hid (Blk5 W9 w9.heap.size f1) := hide (by rw [hW9]; exact Blk5.new w9 f1)
        have HZ10 := hide (HZ9.out.trans (HA9.out.mono HZ9.out.size))
        obtain ⟨e0, e1, e2, e3, e4, hgl⟩ := HLZ.out w9 HZ9.out
        have hneg : g ≠ w9.heap.size := by omega
        have HG2 := hide (HGY.out W9 z.key HZ10.out)
        go_wp2_with fail
        rw [← hW9]
        clear hW9 e0 e1 e2 e3 e4 hgl hneg HA9 HZ9
        generalize w9.heap.size = D9 at *
        refine HG2.out.mono ?_
        rintro e w10 ⟨rfl, hb10⟩
        have HZ11 := hide (HZ10.out.trans (hb10.mono HZ10.out.size))
        have HK10 := hide (HK9.out.later hb10 HK9.out.lt)
        clear hb10 HG2 HZ10 HK9
        obtain ⟨r2, hr2⟩ : ∃ r, getE Y z.key = r := ⟨_, rfl⟩
        rw [hr2] at HT2 ⊢
        rw [gotV_is r2]
        obtain ⟨f2, hf2⟩ : ∃ f, r2.getD zeroE = f := ⟨_, rfl⟩
        obtain ⟨t2, ht2⟩ : ∃ b, r2.isSome = b := ⟨_, rfl⟩
        rw [hf2, ht2]
        have HF2 : Hid (¬ z.key = p.key → f2 = z ∧ t2 = true) := hide (fun h => by rw [← hf2, ← ht2, HT2.out h]; exact ⟨rfl, rfl⟩)
        clear hf2 ht2 hr2 HT2 r2
        obtain ⟨W10, hW10⟩ : ∃ W10, W10 = w10.alloc (.cells #[.string f2.key, .int .i64 f2.seg, .int .i64 f2.pos, .int .i64 f2.len, .int .i64 f2.bat] 26) := ⟨_, rfl⟩
        have HA10 : Hid (Below w10.heap.size w10 W10) := hide (by rw [hW10]; exact al1 w10 _)
        have HKN : Hid (Blk5 W10 w10.heap.size f2) := hide (by rw [hW10]; exact Blk5.new w10 f2)
        have HK11 := hide (HK10.out.later HA10.out HK10.out.lt)
        have HZ12 := hide (HZ11.out.trans (HA10.out.mono HZ11.out.size))
        have HBD : Hid (∀ q, Below w4.heap.size w4 (W10.drewN q)) := hide (fun _ => ⟨HZ12.out.os, HZ12.out.tape, HZ12.out.output, HZ12.out.size, HZ12.out.block⟩)
        go_wp2_with fail
        rw [← hW10]
        clear hW10 HA10 HK10 HZ11
        generalize w10.heap.size = D10 at *
        obtain ⟨e0, e1, e2, e3, e4, -⟩ := HLZ.out W10 HZ12.out
        obtain ⟨y0, y1, y2, y3, y4, -⟩ := cells5 (HEX.out W10 (HXX.out W10 HZ12.out).2.2.2.2)
        obtain ⟨x0, x1, x2, x3, x4, -⟩ := cells5 HK11.out
        obtain ⟨v0, v1, v2, v3, v4, -⟩ := cells5 HKN.out
        clear HK11 HKN HZ12
        by_cases hk : z.key = p.key
        · have hs := str_eq _ _ hk
          clear HF1 HF2
          refine wp_region_quiet_lit (by kernel_rfl) (by kernel_rfl) ?_
          repeat (
            with_reducible refine wpQuiet_step (fun K hK => ?_)
            go_simp
            first
              | (with_reducible refine hK _ ?_; clear hK K)
              | (rw [if_neg (by simp [undef])]; with_reducible refine hK _ ?_; clear hK K))
          with_reducible refine wpQuiet_nil ?_
          intro _ hw'
          obtain ⟨nq, hw''⟩ := hw'
          subst hw''
          go_wp2
          go_roundw
          case rel => exact ⟨k + 1, by omega, by go_num, hide (HBD.out _)⟩
          case measure => first | (simp [nI]; done) | (simp [nI]; omega)
        · have hs := str_ne _ _ hk
          obtain ⟨rfl, rfl⟩ := HF1.out hk
          obtain ⟨rfl, rfl⟩ := HF2.out hk
          have hff : eqE f2 f2 = true := (eqE_iff _ _).2 rfl
          clear HF1 HF2
          refine wp_region_quiet_lit (by kernel_rfl) (by kernel_rfl) ?_
          repeat (
            with_reducible refine wpQuiet_step (fun K hK => ?_)
            go_simp
            first
              | (with_reducible refine hK _ ?_; clear hK K)
              | (rw [if_neg (by simp [undef])]; with_reducible refine hK _ ?_; clear hK K))
          with_reducible refine wpQuiet_nil ?_
          intro _ hw'
          obtain ⟨nq, hw''⟩ := hw'
          subst hw''
          go_wp2
          go_roundw
          case rel => exact ⟨k + 1, by omega, by go_num, hide (HBD.out _)⟩
          case measure => first | (simp [nI]; done) | (simp [nI]; omega)
      · obtain rfl : k = n := by omega
        clear HDT HGX HGY
        have HKE := hide (implKeys_any wr _ nx cx X (HXX.out wr HZ.out).1 (by omega))
        go_wp2_with fail
        refine HKE.out.mono ?_
        rintro e w9 ⟨⟨ak, ck, rfl, hok⟩, hb9⟩
        have HZ9 := hide (HZ.out.trans (hb9.mono HZ.out.size))
        have HTR := hide hok.row
        clear hb9 hok HKE HZ
        go_wp2
        go_loopw [17] (fun i wr => ∃ j : Nat, j + 1 ≤ nx ∧ i = .int .i64 ((j : Int) + 1) ∧ Hid (Below w9.heap.size w9 wr)) (fun i _ => nx - (nI i).toNat)
        case atStart => exact ⟨0, by omega, rfl, hide (Below.refl _ _)⟩
        case round =>
          obtain ⟨j, hj, rfl, HV⟩ := hrel
          by_cases hj2 : j + 1 < nx
          · have HT := HTR.out.later HV.out (Nat.le_refl _)
            have hXl := HT.len
            rw [List.length_map] at hXl
            obtain ⟨b0, o0, rfl, -, hb0, p0⟩ := HT.cells j (by rw [List.length_map]; omega)
            obtain ⟨b1, o1, q0, -, -, p1⟩ := HT.cells (j + 1) (by rw [List.length_map]; omega)
            simp only [Option.some.injEq, Addr.mk.injEq] at q0
            obtain ⟨rfl, rfl, -⟩ := q0
            rw [List.getElem_map] at p0 p1
            have hlt : klt (X[j]).key (X[j + 1]).key = true := List.pairwise_iff_getElem.1 HDR.out j (j + 1) (by omega) (by omega) (by omega)
            obtain ⟨y, hy⟩ : ∃ y, X[j] = y := ⟨_, rfl⟩
            obtain ⟨z, hz⟩ : ∃ z, X[j + 1] = z := ⟨_, rfl⟩
            rw [hy] at p0 hlt
            rw [hz] at p1 hlt
            have t6 : (Op.bytesLess z.key.toList y.key.toList || z.key.toList == y.key.toList) = false := by
              rw [show Op.bytesLess z.key.toList y.key.toList = false from klt_asymm hlt, str_ne _ _ (fun e => klt_ne hlt e.symm)]; rfl
            have x1 : (0 : Int) ≤ (j : Int) + 1 := by omega
            have x2 : (j : Int) + 1 < (nx : Int) := by omega
            have x3 : ((j : Int) + 1).toNat = j + 1 := by omega
            have x5 : (j : Int) < (nx : Int) := by omega
            have x6 : IntKind.i64.wrap (j : Int) = (j : Int) := by rw [IntKind.wrap_i64]; omega
            have x8 : IntKind.i64.wrap ((j : Int) + 1 - 1) = (j : Int) := by rw [IntKind.wrap_i64]; omega
            have HBD : Hid (∀ q, Below w9.heap.size w9 (wr.drewN q)) := hide (fun _ => ⟨HV.out.os, HV.out.tape, HV.out.output, HV.out.size, HV.out.block⟩)
            clear hy hz hlt HT HTR HV hXl
            go_wp2_with fail
            refine wp_region_quiet_lit (by kernel_rfl) (by kernel_rfl) ?_
            repeat (
              with_reducible refine wpQuiet_step (fun K hK => ?_)
              go_simp
              first
                | (with_reducible refine hK _ ?_; clear hK K)
                | (rw [if_neg (by simp [undef])]; with_reducible refine hK _ ?_; clear hK K))
            with_reducible refine wpQuiet_nil ?_
            intro _ hw'
            obtain ⟨nq, hw''⟩ := hw'
            subst hw''
            go_wp2
            go_roundw
            case rel => exact ⟨j + 1, by omega, by go_num, hide (HBD.out _)⟩
            case measure => first | (simp [nI]; done) | (simp [nI]; omega)
          · obtain rfl : nx = j + 1 := by omega
            have HZV := hide (HZ9.out.trans (HV.out.mono HZ9.out.size))
            have hXl := (HXX.out wr HZV.out).1.len
            have HP2 := hide (HPUT.out wr _ (j + 1) cx X (HXX.out wr HZV.out).1 (by omega))
            rw [HDA.out, hXl] at HP2
            obtain ⟨y0, y1, y2, y3, y4, -⟩ := cells5 (HEX.out wr (HXX.out wr HZV.out).2.2.2.2)
            clear HV HTR HDR hj2 hXl
            go_wp2_with fail
            clear y0 y1 y2 y3 y4
            refine HP2.out.mono ?_
            rintro e w11 ⟨⟨aq, cs, rfl, hos⟩, hb11⟩
            have HZ11 := hide (HZV.out.trans (hb11.mono HZV.out.size))
            have HSM := hide (implSameDir_any w11 _ _ (j + 1) (j + 1) cs cx X X hos.row (HXX.out w11 HZ11.out).1 (by omega) (by omega))
            rw [sameE_self] at HSM
            clear hos hb11 HP2 HZV
            go_wp2_with fail
            refine HSM.out.mono ?_
            rintro e w12 ⟨rfl, hb12⟩
            have HZ12 := hide (HZ11.out.trans (hb12.mono HZ11.out.size))
            clear hb12 HSM HZ11
            go_wp2
            go_ret
            exact ⟨rfl, HW.out.trans ((HXX.out _ HZ12.out).2.2.2.2.mono HW.out.size)⟩

end Go.Proofs.Ytnckdfidehbcaaa
