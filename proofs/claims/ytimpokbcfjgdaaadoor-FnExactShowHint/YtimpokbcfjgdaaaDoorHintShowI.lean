/-
  impl.ShowHint, out of a strings.Builder, under what the package's table holds.
-/
import Derived.Test.YtimpokbcfjgdaaaDoorHintOkI
import Derived.Test.YtimpokbcfjgdaaaDoorShowImpl
import Derived.Test.YtimpokbcfjgdaaaDoorCrcImpl
import Derived.Test.YtimpokbcfjgdaaaDoorBuilderK
import Derived.Test.YtimpokbcfjgdaaaDoorBldF
namespace Go.Proofs.YtimpokbcfjgdaaaDoor
open Go.RowKit
open Plain

theorem isb_later {B b : Nat} {bs : List Value} {w w' : World} (h : Lib.IsBuilder 48 5 B b bs w) (hb : Below w.heap.size w w') : Lib.IsBuilder 48 5 B b bs w' := by
  rcases h with h | h
  · exact .inl (bld_later h hb)
  · exact .inr (bld_later h hb)
theorem strCells_append (s t : ByteArray) : Lib.strCells (s ++ t) = Lib.strCells s ++ Lib.strCells t := by
  unfold Lib.strCells
  rw [ByteArray.data_append, Array.toList_append, List.map_append]
theorem isb_lt {B b : Nat} {bs : List Value} {w : World} (h : Lib.IsBuilder 48 5 B b bs w) : b < w.heap.size := by
  rcases h with h | h
  · exact h.lt
  · exact h.lt
theorem entT_all (e : EntV) : entT e = textS e.key ++ varS e.seg ++ varS e.pos ++ varS e.len ++ varS e.bat := rfl
/-- A hint's block stands where only blocks from a place above its own on were written. -/
theorem HvAt.over {w : World} {B : Nat} {T : TypeId} {x m : Int} {a : Option Addr} {n cap : Nat} {xs : List EntV} {W W' : World} {K : Nat} (h : HvAt w B T x m a n cap xs W) (hr : entSh.Row w a n xs) (hb : Below K W W') (hB : B < K) (hK : w.heap.size ≤ K) : HvAt w B T x m a n cap xs W' :=
  ⟨(hb.block _ hB).trans h.row, hr.later (h.bel.trans (hb.mono hK)), h.bel.trans (hb.mono hK)⟩

set_option maxRecDepth 100000 in
set_option maxHeartbeats 4000000 in
theorem implShowH_any (w : World) (ht : STab w) (x m : Int) (a : Option Addr) (n cap : Nat) (xs : List EntV) (hr : entSh.Row w a n xs) (hn : n ≤ 1048576) :
    Calls Tryd.prog 8 #[.agg #[.int .i64 x, .int .i64 m, .slice a n cap]] w fun e w' => e = .returned (.string (showH ⟨x, m, xs⟩)) ∧ Below w.heap.size w w' := by
  have hlen := hr.len
  obtain ⟨W, hW⟩ : ∃ W, W = w.alloc (.cells #[.int .i64 x, .int .i64 m, .slice a n cap] 29) := ⟨_, rfl⟩
  have HA : Hid (HvAt w w.heap.size 29 x m a n cap xs W) := hide (by rw [hW]; exact HvAt.new 29 x m cap hr)
  have HO := hide (implHintOk_any W x m a n cap xs HA.out.ents hn)
  have HR := hide hr
  have HT := hide ht
  clear hr ht
  by_cases hb : hintB ⟨x, m, xs⟩ = true
  · have HV : Hid (showH ⟨x, m, xs⟩ = sumS (bodyE ⟨x, m, xs⟩ xs.length) ++ bodyE ⟨x, m, xs⟩ xs.length) := hide (by rw [show bodyE ⟨x, m, xs⟩ xs.length = bodyH ⟨x, m, xs⟩ from bodyE_all _]; exact showH_in hb)
    have hbd := hint_bd hb
    have HSZ := hide (bodyE_size hb)
    have HKEY : Hid (∀ k, (hk : k < xs.length) → bodyE ⟨x, m, xs⟩ (k + 1) = bodyE ⟨x, m, xs⟩ k ++ entT (xs[k])) := hide (fun k hk => bodyE_succ ⟨x, m, xs⟩ k hk)
    have HKZ : Hid (∀ k, (hk : k < xs.length) → (xs[k]).key.size ≤ 8) := hide (fun k hk => (ent_bd (entOk_of hbd.2.2.1 _ (List.getElem_mem hk))).1)
    have HB0 : Hid (bodyE ⟨x, m, xs⟩ 0 = varS x ++ varS m ++ varS (n : Int)) := hide (by rw [bodyE_zero]; unfold headH; rw [hlen])
    rw [hb] at HO
    clear hbd hb
    generalize bodyE ⟨x, m, xs⟩ = body at *
    go_enter Tryd.func8, Tryd.ntmps8
    go_wp2_with fail
    rw [← hW]
    clear hW
    refine HO.out.mono ?_
    rintro e w1 ⟨rfl, hb1⟩
    have HA1 := hide (HA.out.later hb1)
    clear HA HO hb1
    have HF := hide (Lib.fresh_isBuilder 48 5 w1)
    have HLT : Hid (w.heap.size < w1.heap.size) := hide (lt_of_block HA1.out.row)
    have hA2 := HA1.out.later (al1 w1 (.cells #[.pointer none, .slice none 0 0] 48))
    have HK : Hid (∀ W', HvAt w w.heap.size 29 x m a n cap xs W' → W'.cell? ⟨w.heap.size, 0, none⟩ = some (.int .i64 x) ∧ W'.cell? ⟨w.heap.size, 1, none⟩ = some (.int .i64 m) ∧ W'.cell? ⟨w.heap.size, 2, none⟩ = some (.slice a n cap) ∧ Hid (HvAt w w.heap.size 29 x m a n cap xs W')) := hide (fun W' h => ⟨h.cells.1, h.cells.2.1, h.cells.2.2, hide h⟩)
    have HKW : Hid (∀ W' W'', HvAt w w.heap.size 29 x m a n cap xs W' → Below w1.heap.size W' W'' → HvAt w w.heap.size 29 x m a n cap xs W'') := hide (fun W' W'' h hb => h.over HR.out hb HLT.out (Nat.le_of_lt HLT.out))
    have hS1 := HK.out _ (hA2.later (Below.refl _ _).drew)
    have HI1 := hide (isb_later HF.out (Below.refl _ _).drew)
    have HV1 := hide (implVar_any x)
    have HV2 := hide (implVar_any m)
    have HV3 := hide (implVar_any (n : Int))
    have hs1 := varS_size x
    have hs2 := varS_size m
    have hs3 := varS_size (n : Int)
    have hz1 : ¬ 9223372036854775807 < (varS x).size + (varS m).size := by omega
    have hz2 : ¬ 9223372036854775807 < (varS x).size + (varS m).size + (varS (n : Int)).size := by omega
    have HWR : Hid (∀ W', Lib.IsBuilder 48 5 w1.heap.size w1.heap.size [] W' → Calls Tryd.prog 21 #[.pointer (some ⟨w1.heap.size, 0, none⟩), .string (varS x ++ varS m ++ varS (n : Int))] W' fun e w' => (∃ y, e = .returned (.tuple #[.int .i64 y, .nilIface])) ∧ Lib.IsBuilder 48 5 w1.heap.size w1.heap.size (Lib.strCells (body 0)) w' ∧ Below w1.heap.size W' w') := hide (fun W' h =>
      (bldWrite_any w1.heap.size w1.heap.size [] (varS x ++ varS m ++ varS (n : Int)) W' h (by simp only [ByteArray.size_append]; simp; omega) (Nat.le_of_lt (isb_lt h))).mono (fun e w' ⟨h1, h2, h3⟩ => ⟨⟨_, h1⟩, by rw [HB0.out]; exact .inr h2, h3⟩))
    clear hs1 hs2 hs3 hA2 HF HB0
    generalize varS x = vx at *
    generalize varS m = vm at *
    generalize varS (n : Int) = vn at *
    go_wp2_with fail
    go_region_held3 (fun W' => W'.cell? ⟨w.heap.size, 0, none⟩ = some (.int .i64 x) ∧ W'.cell? ⟨w.heap.size, 1, none⟩ = some (.int .i64 m) ∧ W'.cell? ⟨w.heap.size, 2, none⟩ = some (.slice a n cap) ∧ Hid (HvAt w w.heap.size 29 x m a n cap xs W')) (assumption) (first
      | (go_at_call_of 22 (Value.int IntKind.i64 x); refine (HV1.out _).mono ?_; rintro e w4 ⟨rfl, hb4⟩; have hS4 := HK.out w4 (hS1.2.2.2.out.later hb4); have HI4 := hide (isb_later HI1.out hb4))
      | (go_at_call_of 22 (Value.int IntKind.i64 m); refine (HV2.out _).mono ?_; rintro e w5 ⟨rfl, hb5⟩; have hS5 := HK.out w5 (hS4.2.2.2.out.later hb5); have HI5 := hide (isb_later HI4.out hb5))
      | (go_at_call 22; refine (HV3.out _).mono ?_; rintro e w6 ⟨rfl, hb6⟩; have hS6 := HK.out w6 (hS5.2.2.2.out.later hb6); have HI6 := hide (isb_later HI5.out hb6))
      | (go_at_call 21; refine (HWR.out w6 HI6.out).mono ?_; rintro e w7 ⟨⟨y7, rfl⟩, hI7, hb7⟩; have hS7 := HK.out w7 (HKW.out w6 w7 hS6.2.2.2.out hb7)))
    have HA7 := hide hS7.2.2.2.out
    have HI7 := hide hI7
    clear hS7 hb7 hI7 HI6 hS6 hb6 HI5 hS5 hb5 HI4 hS4 hb4 HI1 hS1 HV1 HV2 HV3 HWR hz1 hz2
    obtain ⟨y0, y1, y2⟩ := HA7.out.cells
    go_wp2
    clear y0 y1 y2
    go_loopw [25] (fun i wr => ∃ k : Nat, k ≤ n ∧ i = .int .i64 k ∧ Hid (Lib.IsBuilder 48 5 w1.heap.size w1.heap.size (Lib.strCells (body k)) wr) ∧ Hid (HvAt w w.heap.size 29 x m a n cap xs wr)) (fun i _ => n - (intOf i).toNat)
    case atStart => exact ⟨0, by omega, rfl, HI7, HA7⟩
    case round =>
      clear HA7 HI7
      obtain ⟨k, hk, rfl, HI, HA⟩ := hrel
      have hsk := HSZ.out k
      by_cases hlt : k < n
      · have hkz : k < xs.length := by omega
        obtain ⟨b, off, rfl, hbw, e0, e1, e2, e3, e4⟩ := ent_cells HA.out.ents k hkz
        have HC := hide (HKEY.out k hkz)
        have hk8 := HKZ.out k hkz
        obtain ⟨z, hz⟩ : ∃ z, xs[k] = z := ⟨_, rfl⟩
        rw [hz] at e0 e1 e2 e3 e4 HC hk8
        clear hz
        have HVK := hide (showText_any z.key (by omega))
        have HV1 := hide (implVar_any z.seg)
        have HV2 := hide (implVar_any z.pos)
        have HV3 := hide (implVar_any z.len)
        have HV4 := hide (implVar_any z.bat)
        have HE : Hid (entT z = textS z.key ++ varS z.seg ++ varS z.pos ++ varS z.len ++ varS z.bat) := hide rfl
        have hez := entT_size z
        have h70 := textS_size z.key
        have h71 := varS_size z.seg
        have h72 := varS_size z.pos
        have h73 := varS_size z.len
        have h74 := varS_size z.bat
        have z1 : ¬ 9223372036854775807 < (textS z.key).size + (varS z.seg).size := by omega
        have z2 : ¬ 9223372036854775807 < (textS z.key).size + (varS z.seg).size + (varS z.pos).size := by omega
        have z3 : ¬ 9223372036854775807 < (textS z.key).size + (varS z.seg).size + (varS z.pos).size + (varS z.len).size := by omega
        have z4 : ¬ 9223372036854775807 < (textS z.key).size + (varS z.seg).size + (varS z.pos).size + (varS z.len).size + (varS z.bat).size := by omega
        have HW := hide (fun W' (h : Lib.IsBuilder 48 5 w1.heap.size w1.heap.size (Lib.strCells (body k)) W') => bldWriteK w1.heap.size w1.heap.size (Lib.strCells (body k)) (entT z) W' h (by rw [Lib.strCells_length]; omega) (Nat.le_of_lt (isb_lt h)))
        rw [HE.out] at HW
        clear h70 h71 h72 h73 h74 hez
        generalize textS z.key = vk at *
        generalize varS z.seg = v1 at *
        generalize varS z.pos = v2 at *
        generalize varS z.len = v3 at *
        generalize varS z.bat = v4 at *
        have hk2 : (k : Int) < (n : Int) := by omega
        have hne : wr.heap.size ≠ w1.heap.size := by have := isb_lt HI.out; omega
        obtain ⟨W2, hW2⟩ : ∃ W2, W2 = wr.alloc (.cells #[.string z.key, .int .i64 z.seg, .int .i64 z.pos, .int .i64 z.len, .int .i64 z.bat] 41) := ⟨_, rfl⟩
        have HB2 : Hid (Blk5 W2 wr.heap.size z ∧ HvAt w w.heap.size 29 x m (some ⟨b, off, none⟩) n cap xs W2) := hide (by rw [hW2]; exact ⟨Blk5.new wr z, HA.out.later (al1 wr _)⟩)
        have HI2 : Hid (Lib.IsBuilder 48 5 w1.heap.size w1.heap.size (Lib.strCells (body k)) W2) := hide (by rw [hW2]; exact isb_later HI.out (al1 wr _))
        have HK2 : Hid (∀ W', Blk5 W' wr.heap.size z ∧ HvAt w w.heap.size 29 x m (some ⟨b, off, none⟩) n cap xs W' → W'.cell? ⟨wr.heap.size, 0, none⟩ = some (.string z.key) ∧ W'.cell? ⟨wr.heap.size, 1, none⟩ = some (.int .i64 z.seg) ∧ W'.cell? ⟨wr.heap.size, 2, none⟩ = some (.int .i64 z.pos) ∧ W'.cell? ⟨wr.heap.size, 3, none⟩ = some (.int .i64 z.len) ∧ W'.cell? ⟨wr.heap.size, 4, none⟩ = some (.int .i64 z.bat) ∧ Hid (Blk5 W' wr.heap.size z ∧ HvAt w w.heap.size 29 x m (some ⟨b, off, none⟩) n cap xs W')) := hide (fun W' h => by
          obtain ⟨q0, q1, q2, q3, q4, -⟩ := cells5 h.1
          exact ⟨q0, q1, q2, q3, q4, hide h⟩)
        have HL2 : Hid (∀ W' W'', Hid (Blk5 W' wr.heap.size z ∧ HvAt w w.heap.size 29 x m (some ⟨b, off, none⟩) n cap xs W') → Below W'.heap.size W' W'' → Blk5 W'' wr.heap.size z ∧ HvAt w w.heap.size 29 x m (some ⟨b, off, none⟩) n cap xs W'') := hide (fun W' W'' h hb => ⟨h.out.1.later hb h.out.1.lt, h.out.2.later hb⟩)
        have HL3 : Hid (∀ W' W'', Hid (Blk5 W' wr.heap.size z ∧ HvAt w w.heap.size 29 x m (some ⟨b, off, none⟩) n cap xs W') → Below w1.heap.size W' W'' → KeepB w1.heap.size W' W'' → Blk5 W'' wr.heap.size z ∧ HvAt w w.heap.size 29 x m (some ⟨b, off, none⟩) n cap xs W'') := hide (fun W' W'' h hb hk => ⟨hk _ _ _ _ hne (by decide) h.out.1, HKW.out W' W'' h.out.2 hb⟩)
        go_wp2_with fail
        rw [← hW2]
        clear hW2 e0 e1 e2 e3 e4 HA HI hne
        have hS0 := HK2.out W2.drew (HL2.out W2 _ HB2 (Below.refl _ _).drew)
        have HI3 := hide (isb_later HI2.out (Below.refl _ _).drew)
        obtain ⟨B, hB⟩ : ∃ B, wr.heap.size = B := ⟨_, rfl⟩
        rw [hB] at hS0 HK2 HL2 HL3 HB2 ⊢
        clear hB HB2 HI2
        go_region_held3 (fun W' => W'.cell? ⟨B, 0, none⟩ = some (.string z.key) ∧ W'.cell? ⟨B, 1, none⟩ = some (.int .i64 z.seg) ∧ W'.cell? ⟨B, 2, none⟩ = some (.int .i64 z.pos) ∧ W'.cell? ⟨B, 3, none⟩ = some (.int .i64 z.len) ∧ W'.cell? ⟨B, 4, none⟩ = some (.int .i64 z.bat) ∧ Hid (Blk5 W' B z ∧ HvAt w w.heap.size 29 x m (some ⟨b, off, none⟩) n cap xs W')) (assumption) (first
          | (go_at_call 23; refine (HVK.out _).mono ?_; rintro e w4 ⟨rfl, hb4⟩; have hS4 := HK2.out w4 (HL2.out _ w4 hS0.2.2.2.2.2 hb4); have HI4 := hide (isb_later HI3.out hb4))
          | (go_at_call_of 22 (Value.int IntKind.i64 z.seg); refine (HV1.out _).mono ?_; rintro e w5 ⟨rfl, hb5⟩; have hS5 := HK2.out w5 (HL2.out _ w5 hS4.2.2.2.2.2 hb5); have HI5 := hide (isb_later HI4.out hb5))
          | (go_at_call_of 22 (Value.int IntKind.i64 z.pos); refine (HV2.out _).mono ?_; rintro e w6 ⟨rfl, hb6⟩; have hS6 := HK2.out w6 (HL2.out _ w6 hS5.2.2.2.2.2 hb6); have HI6 := hide (isb_later HI5.out hb6))
          | (go_at_call_of 22 (Value.int IntKind.i64 z.len); refine (HV3.out _).mono ?_; rintro e w7 ⟨rfl, hb7⟩; have hS7 := HK2.out w7 (HL2.out _ w7 hS6.2.2.2.2.2 hb7); have HI7 := hide (isb_later HI6.out hb7))
          | (go_at_call_of 22 (Value.int IntKind.i64 z.bat); refine (HV4.out _).mono ?_; rintro e w8 ⟨rfl, hb8⟩; have hS8 := HK2.out w8 (HL2.out _ w8 hS7.2.2.2.2.2 hb8); have HI8 := hide (isb_later HI7.out hb8))
          | (go_at_call 21; refine (HW.out w8 HI8.out).mono ?_; rintro e w9 ⟨rfl, hI9, hb9, hk9⟩; have hS9 := HK2.out w9 (HL3.out w8 w9 hS8.2.2.2.2.2 hb9 hk9)))
        have HA9 := hide hS9.2.2.2.2.2.out.2
        have HI9 : Hid (Lib.IsBuilder 48 5 w1.heap.size w1.heap.size (Lib.strCells (body (k + 1))) w9) := hide (by rw [HC.out, HE.out, strCells_append]; exact .inr hI9)
        clear hS9 hI9 hb9 hk9 HI8 HI7 HI6 HI5 HI4 HI3 hS8 hb8 hS7 hb7 hS6 hb6 hS5 hb5 hS4 hb4 hS0 HVK HV1 HV2 HV3 HV4 HK2 HL2 HL3 z1 z2 z3 z4 HC HE HW
        go_wp2
        go_roundw
        case rel => exact ⟨k + 1, by omega, by go_num, HI9, HA9⟩
        case measure => first | (simp [intOf]; done) | (simp [intOf]; omega)
      · obtain rfl : k = n := by omega
        have HS := hide (fun W' (h : Lib.IsBuilderF 48 5 w1.heap.size w1.heap.size (Lib.strCells (body k)) W') => bldStringF_any w1.heap.size w1.heap.size (body k) W' h (Nat.le_of_lt (isbF_lt h)))
        have HF := hide (fun W h => implCrc_any (body k) W (by omega) h)
        have HX := hide (implFix4_any (crcN (body k)) (by have := crcN_le (body k); omega))
        have HE : Hid (showH ⟨x, m, xs⟩ = fixN (crcN (body k) : Int) 4 ++ body k) := hide (by rw [HV.out, hlen]; rfl)
        have hz4 : (fixN (crcN (body k) : Int) 4).size ≤ 4 := fixN_size _ _
        have z0 : ¬ 9223372036854775807 < (fixN (crcN (body k) : Int) 4).size + (body k).size := by omega
        clear hz4 hsk
        generalize fixN (crcN (body k) : Int) 4 = F at *
        generalize crcN (body k) = C at *
        generalize body k = A at *
        have HI0 := hide (Lib.IsBuilderF.of HI.out)
        clear HI
        go_wp2_with fail
        refine (HS.out wr HI0.out).mono ?_
        rintro e w4 ⟨rfl, hI4, hb4⟩
        have HI4 := hide hI4
        have HA4 := hide (HKW.out wr w4 HA.out hb4)
        clear hI4 hb4 HA HI0
        go_wp2_with fail
        refine (HF.out w4 (HT.out.later HA4.out.bel)).mono ?_
        rintro e w5 ⟨rfl, hb5⟩
        have HI5 := hide (isbF_later HI4.out hb5)
        have HA5 := hide (HA4.out.later hb5)
        clear hb5 HA4 HI4 HF
        go_wp2_with fail
        refine (HX.out w5).mono ?_
        rintro e w6 ⟨rfl, hb6⟩
        have HI6 := hide (isbF_later HI5.out hb6)
        have HA6 := hide (HA5.out.later hb6)
        clear hb6 HA5 HI5 HX
        go_wp2_with fail
        refine (HS.out w6 HI6.out).mono ?_
        rintro e w7 ⟨rfl, hI7, hb7⟩
        have HB7 := hide (HKW.out w6 w7 HA6.out hb7).bel
        clear hI7 hb7 HA6 HI6 HS
        go_wp2
        go_ret
        exact ⟨by rw [HE.out]; rfl, HB7.out⟩
  · have hb : hintB ⟨x, m, xs⟩ = false := by simpa using hb
    have HV : Hid (showH ⟨x, m, xs⟩ = ⟨#[]⟩) := hide (showH_out hb)
    rw [hb] at HO
    clear hb
    go_enter Tryd.func8, Tryd.ntmps8
    go_wp2_with fail
    rw [← hW]
    clear hW
    refine HO.out.mono ?_
    rintro e w1 ⟨rfl, hb1⟩
    have HB := hide (HA.out.later hb1).bel
    clear HA HO hb1
    go_wp2
    go_ret
    exact ⟨by rw [HV.out]; rfl, HB.out⟩

end Go.Proofs.YtimpokbcfjgdaaaDoor
