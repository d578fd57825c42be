/-
  The decimal numeral of an int, as spec.Dec makes it. What spec.Dec answers at every int: the decimal numeral; it makes new memory only. spec.l3Any: a disk as l3Disk draws it, or one with a field, a file or the number of its files turned: what a world in its midst holds.
-/
import Derived.Test.YthnealhaleccpaaGreatDoorG00
import Derived.Lib.ItoaNum
import Derived.Test.YthnealhaleccpaaGreatDoorMDrawD2
namespace Go.Proofs.YthnealhaleccpaaGreatDoor
open Go.RowKit
open Plain

/-- The digits of q, none of 0. -/
def dd (q : Nat) : List UInt8 := if q = 0 then [] else Lib.decDigits q
theorem dd_step (q : Nat) (h : q ≠ 0) : dd q = dd (q / 10) ++ [UInt8.ofNat (48 + q % 10)] := by
  unfold dd
  rw [if_neg h, Lib.decDigits]
  by_cases h1 : q < 10
  · rw [dif_pos h1, if_pos (by omega), show q % 10 = q from by omega]; rfl
  · rw [dif_neg h1, if_neg (by omega)]
theorem dd_len (k : Nat) : ∀ q, q < 10 ^ k → (dd q).length ≤ k := by
  induction k with
  | zero => intro q h; have : q = 0 := by simpa using h
            subst this; simp [dd]
  | succ k ih =>
    intro q h
    by_cases h0 : q = 0
    · subst h0; simp [dd]
    · rw [dd_step q h0, List.length_append]
      have := ih (q / 10) (by rw [Nat.pow_succ] at h; omega)
      simp
      omega
theorem dd_len20 (q : Nat) (h : q ≤ 9223372036854775808) : (dd q).length ≤ 20 := by
  have e : (10 : Nat) ^ 20 = 100000000000000000000 := by decide
  exact dd_len 20 q (by omega)
def itoaS (n : Int) : ByteArray := ⟨(Lib.itoa n).toArray⟩
theorem str_cons (d : Nat) (hd : d < 10) (l : List UInt8) : strOfNums [(48 : Int) + (d : Int)] ++ ⟨l.toArray⟩ = ⟨(UInt8.ofNat (48 + d) :: l).toArray⟩ := by
  have e : strOfNums [(48 : Int) + (d : Int)] = ⟨[UInt8.ofNat (48 + d)].toArray⟩ := by
    unfold strOfNums
    simp only [List.map_cons, List.map_nil]
    rw [show ((48 : Int) + (d : Int)).toNat = 48 + d from by omega]
  rw [e, ByteArray.mk_append_mk]
  rfl

theorem dd_pos (a : Nat) (h : 0 < a) : dd a = Lib.decDigits a := by unfold dd; rw [if_neg (by omega)]

end Go.Proofs.YthnealhaleccpaaGreatDoor
namespace Go.Proofs.YthnealhaleccpaaGreatDoor
open Go.RowKit
open Plain

set_option maxRecDepth 100000 in
set_option maxHeartbeats 400000 in
theorem specDec_zero (w : World) : Calls Tryz.prog 63 #[.int .i64 0] w fun e w' => e = .returned (.string ⟨#[48]⟩) ∧ Below w.heap.size w w' := by
  go_enter Tryz.func63, Tryz.ntmps63
  go_wp2
  go_ret
  exact ⟨rfl, Below.refl _ _⟩

set_option maxRecDepth 100000 in
set_option maxHeartbeats 400000 in
theorem specDec_pos (a : Nat) (w : World) (h0 : 0 < a) (h1 : a ≤ 9223372036854775807) :
    Calls Tryz.prog 63 #[.int .i64 a] w fun e w' => e = .returned (.string ⟨(dd a).toArray⟩) ∧ Below w.heap.size w w' := by
  have H20 := hide (dd_len20 a (by omega))
  have ha : ((a : Int) == 0) = false := by simp; omega
  go_enter Tryz.func63, Tryz.ntmps63
  go_wp2
  go_loopw [0, 3] (fun n o wr => ∃ (q : Nat) (l : List UInt8), q ≤ a ∧ n = .int .i64 q ∧ o = .string ⟨l.toArray⟩ ∧ Hid (dd a = dd q ++ l) ∧ Below w.heap.size w wr) (fun n _ _ => (intOf n).toNat)
  case atStart => exact ⟨a, [], by omega, rfl, rfl, hide (by simp), Below.refl _ _⟩
  case round =>
    obtain ⟨q, l, hq, rfl, rfl, HD, hB⟩ := hrel
    have hl : l.length ≤ 20 := by
      have e := congrArg List.length HD.out
      have := H20.out
      rw [List.length_append] at e
      omega
    by_cases hz : q = 0
    · subst hz
      have HE : Hid (dd a = l) := hide (by rw [HD.out]; rfl)
      go_wp2
      go_ret
      exact ⟨by rw [HE.out]; rfl, hB⟩
    · have hq0 : ((q : Int) != 0) = true := by simp; omega
      have HS := hide (dd_step q hz)
      have hcv := cv_one wr
      have hsz : (strOfNums [(48 : Int) + (q : Int) % 10]).size ≤ 1 := by rw [strOfNums_size]; simp
      have hsl : (ByteArray.mk l.toArray).size ≤ 20 := by simpa [ByteArray.size] using hl
      have HC : Hid (strOfNums [(48 : Int) + (q : Int) % 10] ++ ⟨l.toArray⟩ = ⟨(UInt8.ofNat (48 + q % 10) :: l).toArray⟩) := hide (str_cons (q % 10) (by omega) l)
      go_wp2
      go_roundw
      case rel => exact ⟨q / 10, UInt8.ofNat (48 + q % 10) :: l, by omega, by go_num, by rw [HC.out], hide (by rw [HD.out, HS.out]; simp), hB.alloc hB.size _⟩
      case measure => simp [intOf]; omega

theorem tmod_neg (q : Nat) : (-(q : Int)).tmod 10 = -((q % 10 : Nat) : Int) := by rw [Int.neg_tmod, Int.tmod_eq_emod_of_nonneg (by omega)]; omega
theorem tdiv_neg (q : Nat) : (-(q : Int)).tdiv 10 = -((q / 10 : Nat) : Int) := by rw [Int.neg_tdiv, Int.tdiv_eq_ediv_of_nonneg (by omega)]; omega

set_option maxRecDepth 100000 in
set_option maxHeartbeats 800000 in
theorem specDec_neg (a : Nat) (w : World) (h0 : 0 < a) (h1 : a ≤ 9223372036854775808) :
    Calls Tryz.prog 63 #[.int .i64 (-(a : Int))] w fun e w' => e = .returned (.string ⟨(45 :: dd a).toArray⟩) ∧ Below w.heap.size w w' := by
  have H20 := hide (dd_len20 a (by omega))
  have ha : (-(a : Int) == 0) = false := by simp; omega
  go_enter Tryz.func63, Tryz.ntmps63
  go_wp2
  go_loopw [0, 3] (fun n o wr => ∃ (q : Nat) (l : List UInt8), q ≤ a ∧ n = .int .i64 (-(q : Int)) ∧ o = .string ⟨l.toArray⟩ ∧ Hid (dd a = dd q ++ l) ∧ Below w.heap.size w wr) (fun n _ _ => (- intOf n).toNat)
  case atStart => exact ⟨a, [], by omega, rfl, rfl, hide (by simp), Below.refl _ _⟩
  case round =>
    obtain ⟨q, l, hq, rfl, rfl, HD, hB⟩ := hrel
    have hl : l.length ≤ 20 := by
      have e := congrArg List.length HD.out
      have := H20.out
      rw [List.length_append] at e
      omega
    have hsl : (ByteArray.mk l.toArray).size ≤ 20 := by simpa [ByteArray.size] using hl
    by_cases hz : q = 0
    · subst hz
      have HE : Hid (dd a = l) := hide (by rw [HD.out]; rfl)
      have hm : (ByteArray.mk #[45]).size ≤ 1 := by decide
      have HC : Hid (ByteArray.mk #[45] ++ ⟨l.toArray⟩ = ⟨(45 :: l).toArray⟩) := hide (by rw [show (#[45] : Array UInt8) = [45].toArray from rfl, ByteArray.mk_append_mk]; rfl)
      go_wp2
      go_ret
      exact ⟨by rw [HE.out, ← HC.out]; rfl, hB⟩
    · have hq0 : (-(q : Int) != 0) = true := by simp; omega
      have HS := hide (dd_step q hz)
      have hcv := cv_one wr
      have et := tmod_neg q
      have eq := tdiv_neg q
      have hsz : (strOfNums [(48 : Int) + (q : Int) % 10]).size ≤ 1 := by rw [strOfNums_size]; simp
      have HC : Hid (strOfNums [(48 : Int) + (q : Int) % 10] ++ ⟨l.toArray⟩ = ⟨(UInt8.ofNat (48 + q % 10) :: l).toArray⟩) := hide (str_cons (q % 10) (by omega) l)
      by_cases hd : q % 10 = 0
      · have hs8 : (strOfNums [(48 : Int)]).size ≤ 1 := by rw [strOfNums_size]; simp
        have H8 : Hid (strOfNums [(48 : Int)] ++ ⟨l.toArray⟩ = ⟨(UInt8.ofNat (48 + 0) :: l).toArray⟩) := hide (str_cons 0 (by omega) l)
        have HZ := hide hd
        go_wp2
        go_roundw
        case rel => exact ⟨q / 10, UInt8.ofNat (48 + 0) :: l, by omega, by go_num, by rw [H8.out], hide (by rw [HD.out, HS.out, HZ.out]; simp), hB.alloc hB.size _⟩
        case measure => simp [intOf]; omega
      · go_wp2
        go_roundw
        case rel => exact ⟨q / 10, UInt8.ofNat (48 + q % 10) :: l, by omega, by go_num, by rw [HC.out], hide (by rw [HD.out, HS.out]; simp), hB.alloc hB.size _⟩
        case measure => simp [intOf]; omega

theorem specDec_any (n : Int) (w : World) (h0 : -9223372036854775808 ≤ n) (h1 : n ≤ 9223372036854775807) :
    Calls Tryz.prog 63 #[.int .i64 n] w fun e w' => e = .returned (.string (itoaS n)) ∧ Below w.heap.size w w' := by
  rcases Int.lt_trichotomy n 0 with h | h | h
  · obtain ⟨a, ha⟩ := Int.eq_ofNat_of_zero_le (show 0 ≤ -n by omega)
    obtain rfl : n = -(a : Int) := by omega
    have e : itoaS (-(a : Int)) = ⟨(45 :: dd a).toArray⟩ := by
      unfold itoaS Lib.itoa
      rw [if_pos h, dd_pos a (by omega), show (-(a : Int)).natAbs = a from by omega]
    rw [e]
    exact specDec_neg a w (by omega) (by omega)
  · subst h
    have e : itoaS 0 = ⟨#[48]⟩ := by
      unfold itoaS Lib.itoa
      rw [if_neg (by omega), Lib.decDigits]
      rfl
    rw [e]
    exact specDec_zero w
  · obtain ⟨a, rfl⟩ := Int.eq_ofNat_of_zero_le (show 0 ≤ n by omega)
    have e : itoaS (a : Int) = ⟨(dd a).toArray⟩ := by
      unfold itoaS Lib.itoa
      rw [if_neg (by omega), dd_pos a (by omega), Int.toNat_natCast]
    rw [e]
    exact specDec_pos a w (by omega) (by omega)

end Go.Proofs.YthnealhaleccpaaGreatDoor
namespace Go.Proofs.YthnealhaleccpaaGreatDoor
open Go.RowKit Go.Maps
open Plain

structure AMid (w wr : World) (B : Nat) (a : Option Addr) (len cap : Nat) (zs : List Int) (bd : Nat) (a' : Option Addr) (k cap' : Nat) (c u : Int) (d : Bool) (fs : List FileV) : Prop where
  cur : CurX wr B a len cap zs
  res : wr.heap[w.heap.size]? = some (.cells #[.slice none 0 0, .int .i64 0, .int .i64 0, .bool false] 39 (0, 0))
  dsk : wr.heap[bd]? = some (.cells #[.slice a' k cap', .int .i64 c, .int .i64 u, .bool d] 39 (0, 0))
  own : FOwn wr (w.heap.size + 1) (.slice a' k cap') fs
  small : k ≤ 131 ∧ szFs fs ≤ 10000 ∧ -1 ≤ c ∧ c ≤ 100001 ∧ -2 ≤ u ∧ u ≤ 1
  gro : w.grownBy wr (some B)
  lo : w.heap.size < bd
  hB : B < w.heap.size
section
variable {w wr wr' : World} {B : Nat} {a : Option Addr} {len cap : Nat} {zs : List Int} {bd : Nat} {a' : Option Addr} {k cap' : Nat} {c u : Int} {d : Bool} {fs : List FileV}
theorem AMid.grown (h : AMid w wr B a len cap zs bd a' k cap' c u d fs) (hg : wr.grownBy wr' (some B)) (hc : CurX wr' B a len cap zs) : AMid w wr' B a len cap zs bd a' k cap' c u d fs where
  cur := hc
  res := by have := h.hB; rw [hg.block _ (lt_of_block h.res) (fun e => by injection e with e; omega)]; exact h.res
  dsk := by have := h.hB; have := h.lo; rw [hg.block _ (lt_of_block h.dsk) (fun e => by injection e with e; omega)]; exact h.dsk
  own := h.own.grownB hg (by have := h.hB; omega)
  small := h.small
  gro := grown_trans h.gro hg
  lo := h.lo
  hB := h.hB
theorem AMid.later (h : AMid w wr B a len cap zs bd a' k cap' c u d fs) (hb : Below wr.heap.size wr wr') : AMid w wr' B a len cap zs bd a' k cap' c u d fs :=
  h.grown ⟨hb.os, hb.tape, hb.output, hb.size, fun i hi _ => hb.block i hi⟩ (h.cur.below hb h.cur.lt)
theorem AMid.drewA (h : AMid w wr B a len cap zs bd a' k cap' c u d fs) : AMid w wr.drew B a len cap zs bd a' k cap' c u d fs := h.later (Below.refl _ _).drew
theorem grown_setA {w wr : World} {B : Nat} (h : w.grownBy wr (some B)) (p : Addr) (hb : w.heap.size ≤ p.block) (v : Value) : w.grownBy (wr.setCell p v) (some B) :=
  ⟨h.os, h.tape, h.output, by simpa [World.setCell] using h.size, fun i hi hr => by rw [Below.heap_setCell _ _ _ _ (by omega)]; exact h.block i hi hr⟩
/-- A field of the disk is written. -/
theorem AMid.field (h : AMid w wr B a len cap zs bd a' k cap' c u d fs) (j : Nat) (v : Value) {a2 : Option Addr} {k2 cap2 : Nat} {c2 u2 : Int} {d2 : Bool} {gs : List FileV} (he : (#[.slice a' k cap', .int .i64 c, .int .i64 u, .bool d] : Array Value).setIfInBounds j v = #[.slice a2 k2 cap2, .int .i64 c2, .int .i64 u2, .bool d2])
    (ho : FOwn wr (w.heap.size + 1) (.slice a2 k2 cap2) gs) (hs : k2 ≤ 131 ∧ szFs gs ≤ 10000 ∧ -1 ≤ c2 ∧ c2 ≤ 100001 ∧ -2 ≤ u2 ∧ u2 ≤ 1) :
    AMid w (wr.setCell ⟨bd, j, none⟩ v) B a len cap zs bd a2 k2 cap2 c2 u2 d2 gs where
  cur := h.cur.set _ _ (by have := h.hB; have := h.lo; dsimp only; omega)
  res := by have := h.lo; rw [Below.heap_setCell _ _ _ _ (by dsimp only; omega)]; exact h.res
  dsk := by rw [heap_setCell_cells h.dsk, he]
  own := ho.setNe _ _ (ho.blkNe h.dsk (by decide))
  small := hs
  gro := grown_setA h.gro _ (by have := h.lo; dsimp only; omega) _
  lo := h.lo
  hB := h.hB
/-- A row in the place of the old one, which may have grown. -/
theorem AMid.app (h : AMid w wr B a len cap zs bd a' k cap' c u d fs) (hg : wr.grownBy wr' (Value.slice a' k cap').ownBlock) {a2 : Option Addr} {k2 cap2 : Nat} {gs : List FileV} (ho : FOwn wr' (w.heap.size + 1) (.slice a2 k2 cap2) gs) (hs : k2 ≤ 131 ∧ szFs gs ≤ 10000) :
    wr'.heap[bd]? = some (.cells #[.slice a' k cap', .int .i64 c, .int .i64 u, .bool d] 39 (0, 0)) ∧ AMid w (wr'.setCell ⟨bd, 0, none⟩ (.slice a2 k2 cap2)) B a len cap zs bd a2 k2 cap2 c u d gs := by
  have hw : w.heap.size + 1 ≤ wr.heap.size := lt_of_block h.res
  have hb : Below (w.heap.size + 1) wr wr' := (Below.refl _ _).grown hg hw (fun j hj => (h.own.blk j hj).1)
  have hd : wr'.heap[bd]? = some (.cells #[.slice a' k cap', .int .i64 c, .int .i64 u, .bool d] 39 (0, 0)) := (hg.block _ (lt_of_block h.dsk) (fun e => h.own.blkNe h.dsk (by decide) e.symm)).trans h.dsk
  refine ⟨hd, ?_⟩
  exact
    { cur := (h.cur.below hb (by have := h.hB; omega)).set _ _ (by have := h.hB; have := h.lo; dsimp only; omega)
      res := by have := h.lo; rw [Below.heap_setCell _ _ _ _ (by dsimp only; omega)]; exact (hb.block _ (by omega)).trans h.res
      dsk := by rw [heap_setCell_cells hd]; rfl
      own := ho.setNe _ _ (ho.blkNe hd (by decide))
      small := ⟨hs.1, hs.2, h.small.2.2⟩
      gro := grown_setA (grown_below h.gro (hb.mono (by omega))) _ (by have := h.lo; dsimp only; omega) _
      lo := h.lo
      hB := h.hB }
/-- A cell of the row of files is written. -/
theorem AMid.file {g : Nat} (h : AMid w wr B a len cap zs bd (some ⟨g, 0, none⟩) k cap' c u d fs) (p : Addr) (hp : p.block = g) (v : Value) {gs : List FileV} (ho : FOwn (wr.setCell p v) (w.heap.size + 1) (.slice (some ⟨g, 0, none⟩) k cap') gs) (hs : szFs gs ≤ 10000) :
    AMid w (wr.setCell p v) B a len cap zs bd (some ⟨g, 0, none⟩) k cap' c u d gs where
  cur := h.cur.set _ _ (by have := (h.own.blk g rfl).1; have := h.hB; rw [hp]; omega)
  res := by have := (h.own.blk g rfl).1; rw [Below.heap_setCell _ _ _ _ (by rw [hp]; omega)]; exact h.res
  dsk := by
    have hne := h.own.blkNe h.dsk (by decide)
    rw [Below.heap_setCell _ _ _ _ (fun e => hne (by rw [e, hp]; rfl))]
    exact h.dsk
  own := ho
  small := ⟨h.small.1, hs, h.small.2.2⟩
  gro := grown_setA h.gro _ (by have := (h.own.blk g rfl).1; rw [hp]; omega) _
  lo := h.lo
  hB := h.hB
end
theorem FOwn.putName {w : World} {base g n cap : Nat} {fs : List FileV} (h : FOwn w base (.slice (some ⟨g, 0, none⟩) n cap) fs) (i : Nat) (hi : i < fs.length) (t : ByteArray) :
    FOwn (w.setCell ⟨g, i * 3, none⟩ (.string t)) base (.slice (some ⟨g, 0, none⟩) n cap) (fs.set i ⟨t, (fs[i]).text, (fs[i]).safe⟩) := by
  have hn := h.len
  have hg := fcells_get fs i hi
  unfold FOwn at h ⊢
  rw [hn] at h
  have e1 : ((fcells fs).set (i * 3) (.string t))[i * 3 + 1]? = some (.string (fs[i]).text) := by rw [List.getElem?_set_ne (by omega)]; exact hg.2.1
  have e2 : ((fcells fs).set (i * 3) (.string t))[i * 3 + 2]? = some (.int .i64 (fs[i]).safe) := by rw [List.getElem?_set_ne (by omega)]; exact hg.2.2
  rw [List.length_set, hn, ← fcells_set fs i _ hi, set_get_self _ _ _ e1, set_get_self _ _ _ e2]
  exact (h.stored (i * 3) _).1
theorem FOwn.first {w : World} {base g n cap : Nat} {fs : List FileV} (h : FOwn w base (.slice (some ⟨g, 0, none⟩) n cap) fs) (h0 : 0 < fs.length) :
    w.cell? ⟨g, 0, none⟩ = some (.string (fs[0]).name) ∧ w.cell? ⟨g, 1, none⟩ = some (.string (fs[0]).text) ∧ w.cell? ⟨g, 2, none⟩ = some (.int .i64 (fs[0]).safe) ∧ w.frozen? ⟨g, 0, none⟩ = false ∧ w.frozen? ⟨g, 1, none⟩ = false ∧ w.frozen? ⟨g, 2, none⟩ = false := by
  obtain ⟨b, off, e, _, _, c0, c1, c2⟩ := h.row.cells 0 h0
  simp only [Option.some.injEq, Addr.mk.injEq] at e
  obtain ⟨rfl, rfl, -⟩ := e
  have hn := h.len
  unfold FOwn at h
  rw [hn] at h
  exact ⟨by simpa using c0, by simpa using c1, by simpa using c2, h.frozenAt 0, h.frozenAt 1, h.frozenAt 2⟩
theorem szFs_set (fs : List FileV) : ∀ k g, (hk : k < fs.length) → szFs (fs.set k g) + szF (fs[k]) = szFs fs + szF g := by
  induction fs with
  | nil => intro k g hk; simp at hk
  | cons a r ih =>
    intro k g hk
    cases k with
    | zero => simp [szFs]; omega
    | succ k =>
      have := ih k g (by simpa using hk)
      simp [szFs] at this ⊢
      omega
theorem szFs_append (fs gs : List FileV) : szFs (fs ++ gs) = szFs fs + szFs gs := by
  induction fs with
  | nil => simp [szFs]
  | cons f r ih => simp [szFs, ih]; omega

end Go.Proofs.YthnealhaleccpaaGreatDoor
