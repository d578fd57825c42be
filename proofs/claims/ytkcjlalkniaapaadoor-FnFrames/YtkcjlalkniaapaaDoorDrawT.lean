/-
  What the functions that draw (spec's l1New, l1Once, l1Text) answer: functions of the bytes alone.
-/
import Derived.Test.YtkcjlalkniaapaaDoorBC
namespace Go.Proofs.YtkcjlalkniaapaaDoor
open Go.RowKit
open Plain

theorem i64_and30 (n : Int) : bits .and .i64 n 1073741823 = n % 1073741824 := by
  have h30 : (BitVec.ofInt 64 1073741823).toNat = 2 ^ 30 - 1 := by decide
  have key : (BitVec.ofInt 64 n &&& BitVec.ofInt 64 1073741823).toNat = (n % ((2 ^ 64 : Nat) : Int)).toNat % 2 ^ 30 := by
    rw [BitVec.toNat_and, BitVec.toNat_ofInt, h30, Nat.and_two_pow_sub_one_eq_mod]
  show IntKind.i64.wrap ((BitVec.ofInt 64 n &&& BitVec.ofInt 64 1073741823).toNat : Nat) = n % 1073741824
  rw [key, IntKind.wrap_i64]
  omega
/-- The number that a new cursor holds, of the first k bytes. -/
def hs (zs : List Int) : Nat → Int
  | 0 => 10101 + (zs.length : Int)
  | k + 1 => bits .and .i64 (hs zs k * 131 + zs.getD k 0 + 7) 1073741823
theorem hs_bd (zs : List Int) (h : zs.length ≤ 1073741824) (k : Nat) : 0 ≤ hs zs k ∧ hs zs k ≤ 1073751925 := by
  cases k with
  | zero => simp only [hs]; omega
  | succ k => simp only [hs]; rw [i64_and30]; omega
/-- What a new cursor holds. -/
def st0 (zs : List Int) : Nat × Int := (0, hs zs (min zs.length 4000))

/-- The bytes of a draw, as they lie in the world. -/
structure CodeAt (w : World) (a : Option Addr) (len : Nat) (zs : List Int) : Prop where
  size : zs.length = len
  small : len ≤ 1073741824
  cells : ∀ j, j < len → ∃ b off, a = some ⟨b, off, none⟩ ∧ b < w.heap.size ∧ w.cell? ⟨b, off + j, none⟩ = some (.int .u8 (zs.getD j 0))
  bytes : ∀ j, 0 ≤ zs.getD j 0 ∧ zs.getD j 0 ≤ 255
theorem CodeAt.later {w w' : World} {a : Option Addr} {len : Nat} {zs : List Int} (h : CodeAt w a len zs) (hb : Below w.heap.size w w') : CodeAt w' a len zs where
  size := h.size
  small := h.small
  cells := fun j hj => by
    obtain ⟨b, off, h1, h2, h3⟩ := h.cells j hj
    exact ⟨b, off, h1, Nat.lt_of_lt_of_le h2 hb.size, by rw [hb.cell h2]; exact h3⟩
  bytes := h.bytes

theorem CodeAt.cur {w : World} {a : Option Addr} {len cap : Nat} {zs : List Int} (h : CodeAt w a len zs) (x : Int) : CurAt (w.alloc (.cells #[.slice a len cap, .int .i64 0, .int .i64 x] 87)) w.heap.size a len cap zs (0, x) where
  row := heap_alloc_new w _
  size := h.size
  small := h.small
  place := Nat.zero_le _
  cells := fun j hj => by
    obtain ⟨b, off, h1, h2, h3⟩ := h.cells j hj
    refine ⟨b, off, h1, h2, ?_⟩
    rw [World.cell?_of_block (w := w) (Below.heap_alloc _ _ _ h2)]
    exact h3
  bytes := h.bytes

set_option maxRecDepth 100000 in
set_option maxHeartbeats 1000000 in
theorem new_any (w : World) (a : Option Addr) (len cap : Nat) (zs : List Int) (hc : CodeAt w a len zs) :
    Calls Tryd.prog 30 #[.slice a len cap] w fun e w' => e = .returned (.pointer (some ⟨w.heap.size, 0, none⟩)) ∧ CurAt w' w.heap.size a len cap zs (st0 zs) ∧ Below w.heap.size w w' := by
  have hs' := hc.small
  have hzl := hc.size
  obtain ⟨m, hm, hm1, hm2⟩ : ∃ m : Nat, min zs.length 4000 = m ∧ m ≤ len ∧ m ≤ 4000 := ⟨min zs.length 4000, rfl, by omega, by omega⟩
  have HM : Hid (m = 4000 ∨ m = len) := hide (by omega)
  have H0 : Hid (hs zs 0 = 10101 + (len : Int)) := hide (by simp only [hs]; rw [hzl])
  have HST : Hid (st0 zs = (0, hs zs m)) := hide (by unfold st0; rw [hm])
  have HB := hide (hs_bd zs (by omega))
  have HC := hide hc
  clear hm hc hzl
  go_enter Tryd.func30, Tryd.ntmps30
  go_wp2
  go_loop [3, 4] (fun h i => ∃ k : Nat, k ≤ m ∧ i = .int .i64 k ∧ h = .int .i64 (hs zs k)) (fun _ i => m - (intOf i).toNat)
  case atStart => exact ⟨0, Nat.zero_le _, rfl, val_int H0.out.symm⟩
  case round =>
    obtain ⟨k, hk, rfl, rfl⟩ := hrel
    have hb := HB.out k
    by_cases hlt : k < m
    · obtain ⟨b, off, rfl, hbw, hcell⟩ := HC.out.cells k (by omega)
      have hz := HC.out.bytes k
      have HS : Hid (hs zs (k + 1) = bits .and .i64 (hs zs k * 131 + zs.getD k 0 + 7) 1073741823) := hide rfl
      generalize hs zs k = h at *
      generalize zs.getD k 0 = z at *
      have hk1 : k < len := by omega
      go_wp2
      go_round
      case rel => exact ⟨k + 1, by omega, by go_num, val_int HS.out.symm⟩
      case measure => simp [intOf]; omega
    · obtain rfl : k = m := by omega
      have HCU := hide (HC.out.cur (cap := cap) (hs zs k))
      generalize hs zs k = h at *
      by_cases hk2 : k < len
      · have hk4 : ¬ k < 4000 := by rcases HM.out with h | h <;> omega
        go_wp2
        go_ret
        exact ⟨rfl, by rw [HST.out]; exact HCU.out, (Below.refl _ _).alloc (Nat.le_refl _) _⟩
      · have hdk : decide (k < len) = false := by simpa using hk2
        go_wp2
        go_ret
        exact ⟨rfl, by rw [HST.out]; exact HCU.out, (Below.refl _ _).alloc (Nat.le_refl _) _⟩

theorem CurAt.alloc {w : World} {B : Nat} {a : Option Addr} {len cap : Nat} {zs : List Int} {st : Nat × Int} (h : CurAt w B a len cap zs st) (o : Obj) : CurAt (w.alloc o) B a len cap zs st where
  row := by rw [Below.heap_alloc _ _ _ (lt_of_block h.row)]; exact h.row
  size := h.size
  small := h.small
  place := h.place
  cells := fun j hj => by
    obtain ⟨b, off, h1, h2, h3⟩ := h.cells j hj
    exact ⟨b, off, h1, h2, by rw [World.cell?_of_block (w := w) (Below.heap_alloc _ _ _ (by have := lt_of_block h.row; show b < w.heap.size; omega))]; exact h3⟩
  bytes := h.bytes

theorem CurAt.below {w w' : World} {B K : Nat} {a : Option Addr} {len cap : Nat} {zs : List Int} {st : Nat × Int} (h : CurAt w B a len cap zs st) (hb : Below K w w') (hK : B < K) : CurAt w' B a len cap zs st where
  row := by rw [hb.block B hK]; exact h.row
  size := h.size
  small := h.small
  place := h.place
  cells := fun j hj => by
    obtain ⟨b, off, h1, h2, h3⟩ := h.cells j hj
    exact ⟨b, off, h1, h2, by rw [hb.cell (p := ⟨b, off + j, none⟩) (by show b < K; omega)]; exact h3⟩
  bytes := h.bytes
theorem grown_below {w w1 w2 : World} {r : Option Nat} (h : w.grownBy w1 r) (hb : Below w.heap.size w1 w2) : w.grownBy w2 r :=
  ⟨hb.os.trans h.os, hb.tape.trans h.tape, hb.output.trans h.output, Nat.le_trans h.size hb.size, fun k hk hr => (hb.block k hk).trans (h.block k hk hr)⟩

/-- The bytes of a text that is drawn. -/
def adj (style b : Int) : Int := if style = 1 then b % 2 else if style = 2 then 97 + b % 4 else b
def tL (zs : List Int) (style : Int) : Nat → Nat × Int → List Int
  | 0, _ => []
  | k + 1, st => adj style (bV zs st) :: tL zs style k (bS zs st)
def tS (zs : List Int) : Nat → Nat × Int → Nat × Int
  | 0, st => st
  | k + 1, st => tS zs k (bS zs st)
def tV (zs : List Int) (most : Int) (st : Nat × Int) : List Int := tL zs (lV zs 4 st) (lV zs (most + 1) (lS zs 4 st)).toNat (lS zs (most + 1) (lS zs 4 st))
def tE (zs : List Int) (most : Int) (st : Nat × Int) : Nat × Int := tS zs (lV zs (most + 1) (lS zs 4 st)).toNat (lS zs (most + 1) (lS zs 4 st))
theorem tL_length (zs : List Int) (style : Int) (k : Nat) : ∀ st, (tL zs style k st).length = k := by
  induction k with
  | zero => intro st; rfl
  | succ k ih => intro st; simp [tL, ih]
theorem tV_length (zs : List Int) (most : Int) (st : Nat × Int) (h : 0 ≤ most) : ((tV zs most st).length : Int) ≤ most := by
  unfold tV
  rw [tL_length]
  have := lV_bd zs (most + 1) (lS zs 4 st) (by omega)
  omega
theorem adj_bd (style b : Int) (h : 0 ≤ b ∧ b ≤ 255) : 0 ≤ adj style b ∧ adj style b ≤ 255 := by
  unfold adj
  split
  · omega
  · split <;> omega

set_option maxRecDepth 100000 in
set_option maxHeartbeats 1000000 in
theorem text_any (most : Int) (hm0 : 0 ≤ most) (hm1 : most ≤ 1000) (w : World) (B : Nat) (a : Option Addr) (len cap : Nat) (zs : List Int) (st : Nat × Int) (hc : CurAt w B a len cap zs st) :
    Calls Tryd.prog 31 #[.pointer (some ⟨B, 0, none⟩), .int .i64 most] w fun e w' => e = .returned (.string (strOfNums (tV zs most st))) ∧ CurAt w' B a len cap zs (tE zs most st) ∧ w.grownBy w' (some B) := by
  have HC := hide hc
  have hBw : B < w.heap.size := lt_of_block hc.row
  clear hc
  have hbn := lV_bd zs (most + 1) (lS zs 4 st) (by omega)
  obtain ⟨c, hcn⟩ := Int.eq_ofNat_of_zero_le hbn.1
  have HT : Hid (tV zs most st = tL zs (lV zs 4 st) c (lS zs (most + 1) (lS zs 4 st))) := hide (by unfold tV; rw [hcn]; rfl)
  have HE : Hid (tE zs most st = tS zs c (lS zs (most + 1) (lS zs 4 st))) := hide (by unfold tE; rw [hcn]; rfl)
  have HN : Hid (lV zs (most + 1) (lS zs 4 st) = (c : Int)) := hide hcn
  have hcb : (c : Int) ≤ most := by omega
  clear hbn hcn
  go_enter Tryd.func31, Tryd.ntmps31
  go_wp2_with fail
  refine (below_any 4 (w.alloc (.cells #[] 5)) B a len cap zs st (HC.out.alloc _)).mono ?_
  rintro e w1 ⟨rfl, hc1, hg1⟩
  have HC1 := hide hc1
  have HG1 := hide hg1
  clear hc1 hg1
  go_wp2_with fail
  refine (below_any (most + 1) w1 B a len cap zs (lS zs 4 st) HC1.out).mono ?_
  rintro e w2 ⟨rfl, hc2, hg2⟩
  rw [HN.out]
  have hown0 : (w.alloc (.cells #[] 5)).ownsRow w.heap.size 5 1 (.slice (some ⟨w.heap.size, 0, none⟩) 0 0) 0 [] := World.ownsRow_lit w #[] 0 (Nat.le_refl _) (by unfold maxLen; omega) rfl
  have hne : (Value.slice (some ⟨w.heap.size, 0, none⟩) 0 0).ownBlock ≠ some B := by simp [Value.ownBlock]; omega
  have HO := hide ((hown0.kept HG1.out (Or.inr hne)).kept hg2 (Or.inr hne))
  have HC2 := hide hc2
  have HG2 := hide (grown_trans (World.grownBy_alloc w (.cells #[] 5) (some B)) (grown_trans HG1.out hg2))
  clear hc2 hg2 hown0 hne HC1 HG1 HC HN
  generalize lS zs (most + 1) (lS zs 4 st) = st2 at *
  generalize lV zs 4 st = style at *
  go_wp2
  go_loopw [5, 7] (fun v n wr => ∃ (m : Nat) (p : List Int) (sx : Nat × Int), p.length + m ≤ 1000 ∧ n = .int .i64 m ∧ wr.ownsRow w.heap.size 5 1 v p.length (p.map (Value.int .u8)) ∧ Hid (CurAt wr B a len cap zs sx) ∧ Hid (p ++ tL zs style m sx = tL zs style c st2) ∧ Hid (tS zs m sx = tS zs c st2) ∧ Hid (w.grownBy wr (some B))) (fun _ n _ => (intOf n).toNat)
  case atStart => exact ⟨c, [], st2, by simp; omega, rfl, HO.out, HC2, hide rfl, hide rfl, HG2⟩
  case round =>
    clear HO HC2 HG2
    obtain ⟨m, p, sx, hpm, rfl, hown, HC, HP, HF, HG⟩ := hrel
    have hsz : w.heap.size ≤ wr.heap.size := HG.out.size
    cases m with
    | zero =>
      have e1 : p = tL zs style c st2 := by rw [← HP.out]; simp [tL]
      have hcv := cv_own (by rw [e1] at hown; exact hown)
      clear hown e1
      go_wp2
      go_ret
      exact ⟨by rw [HT.out]; rfl, by rw [HE.out, ← HF.out]; exact HC.out, HG.out⟩
    | succ m =>
      have hb := bV_bd zs sx
      have hab := adj_bd style _ hb
      have HP2 : Hid ((p ++ [adj style (bV zs sx)]) ++ tL zs style m (bS zs sx) = tL zs style c st2) := hide (by rw [← HP.out]; simp [tL])
      have HF2 : Hid (tS zs m (bS zs sx) = tS zs c st2) := hide (by rw [← HF.out]; rfl)
      have HOW := hide hown
      clear hown HP HF
      go_wp2_with fail
      refine (byte_any wr B a len cap zs sx HC.out).mono ?_
      rintro e w3 ⟨rfl, hc3, hg3⟩
      have hown3 := HOW.out.kept hg3 (by
        by_cases hv : (u5).ownBlock = none
        · exact Or.inl hv
        · refine Or.inr (fun e => ?_)
          have := (HOW.out.lt B e).1
          omega)
      have HC3 := hide hc3
      have HG3 := hide (grown_trans HG.out hg3)
      have hsz3 : w.heap.size ≤ w3.heap.size := HG3.out.size
      clear hc3 hg3 HOW HC HG
      have em : ((m + 1 : Nat) : Int) = (m : Int) + 1 := by omega
      rw [em]
      by_cases s1 : style = 1
      · have HA : Hid (adj style (bV zs sx) = bV zs sx % 2) := hide (by unfold adj; rw [if_pos s1])
        have q1 : (style == 1) = true := by simpa using s1
        have q2 : (style == 2) = false := by simp; omega
        clear s1 hab
        generalize bV zs sx = x at *
        go_wp2_with (at_builtin; refine wpList_app_byte rfl (.tmp 31) (.tmp 34) rfl hown3 hsz3 _ (by omega) rfl rfl ?_; intro v' w4 hown4 hB4)
        go_roundw
        case rel => exact ⟨m, p ++ [adj style x], _, by simp; omega, by go_num, by rw [HA.out]; simpa using hown4, hide (HC3.out.below hB4 hBw), HP2, HF2, hide (grown_below HG3.out hB4)⟩
        case measure => first | (simp [intOf]; done) | (simp [intOf]; omega)
      · have q1 : (style == 1) = false := by simpa using s1
        by_cases s2 : style = 2
        · have HA : Hid (adj style (bV zs sx) = 97 + bV zs sx % 4) := hide (by unfold adj; rw [if_neg s1, if_pos s2])
          have q2 : (style == 2) = true := by simpa using s2
          clear s1 s2 hab
          generalize bV zs sx = x at *
          go_wp2_with (at_builtin; refine wpList_app_byte rfl (.tmp 31) (.tmp 34) rfl hown3 hsz3 _ (by omega) rfl rfl ?_; intro v' w4 hown4 hB4)
          go_roundw
          case rel => exact ⟨m, p ++ [adj style x], _, by simp; omega, by go_num, by rw [HA.out]; simpa using hown4, hide (HC3.out.below hB4 hBw), HP2, HF2, hide (grown_below HG3.out hB4)⟩
          case measure => first | (simp [intOf]; done) | (simp [intOf]; omega)
        · have HA : Hid (adj style (bV zs sx) = bV zs sx) := hide (by unfold adj; rw [if_neg s1, if_neg s2])
          have q2 : (style == 2) = false := by simpa using s2
          clear s1 s2 hab
          generalize bV zs sx = x at *
          go_wp2_with (at_builtin; refine wpList_app_byte rfl (.tmp 31) (.tmp 34) rfl hown3 hsz3 _ (by omega) rfl rfl ?_; intro v' w4 hown4 hB4)
          go_roundw
          case rel => exact ⟨m, p ++ [adj style x], _, by simp; omega, by go_num, by rw [HA.out]; simpa using hown4, hide (HC3.out.below hB4 hBw), HP2, HF2, hide (grown_below HG3.out hB4)⟩
          case measure => first | (simp [intOf]; done) | (simp [intOf]; omega)

theorem below_cur {w w1 w2 : World} (hb : Below w.heap.size w w1) (hg : w1.grownBy w2 (some w.heap.size)) : Below w.heap.size w w2 :=
  hb.grown hg hb.size (fun k h => by injection h with h; omega)

end Go.Proofs.YtkcjlalkniaapaaDoor
