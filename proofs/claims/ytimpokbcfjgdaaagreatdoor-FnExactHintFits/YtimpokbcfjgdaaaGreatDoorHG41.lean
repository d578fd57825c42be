/-
  Plain facts on decimal numerals: what is read back of one, how long it is, and what ReadDec is to answer. Names of segments and of hints with no Go in sight, and the number of a name. What spec.Dec answers at every int: the decimal numeral; it makes new memory only. spec.SegName and spec.HintName.
-/
import Derived.Test.YtimpokbcfjgdaaaGreatDoorHG00
import Derived.Lib.ItoaNum
import Derived.Lib.Atoi
import Derived.Lib.Strings
import Derived.Test.YtimpokbcfjgdaaaGreatDoorHG04
import Derived.Test.YtimpokbcfjgdaaaGreatDoorHMRecOkI
namespace Go.Proofs.YtimpokbcfjgdaaaGreatDoor
namespace Plain

theorem u8_digit (d : Nat) (h : d < 10) : (UInt8.ofNat (48 + d)).toNat = 48 + d := by simp; omega
theorem digitVal_of (d : Nat) (h : d < 10) : Lib.digitVal (UInt8.ofNat (48 + d)) = some d := by
  unfold Lib.digitVal
  rw [u8_digit d h, if_pos (by omega)]
  congr 1
  omega
theorem decFrom_snoc (l : List UInt8) (b : UInt8) (d : Nat) (hd : Lib.digitVal b = some d) : ∀ acc n, Lib.decFrom acc l = some n → Lib.decFrom acc (l ++ [b]) = some (n * 10 + d) := by
  induction l with
  | nil => intro acc n h; simp only [Lib.decFrom, Option.some.injEq] at h; subst h; simp [Lib.decFrom, hd]
  | cons a r ih =>
    intro acc n h
    simp only [List.cons_append, Lib.decFrom] at h ⊢
    cases ha : Lib.digitVal a with
    | none => simp [ha] at h
    | some e => simp only [ha] at h ⊢; exact ih _ n h
theorem decDigits_step (a : Nat) (h : ¬ a < 10) : Lib.decDigits a = Lib.decDigits (a / 10) ++ [UInt8.ofNat (48 + a % 10)] := by rw [Lib.decDigits, dif_neg h]
theorem decDigits_small (a : Nat) (h : a < 10) : Lib.decDigits a = [UInt8.ofNat (48 + a)] := by rw [Lib.decDigits, dif_pos h]
theorem decFrom_digits (a : Nat) : Lib.decFrom 0 (Lib.decDigits a) = some a := by
  induction a using Nat.strongRecOn with
  | ind a ih =>
    by_cases h : a < 10
    · rw [decDigits_small a h]; simp only [Lib.decFrom, digitVal_of a h]; simp
    · rw [decDigits_step a h, decFrom_snoc _ _ _ (digitVal_of (a % 10) (by omega)) 0 (a / 10) (ih (a / 10) (by omega))]
      congr 1
      omega
theorem decDigits_ne (a : Nat) : Lib.decDigits a ≠ [] := by
  by_cases h : a < 10
  · rw [decDigits_small a h]; simp
  · rw [decDigits_step a h]; simp
theorem decDigits_mem (a : Nat) : ∀ b ∈ Lib.decDigits a, 48 ≤ b.toNat ∧ b.toNat ≤ 57 := by
  induction a using Nat.strongRecOn with
  | ind a ih =>
    intro b hb
    by_cases h : a < 10
    · rw [decDigits_small a h] at hb
      simp only [List.mem_singleton] at hb
      rw [hb, u8_digit a h]; omega
    · rw [decDigits_step a h, List.mem_append, List.mem_singleton] at hb
      rcases hb with hb | hb
      · exact ih (a / 10) (by omega) b hb
      · rw [hb, u8_digit (a % 10) (by omega)]; omega
theorem decNat_digits (a : Nat) : Lib.decNat (Lib.decDigits a) = some a := by
  unfold Lib.decNat
  have := decDigits_ne a
  rw [if_neg (by simpa using this), decFrom_digits]
theorem atoi_itoa (n : Int) : Lib.atoi (Lib.itoa n) = some n := by
  unfold Lib.itoa
  by_cases h : n < 0
  · rw [if_pos h]
    simp only [Lib.atoi, beq_self_eq_true, if_true, decNat_digits, Option.map_some]
    congr 1
    omega
  · rw [if_neg h]
    cases hd : Lib.decDigits n.toNat with
    | nil => exact absurd hd (decDigits_ne _)
    | cons b r =>
      have hm := decDigits_mem n.toNat b (by rw [hd]; simp)
      have h1 : (b == 45) = false := by
        rw [beq_eq_false_iff_ne]; intro e; rw [e] at hm; simp at hm
      have h2 : (b == 43) = false := by
        rw [beq_eq_false_iff_ne]; intro e; rw [e] at hm; simp at hm
      have h3 := decNat_digits n.toNat
      rw [hd] at h3
      simp only [Lib.atoi, h1, h2, h3, Option.map_some]
      simp
      omega
theorem digits_len (k : Nat) : ∀ a, (Lib.decDigits a).length ≤ k + 1 ↔ a < 10 ^ (k + 1) := by
  induction k with
  | zero =>
    intro a
    by_cases h : a < 10
    · rw [decDigits_small a h]; simpa using h
    · rw [decDigits_step a h, List.length_append]
      have := decDigits_ne (a / 10)
      have h2 : 0 < (Lib.decDigits (a / 10)).length := List.length_pos_iff.2 this
      rw [Nat.zero_add, Nat.pow_one]
      simp only [List.length_singleton]
      omega
  | succ k ih =>
    intro a
    by_cases h : a < 10
    · rw [decDigits_small a h]
      have : 10 ≤ 10 ^ (k + 1 + 1) := by rw [Nat.pow_succ]; have : 0 < 10 ^ (k + 1) := Nat.pow_pos (by omega)
                                         omega
      simp
      omega
    · rw [decDigits_step a h, List.length_append, Nat.pow_succ]
      have := ih (a / 10)
      simp only [List.length_singleton]
      constructor
      · intro h'
        have := this.1 (by omega)
        omega
      · intro h'
        have := this.2 (by omega)
        omega

/-- The digits among bytes, as a number, and how many they are. -/
def svStep (x : Nat × Nat) (b : Nat) : Nat × Nat := if 48 ≤ b ∧ b ≤ 57 then (x.1 * 10 + (b - 48), x.2 + 1) else x
def sv (l : List Nat) : Nat × Nat := l.foldl svStep (0, 0)
theorem sv_snoc (l : List Nat) (b : Nat) : sv (l ++ [b]) = svStep (sv l) b := by simp [sv, List.foldl_append]
theorem sv_bd' (l : List Nat) : ∀ x : Nat × Nat, x.1 < 10 ^ x.2 → (l.foldl svStep x).1 < 10 ^ (l.foldl svStep x).2 ∧ (l.foldl svStep x).2 ≤ x.2 + l.length := by
  induction l with
  | nil => intro x h; exact ⟨h, Nat.le_refl _⟩
  | cons b r ih =>
    intro x h
    rw [List.foldl_cons, List.length_cons]
    have hs : (svStep x b).1 < 10 ^ (svStep x b).2 ∧ (svStep x b).2 ≤ x.2 + 1 := by
      unfold svStep
      split
      · refine ⟨?_, Nat.le_refl _⟩
        simp only [Nat.pow_succ]
        omega
      · exact ⟨h, by omega⟩
    have := ih (svStep x b) hs.1
    omega
theorem sv_bd (l : List Nat) : (sv l).1 < 10 ^ (sv l).2 ∧ (sv l).2 ≤ l.length := by
  have := sv_bd' l (0, 0) (by simp)
  simpa [sv] using this
theorem sv_digits (a : Nat) : sv ((Lib.decDigits a).map UInt8.toNat) = (a, (Lib.decDigits a).length) := by
  induction a using Nat.strongRecOn with
  | ind a ih =>
    by_cases h : a < 10
    · rw [decDigits_small a h, List.map_cons, List.map_nil, u8_digit a h]
      simp [sv, svStep]
      omega
    · rw [decDigits_step a h, List.map_append, List.map_cons, List.map_nil, sv_snoc, ih (a / 10) (by omega), u8_digit (a % 10) (by omega)]
      unfold svStep
      rw [if_pos (by omega)]
      simp only [Prod.mk.injEq, List.length_append, List.length_singleton, and_true]
      omega
theorem sv_minus (l : List Nat) : sv (45 :: l) = sv l := by simp [sv, svStep]

/-- What ReadDec answers. -/
def DA (s : ByteArray) (n : Int) (ok : Bool) : Prop :=
  (ok = true ∧ Lib.itoa n = s.data.toList ∧ -999999999 ≤ n ∧ n ≤ 999999999) ∨ (ok = false ∧ n = 0 ∧ ∀ m, -999999999 ≤ m → m ≤ 999999999 → Lib.itoa m ≠ s.data.toList)
theorem DA_one {s : ByteArray} {n n' : Int} {o o' : Bool} (h : DA s n o) (h' : DA s n' o') : n = n' ∧ o = o' := by
  rcases h with ⟨a, b, c, d⟩ | ⟨a, b, c⟩
  · rcases h' with ⟨a', b', c', d'⟩ | ⟨a', b', c'⟩
    · have e := atoi_itoa n
      rw [b, ← b', atoi_itoa n'] at e
      exact ⟨(Option.some.inj e).symm, by rw [a, a']⟩
    · exact absurd b (c' n c d)
  · rcases h' with ⟨a', b', c', d'⟩ | ⟨a', b', c'⟩
    · exact absurd b' (c n' c' d')
    · exact ⟨by rw [b, b'], by rw [a, a']⟩

theorem trim_itoa (n : Int) : Lib.trimPrefix (Lib.itoa n) [45] = Lib.decDigits n.natAbs := by
  unfold Lib.itoa
  by_cases h : n < 0
  · rw [if_pos h]
    simp [Lib.trimPrefix, Lib.hasPrefix]
  · rw [if_neg h, show n.toNat = n.natAbs from by omega]
    unfold Lib.trimPrefix
    have : Lib.hasPrefix (Lib.decDigits n.natAbs) [45] = false := by
      unfold Lib.hasPrefix
      cases hd : Lib.decDigits n.natAbs with
      | nil => rfl
      | cons b r =>
        have hm := decDigits_mem n.natAbs b (by rw [hd]; simp)
        have h1 : ((45 : UInt8) == b) = false := by
          rw [beq_eq_false_iff_ne]; intro e; rw [← e] at hm; simp at hm
        simp [List.isPrefixOf, h1]
    rw [this]
    rfl
theorem pow9 : (10 : Nat) ^ (8 + 1) = 1000000000 := by decide
theorem trim_short (m : Int) (h1 : -999999999 ≤ m) (h2 : m ≤ 999999999) : (Lib.trimPrefix (Lib.itoa m) [45]).length ≤ 9 := by
  rw [trim_itoa]
  exact (digits_len 8 _).2 (by rw [pow9]; omega)
theorem trim_range (n : Int) (h : (Lib.trimPrefix (Lib.itoa n) [45]).length ≤ 9) : -999999999 ≤ n ∧ n ≤ 999999999 := by
  rw [trim_itoa] at h
  have := (digits_len 8 _).1 h
  rw [pow9] at this
  omega
theorem trim_len (l : List UInt8) : l.length ≤ (Lib.trimPrefix l [45]).length + 1 := by
  unfold Lib.trimPrefix
  split
  · simp; omega
  · omega
theorem sv_itoa (n : Int) : sv ((Lib.itoa n).map UInt8.toNat) = (n.natAbs, (Lib.decDigits n.natAbs).length) := by
  unfold Lib.itoa
  by_cases h : n < 0
  · rw [if_pos h, List.map_cons, show (45 : UInt8).toNat = 45 from rfl, sv_minus, sv_digits]
  · rw [if_neg h, show n.toNat = n.natAbs from by omega, sv_digits]
theorem sv_of (s : ByteArray) (n : Int) (h : Lib.itoa n = s.data.toList) : sv (bl s) = (n.natAbs, (Lib.decDigits n.natAbs).length) := by rw [bl, ← h, sv_itoa]
theorem first_itoa (s : ByteArray) (n : Int) (h : Lib.itoa n = s.data.toList) : 0 < s.size ∧ ((bl s).getD 0 0 = 45 ↔ n < 0) := by
  have hl := bl_length s
  rw [bl, ← h] at hl
  unfold bl
  rw [← h]
  unfold Lib.itoa at hl ⊢
  by_cases hn : n < 0
  · rw [if_pos hn] at hl ⊢
    simp at hl
    refine ⟨by omega, by simp [hn]⟩
  · rw [if_neg hn] at hl ⊢
    cases hd : Lib.decDigits n.toNat with
    | nil => exact absurd hd (decDigits_ne _)
    | cons b r =>
      have hm := decDigits_mem n.toNat b (by rw [hd]; simp)
      rw [hd] at hl
      simp at hl
      refine ⟨by omega, ?_⟩
      simp
      omega
theorem size_itoa (s : ByteArray) (n : Int) (h : Lib.itoa n = s.data.toList) : s.size ≤ (Lib.decDigits n.natAbs).length + 1 := by
  have := trim_len (Lib.itoa n)
  rw [trim_itoa, h] at this
  have e : s.data.toList.length = s.size := by simp
  omega

end Plain
end Go.Proofs.YtimpokbcfjgdaaaGreatDoor
namespace Go.Proofs.YtimpokbcfjgdaaaGreatDoor
open Go.RowKit
open Plain

def segP : ByteArray := ⟨#[115, 101, 103]⟩
def hintP : ByteArray := ⟨#[104, 105, 110, 116]⟩
def segS (n : Int) : ByteArray := if 1 ≤ n ∧ n ≤ 100000 then segP ++ itoaS n else ⟨#[]⟩
def hintS (n : Int) : ByteArray := if 1 ≤ n ∧ n ≤ 100000 then hintP ++ itoaS n else ⟨#[]⟩
theorem segS_in (n : Int) (h : 1 ≤ n ∧ n ≤ 100000) : segS n = segP ++ itoaS n := if_pos h
theorem hintS_in (n : Int) (h : 1 ≤ n ∧ n ≤ 100000) : hintS n = hintP ++ itoaS n := if_pos h
theorem itoaS_inj {n m : Int} (h : itoaS n = itoaS m) : n = m := by
  have e : Lib.itoa n = Lib.itoa m := by
    have := congrArg (fun s : ByteArray => s.data.toList) h
    simpa [itoaS] using this
  have e1 := atoi_itoa n
  rw [e, atoi_itoa m] at e1
  injection e1 with e1
  exact e1.symm
theorem seg_cut (n : Int) (h : 1 ≤ n ∧ n ≤ 100000) : (segS n).extract 3 (segS n).size = itoaS n := by
  rw [segS_in n h]
  exact ba_drop segP (itoaS n)
theorem hint_cut (n : Int) (h : 1 ≤ n ∧ n ≤ 100000) : (hintS n).extract 4 (hintS n).size = itoaS n := by
  rw [hintS_in n h]
  exact ba_drop hintP (itoaS n)
theorem seg_head (n : Int) (h : 1 ≤ n ∧ n ≤ 100000) : (segS n).data.toList.head? = some 115 := by
  rw [segS_in n h, ByteArray.data_append, Array.toList_append]
  rfl
theorem hint_head (n : Int) (h : 1 ≤ n ∧ n ≤ 100000) : (hintS n).data.toList.head? = some 104 := by
  rw [hintS_in n h, ByteArray.data_append, Array.toList_append]
  rfl
/-- This name is the segment's or the hint's of n. -/
def IsName (s : ByteArray) (n : Int) : Prop := (1 ≤ n ∧ n ≤ 100000) ∧ (segS n = s ∨ hintS n = s)
theorem name_one {s : ByteArray} {n m : Int} (h : IsName s n) (k : IsName s m) : n = m := by
  obtain ⟨h0, h⟩ := h
  obtain ⟨k0, k⟩ := k
  rcases h with rfl | rfl
  · rcases k with k | k
    · have e := seg_cut n h0
      rw [← k, seg_cut m k0] at e
      exact (itoaS_inj e).symm
    · have e := seg_head n h0
      rw [← k, hint_head m k0] at e
      cases e
  · rcases k with k | k
    · have e := hint_head n h0
      rw [← k, seg_head m k0] at e
      cases e
    · have e := hint_cut n h0
      rw [← k, hint_cut m k0] at e
      exact (itoaS_inj e).symm
/-- What IdOf tells. -/
def ID (s : ByteArray) (n : Int) (ok : Bool) : Prop := (ok = true ∧ IsName s n) ∨ (ok = false ∧ n = 0 ∧ ∀ m, ¬ IsName s m)
theorem ID_one {s : ByteArray} {n m : Int} {a b : Bool} (h : ID s n a) (k : ID s m b) : n = m ∧ a = b := by
  rcases h with ⟨rfl, h⟩ | ⟨rfl, rfl, h⟩
  · rcases k with ⟨rfl, k⟩ | ⟨_, _, k⟩
    · exact ⟨name_one h k, rfl⟩
    · exact absurd h (k n)
  · rcases k with ⟨rfl, k⟩ | ⟨rfl, rfl, _⟩
    · exact absurd k (h m)
    · exact ⟨rfl, rfl⟩
/-- The number that stands behind the first k bytes, if the name is its. -/
def ioK (s : ByteArray) (k : Nat) : Option Int :=
  match Lib.atoi (s.extract k s.size).data.toList with
  | some n => if (1 ≤ n ∧ n ≤ 100000) ∧ (segS n = s ∨ hintS n = s) then some n else none
  | none => none
theorem ioK_name {s : ByteArray} {k : Nat} {n : Int} (h : ioK s k = some n) : IsName s n := by
  unfold ioK at h
  split at h
  · split at h
    · rename_i h1
      injection h with h
      subst h
      exact h1
    · cases h
  · cases h
theorem ioK_seg (n : Int) (h : 1 ≤ n ∧ n ≤ 100000) : ioK (segS n) 3 = some n := by
  unfold ioK
  rw [seg_cut n h]
  simp only [itoaS, atoi_itoa]
  rw [if_pos ⟨h, Or.inl trivial⟩]
theorem ioK_hint (n : Int) (h : 1 ≤ n ∧ n ≤ 100000) : ioK (hintS n) 4 = some n := by
  unfold ioK
  rw [hint_cut n h]
  simp only [itoaS, atoi_itoa]
  rw [if_pos ⟨h, Or.inr trivial⟩]
def io (s : ByteArray) : Int × Bool :=
  match ioK s 3 with
  | some n => (n, true)
  | none => match ioK s 4 with
    | some n => (n, true)
    | none => (0, false)
theorem io_ID (s : ByteArray) : ID s (io s).1 (io s).2 := by
  unfold io
  split
  · rename_i n h
    exact Or.inl ⟨rfl, ioK_name h⟩
  · rename_i h3
    split
    · rename_i n h
      exact Or.inl ⟨rfl, ioK_name h⟩
    · rename_i h4
      refine Or.inr ⟨rfl, rfl, fun m hm => ?_⟩
      obtain ⟨hr, rfl | rfl⟩ := hm
      · rw [ioK_seg m hr] at h3
        cases h3
      · rw [ioK_hint m hr] at h4
        cases h4
theorem io_of {s : ByteArray} {n : Int} {ok : Bool} (h : ID s n ok) : io s = (n, ok) := by
  obtain ⟨h1, h2⟩ := ID_one (io_ID s) h
  rw [← h1, ← h2]

end Go.Proofs.YtimpokbcfjgdaaaGreatDoor
namespace Go.Proofs.YtimpokbcfjgdaaaGreatDoor
open Go.RowKit
open Plain

set_option maxRecDepth 100000 in
set_option maxHeartbeats 400000 in
theorem specDec_zero (w : World) : Calls Tryz.prog 94 #[.int .i64 0] w fun e w' => e = .returned (.string ⟨#[48]⟩) ∧ Below w.heap.size w w' := by
  go_enter Tryz.func94, Tryz.ntmps94
  go_wp2
  go_ret
  exact ⟨rfl, Below.refl _ _⟩

set_option maxRecDepth 100000 in
set_option maxHeartbeats 400000 in
theorem specDec_pos (a : Nat) (w : World) (h0 : 0 < a) (h1 : a ≤ 9223372036854775807) :
    Calls Tryz.prog 94 #[.int .i64 a] w fun e w' => e = .returned (.string ⟨(dd a).toArray⟩) ∧ Below w.heap.size w w' := by
  have H20 := hide (dd_len20 a (by omega))
  have ha : ((a : Int) == 0) = false := by simp; omega
  go_enter Tryz.func94, Tryz.ntmps94
  go_wp2
  go_loopw [0, 3] (fun n o wr => ∃ (q : Nat) (l : List UInt8), q ≤ a ∧ n = .int .i64 q ∧ o = .string ⟨l.toArray⟩ ∧ Hid (dd a = dd q ++ l) ∧ Below w.heap.size w wr) (fun n _ _ => (intOf n).toNat)
  case atStart => exact ⟨a, [], by omega, rfl, rfl, hide (by simp), Below.refl _ _⟩
  case round =>
    obtain ⟨q, l, hq, rfl, rfl, HD, hB⟩ := hrel
    have hl : l.length ≤ 20 := by
      have e := congrArg List.length HD.out
      have := H20.out
      rw [List.length_append] at e
      omega
    by_cases hz : q = 0
    · subst hz
      have HE : Hid (dd a = l) := hide (by rw [HD.out]; rfl)
      go_wp2
      go_ret
      exact ⟨by rw [HE.out]; rfl, hB⟩
    · have hq0 : ((q : Int) != 0) = true := by simp; omega
      have HS := hide (dd_step q hz)
      have hcv := cv_one wr
      have hsz : (strOfNums [(48 : Int) + (q : Int) % 10]).size ≤ 1 := by rw [strOfNums_size]; simp
      have hsl : (ByteArray.mk l.toArray).size ≤ 20 := by simpa [ByteArray.size] using hl
      have HC : Hid (strOfNums [(48 : Int) + (q : Int) % 10] ++ ⟨l.toArray⟩ = ⟨(UInt8.ofNat (48 + q % 10) :: l).toArray⟩) := hide (str_cons (q % 10) (by omega) l)
      go_wp2
      go_roundw
      case rel => exact ⟨q / 10, UInt8.ofNat (48 + q % 10) :: l, by omega, by go_num, by rw [HC.out], hide (by rw [HD.out, HS.out]; simp), hB.alloc hB.size _⟩
      case measure => simp [intOf]; omega

theorem tmod_neg (q : Nat) : (-(q : Int)).tmod 10 = -((q % 10 : Nat) : Int) := by rw [Int.neg_tmod, Int.tmod_eq_emod_of_nonneg (by omega)]; omega
theorem tdiv_neg (q : Nat) : (-(q : Int)).tdiv 10 = -((q / 10 : Nat) : Int) := by rw [Int.neg_tdiv, Int.tdiv_eq_ediv_of_nonneg (by omega)]; omega

set_option maxRecDepth 100000 in
set_option maxHeartbeats 800000 in
theorem specDec_neg (a : Nat) (w : World) (h0 : 0 < a) (h1 : a ≤ 9223372036854775808) :
    Calls Tryz.prog 94 #[.int .i64 (-(a : Int))] w fun e w' => e = .returned (.string ⟨(45 :: dd a).toArray⟩) ∧ Below w.heap.size w w' := by
  have H20 := hide (dd_len20 a (by omega))
  have ha : (-(a : Int) == 0) = false := by simp; omega
  go_enter Tryz.func94, Tryz.ntmps94
  go_wp2
  go_loopw [0, 3] (fun n o wr => ∃ (q : Nat) (l : List UInt8), q ≤ a ∧ n = .int .i64 (-(q : Int)) ∧ o = .string ⟨l.toArray⟩ ∧ Hid (dd a = dd q ++ l) ∧ Below w.heap.size w wr) (fun n _ _ => (- intOf n).toNat)
  case atStart => exact ⟨a, [], by omega, rfl, rfl, hide (by simp), Below.refl _ _⟩
  case round =>
    obtain ⟨q, l, hq, rfl, rfl, HD, hB⟩ := hrel
    have hl : l.length ≤ 20 := by
      have e := congrArg List.length HD.out
      have := H20.out
      rw [List.length_append] at e
      omega
    have hsl : (ByteArray.mk l.toArray).size ≤ 20 := by simpa [ByteArray.size] using hl
    by_cases hz : q = 0
    · subst hz
      have HE : Hid (dd a = l) := hide (by rw [HD.out]; rfl)
      have hm : (ByteArray.mk #[45]).size ≤ 1 := by decide
      have HC : Hid (ByteArray.mk #[45] ++ ⟨l.toArray⟩ = ⟨(45 :: l).toArray⟩) := hide (by rw [show (#[45] : Array UInt8) = [45].toArray from rfl, ByteArray.mk_append_mk]; rfl)
      go_wp2
      go_ret
      exact ⟨by rw [HE.out, ← HC.out]; rfl, hB⟩
    · have hq0 : (-(q : Int) != 0) = true := by simp; omega
      have HS := hide (dd_step q hz)
      have hcv := cv_one wr
      have et := tmod_neg q
      have eq := tdiv_neg q
      have hsz : (strOfNums [(48 : Int) + (q : Int) % 10]).size ≤ 1 := by rw [strOfNums_size]; simp
      have HC : Hid (strOfNums [(48 : Int) + (q : Int) % 10] ++ ⟨l.toArray⟩ = ⟨(UInt8.ofNat (48 + q % 10) :: l).toArray⟩) := hide (str_cons (q % 10) (by omega) l)
      by_cases hd : q % 10 = 0
      · have hs8 : (strOfNums [(48 : Int)]).size ≤ 1 := by rw [strOfNums_size]; simp
        have H8 : Hid (strOfNums [(48 : Int)] ++ ⟨l.toArray⟩ = ⟨(UInt8.ofNat (48 + 0) :: l).toArray⟩) := hide (str_cons 0 (by omega) l)
        have HZ := hide hd
        go_wp2
        go_roundw
        case rel => exact ⟨q / 10, UInt8.ofNat (48 + 0) :: l, by omega, by go_num, by rw [H8.out], hide (by rw [HD.out, HS.out, HZ.out]; simp), hB.alloc hB.size _⟩
        case measure => simp [intOf]; omega
      · go_wp2
        go_roundw
        case rel => exact ⟨q / 10, UInt8.ofNat (48 + q % 10) :: l, by omega, by go_num, by rw [HC.out], hide (by rw [HD.out, HS.out]; simp), hB.alloc hB.size _⟩
        case measure => simp [intOf]; omega

theorem specDec_any (n : Int) (w : World) (h0 : -9223372036854775808 ≤ n) (h1 : n ≤ 9223372036854775807) :
    Calls Tryz.prog 94 #[.int .i64 n] w fun e w' => e = .returned (.string (itoaS n)) ∧ Below w.heap.size w w' := by
  rcases Int.lt_trichotomy n 0 with h | h | h
  · obtain ⟨a, ha⟩ := Int.eq_ofNat_of_zero_le (show 0 ≤ -n by omega)
    obtain rfl : n = -(a : Int) := by omega
    have e : itoaS (-(a : Int)) = ⟨(45 :: dd a).toArray⟩ := by
      unfold itoaS Lib.itoa
      rw [if_pos h, dd_pos a (by omega), show (-(a : Int)).natAbs = a from by omega]
    rw [e]
    exact specDec_neg a w (by omega) (by omega)
  · subst h
    have e : itoaS 0 = ⟨#[48]⟩ := by
      unfold itoaS Lib.itoa
      rw [if_neg (by omega), Lib.decDigits]
      rfl
    rw [e]
    exact specDec_zero w
  · obtain ⟨a, rfl⟩ := Int.eq_ofNat_of_zero_le (show 0 ≤ n by omega)
    have e : itoaS (a : Int) = ⟨(dd a).toArray⟩ := by
      unfold itoaS Lib.itoa
      rw [if_neg (by omega), dd_pos a (by omega), Int.toNat_natCast]
    rw [e]
    exact specDec_pos a w (by omega) (by omega)

end Go.Proofs.YtimpokbcfjgdaaaGreatDoor
namespace Go.Proofs.YtimpokbcfjgdaaaGreatDoor
open Go.RowKit
open Plain

theorem itoaS_len (n : Int) (h : 1 ≤ n ∧ n ≤ 100000) : (itoaS n).size ≤ 30 := by
  have h2 := dd_len20 n.natAbs (by omega)
  have e : (itoaS n).size = (Lib.itoa n).length := by unfold itoaS; simp [ByteArray.size]
  rw [e]
  unfold Lib.itoa
  rw [if_neg (by omega), ← dd_pos _ (by omega), show n.toNat = n.natAbs from by omega]
  omega
theorem segS_size (n : Int) : (segS n).size ≤ 33 := by
  by_cases h : 1 ≤ n ∧ n ≤ 100000
  · rw [segS_in n h, ByteArray.size_append]
    have := itoaS_len n h
    have e : segP.size = 3 := rfl
    omega
  · unfold segS; rw [if_neg h]; exact Nat.zero_le _
theorem hintS_size (n : Int) : (hintS n).size ≤ 34 := by
  by_cases h : 1 ≤ n ∧ n ≤ 100000
  · rw [hintS_in n h, ByteArray.size_append]
    have := itoaS_len n h
    have e : hintP.size = 4 := rfl
    omega
  · unfold hintS; rw [if_neg h]; exact Nat.zero_le _

set_option maxRecDepth 100000 in
set_option maxHeartbeats 1000000 in
theorem specSeg_any (n : Int) : Ans 56 #[.int .i64 n] (.string (segS n)) := by
  intro w
  have HI := hide (in_any n 1 100000 w)
  by_cases h : 1 ≤ n ∧ n ≤ 100000
  · have hd : decide (1 ≤ n ∧ n ≤ 100000) = true := by simpa using h
    rw [hd] at HI
    have HD := hide (specDec_any n w (by omega) (by omega))
    have HS : Hid (segS n = segP ++ itoaS n) := hide (segS_in n h)
    have hz := itoaS_len n h
    have hz2 : (ByteArray.mk #[115, 101, 103]).size = 3 := rfl
    generalize itoaS n = t at *
    have z1 : ¬ 9223372036854775807 < (ByteArray.mk #[115, 101, 103]).size + t.size := by omega
    clear h hd hz hz2
    go_enter Tryz.func56, Tryz.ntmps56
    go_wp2_with fail
    refine HI.out.mono ?_
    rintro e w1 ⟨rfl, rfl⟩
    go_wp2_with fail
    refine HD.out.mono ?_
    rintro e w2 ⟨rfl, hb⟩
    go_wp2
    go_ret
    exact ⟨by rw [HS.out]; rfl, hb⟩
  · have hd : decide (1 ≤ n ∧ n ≤ 100000) = false := by simpa using h
    rw [hd] at HI
    have HS : Hid (segS n = ⟨#[]⟩) := hide (if_neg h)
    clear h hd
    go_enter Tryz.func56, Tryz.ntmps56
    go_wp2_with fail
    refine HI.out.mono ?_
    rintro e w1 ⟨rfl, rfl⟩
    go_wp2
    go_ret
    exact ⟨by rw [HS.out]; rfl, Below.refl _ _⟩

end Go.Proofs.YtimpokbcfjgdaaaGreatDoor
