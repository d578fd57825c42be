/-
  Plain facts on bytes and numbers, with no Go in sight: what a row of bytes says as a number, and how Go's 'or', 'and' and shifts on int come to sums, remainders and quotients where nothing overlaps. Small laws on rows of bytes that a call has made itself (made, appended to, told as a string), and on the digits of a hexadecimal text. The cursor over the bytes of a draw (spec's l1Cur): what it holds, and what the functions that draw from it answer: each a function of the bytes, the place and the number that it holds. What the functions that draw (spec's l1New, l1Once, l1Text) answer: functions of the bytes alone. Files of a disk as Lean values, and how a slice of them lies in the world: three cells a file. Rows of files that a call has made itself: their cells, and a file put into its place. What spec's l1Pick, l1PickInt and l3Name answer: one of a list. When two disks are the same. spec's l3Used and l3Find: how many bytes all files have; the place of a file. What spec.l1In answers. spec.NameOk: a name is 1 to 12 bytes, each from a to z or 0 to 9. Is a disk right? As a Lean function, and what spec.DiskOk leans on. The order of texts, byte by byte, as Lean's own order of lists. A text's bytes as a list. Files in the order of their names; a right disk's are so; where a file of a name stands. What a row of files is made of. Rows that stand while others are written. Files put behind a row of the call's own.
-/
import Derived.WalkKit
import Derived.Laws.BitsAllLaws
import Derived.Laws.Bits128
import Derived.Laws.BytesArg
import Derived.Laws.Concat
import Derived.Test.YthnealhaleccpaaGreatDoorProg
import Derived.Laws.CopyOwn
import Derived.Deep.RegionLaw
import Derived.BigQuiet
import Derived.Deep.QuietTactic
import Derived.Below
import Derived.Deep.RegionHeld
import Derived.Deep.RegionHeld3
import Derived.Laws.Cover1
import Derived.Lib.Strings
namespace Go.Proofs.YthnealhaleccpaaGreatDoor
namespace Plain

theorem ofInt_i64 (a : Nat) (ha : a < 18446744073709551616) : (BitVec.ofInt 64 (a : Int)).toNat = a := by
  rw [BitVec.ofInt_natCast, BitVec.toNat_ofNat]; exact Nat.mod_eq_of_lt (by omega)

theorem i64_or_nat (a b : Nat) (ha : a < 9223372036854775808) (hb : b < 9223372036854775808) : bits .or .i64 (a : Int) (b : Int) = ((a ||| b : Nat) : Int) := by
  have hx : a ||| b < 2 ^ 63 := Nat.or_lt_two_pow (by omega) (by omega)
  show IntKind.i64.wrap ((BitVec.ofInt 64 (a : Int) ||| BitVec.ofInt 64 (b : Int)).toNat : Int) = _
  rw [BitVec.toNat_or, ofInt_i64 a (by omega), ofInt_i64 b (by omega), IntKind.wrap_i64]
  omega

theorem i64_and_nat (a b : Nat) (ha : a < 9223372036854775808) (hb : b < 9223372036854775808) : bits .and .i64 (a : Int) (b : Int) = ((a &&& b : Nat) : Int) := by
  have hx : a &&& b < 2 ^ 63 := Nat.and_lt_two_pow _ (by omega)
  show IntKind.i64.wrap ((BitVec.ofInt 64 (a : Int) &&& BitVec.ofInt 64 (b : Int)).toNat : Int) = _
  rw [BitVec.toNat_and, ofInt_i64 a (by omega), ofInt_i64 b (by omega), IntKind.wrap_i64]
  omega

/-- 'n<<8 | c' where c is a byte. -/
theorem or_byte (a : Int) (b : Int) (h0 : 0 ≤ a) (h1 : a < 36028797018963968) (h2 : 0 ≤ b) (h3 : b < 256) : bits .or .i64 (a * 256) b = a * 256 + b := by
  obtain ⟨A, rfl⟩ := Int.eq_ofNat_of_zero_le h0
  obtain ⟨B, rfl⟩ := Int.eq_ofNat_of_zero_le h2
  have e : ((A : Int) * 256) = ((A * 256 : Nat) : Int) := by omega
  rw [e, i64_or_nat _ _ (by omega) (by omega), nat_join 8 (A * 256) B (by omega) (by omega)]
  omega

/-- The byte at place k, 0 behind the end. -/
def byteAt (s : ByteArray) (k : Nat) : Nat := if h : k < s.size then s[k].toNat else 0
theorem byteAt_eq (s : ByteArray) (k : Nat) (h : k < s.size) : byteAt s k = s[k].toNat := by simp [byteAt, h]
theorem byteAt_lt (s : ByteArray) (k : Nat) : byteAt s k < 256 := by
  unfold byteAt
  split
  · exact UInt8.toNat_lt _
  · omega

/-- What the first k bytes say, the greatest first. -/
def fixVal (s : ByteArray) : Nat → Nat
  | 0 => 0
  | k + 1 => fixVal s k * 256 + byteAt s k
theorem fixVal_lt (s : ByteArray) (k : Nat) : fixVal s k < 256 ^ k := by
  induction k with
  | zero => simp [fixVal]
  | succ k ih =>
    have := byteAt_lt s k
    simp only [fixVal, Nat.pow_succ]
    omega
theorem fixVal_bd (s : ByteArray) (k : Nat) (h : k ≤ 6) : fixVal s k < 281474976710656 := by
  have h1 := fixVal_lt s k
  have h2 : 256 ^ k ≤ 256 ^ 6 := Nat.pow_le_pow_right (by omega) h
  have h3 : (256 : Nat) ^ 6 = 281474976710656 := by decide
  omega

theorem strOfNums_append (xs ys : List Int) : strOfNums xs ++ strOfNums ys = strOfNums (xs ++ ys) := by
  unfold strOfNums
  rw [ByteArray.mk_append_mk]
  simp

/-- The m low bytes of n, the greatest first. -/
def low (n m : Nat) : List Int := (List.range m).map fun i => ((n / 256 ^ (m - 1 - i) % 256 : Nat) : Int)
theorem low_length (n m : Nat) : (low n m).length = m := by simp [low]
theorem low_succ (n k : Nat) : low n (k + 1) = ((n / 256 ^ k % 256 : Nat) : Int) :: low n k := by
  unfold low
  rw [List.range_succ_eq_map, List.map_cons, List.map_map]
  congr 1
  apply List.map_congr_left
  intro i hi
  have hi' : i < k := by simpa using hi
  simp only [Function.comp, Nat.succ_eq_add_one]
  rw [show k + 1 - 1 - (i + 1) = k - 1 - i from by omega]
theorem div_step (n k : Nat) : n / 256 ^ k / 256 = n / 256 ^ (k + 1) := by
  rw [Nat.div_div_eq_div_mul, Nat.pow_succ]
theorem div_pos_iff (n k : Nat) : 0 < n / 256 ^ k ↔ 256 ^ k ≤ n := by
  rw [Nat.div_pos_iff]
  have : 0 < 256 ^ k := Nat.pow_pos (by omega)
  omega
theorem low_get (n m k : Nat) (h : k < m) : (low n m)[k]? = some ((n / 256 ^ (m - 1 - k) % 256 : Nat) : Int) := by
  unfold low
  rw [List.getElem?_map, List.getElem?_range h]
  rfl

/-- The bytes of Var: seven bits a byte, the least first, 128 more on all but the last; f: at least as many rounds as it takes. -/
def vbF : Nat → Nat → List Int
  | 0, n => [(n : Int)]
  | f + 1, n => if n < 128 then [(n : Int)] else (128 + (n : Int) % 128) :: vbF f (n / 128)
def vb (n : Nat) : List Int := vbF n n
theorem vbF_eq : ∀ f g n : Nat, n ≤ f → n ≤ g → vbF f n = vbF g n
  | 0, 0, _, _, _ => rfl
  | 0, g + 1, n, h, _ => by rw [vbF, vbF, if_pos (by omega)]
  | f + 1, 0, n, _, h => by rw [vbF, vbF, if_pos (by omega)]
  | f + 1, g + 1, n, h1, h2 => by
    rw [vbF, vbF]
    by_cases h : n < 128
    · rw [if_pos h, if_pos h]
    · rw [if_neg h, if_neg h, vbF_eq f g (n / 128) (by omega) (by omega)]
theorem vb_small (n : Nat) (h : n < 128) : vb n = [(n : Int)] := by
  unfold vb
  cases n with
  | zero => rfl
  | succ f => rw [vbF, if_pos h]
theorem vb_big (n : Nat) (h : ¬ n < 128) : vb n = (128 + (n : Int) % 128) :: vb (n / 128) := by
  unfold vb
  cases n with
  | zero => exact absurd (by omega) h
  | succ f => rw [vbF, if_neg h, vbF_eq f ((f + 1) / 128) ((f + 1) / 128) (by omega) (by omega)]
theorem vb_len (k : Nat) : ∀ n, n < 128 ^ (k + 1) → (vb n).length ≤ k + 1 := by
  induction k with
  | zero => intro n h; rw [vb_small n (by simpa using h)]; simp
  | succ k ih =>
    intro n h
    by_cases hs : n < 128
    · rw [vb_small n hs]; simp
    · rw [vb_big n hs, List.length_cons]
      have := ih (n / 128) (by rw [Nat.pow_succ] at h; omega)
      omega
theorem vb_len7 (n : Nat) (h : n ≤ 562949953421311) : (vb n).length ≤ 7 := by
  have e : (128 : Nat) ^ 7 = 562949953421312 := by decide
  exact vb_len 6 n (by omega)
theorem vb_pos (n : Nat) : 0 < (vb n).length := by
  by_cases h : n < 128
  · rw [vb_small n h]; simp
  · rw [vb_big n h]; simp

theorem or128 (a : Int) (h0 : 0 ≤ a) (h1 : a < 128) : bits .or .i64 a 128 = 128 + a := by
  obtain ⟨A, rfl⟩ := Int.eq_ofNat_of_zero_le h0
  have e : (128 : Int) = ((128 : Nat) : Int) := rfl
  rw [e, i64_or_nat _ _ (by omega) (by omega), Nat.or_comm, nat_join 7 128 A (by decide) (by omega)]
  omega


/-- What bytes say, seven bits each, the least first. -/
def vval : List Nat → Nat
  | [] => 0
  | b :: r => b % 128 + 128 * vval r
theorem vval_snoc (l : List Nat) (b : Nat) : vval (l ++ [b]) = vval l + (b % 128) * 128 ^ l.length := by
  induction l with
  | nil => simp [vval]
  | cons a r ih =>
    rw [List.cons_append, vval, ih, vval, List.length_cons, Nat.pow_succ, Nat.mul_add]
    have : 128 * (b % 128 * 128 ^ r.length) = b % 128 * (128 ^ r.length * 128) := by rw [Nat.mul_comm, Nat.mul_assoc]
    omega
theorem vval_lt (l : List Nat) : vval l < 128 ^ l.length := by
  induction l with
  | nil => simp [vval]
  | cons a r ih =>
    rw [vval, List.length_cons, Nat.pow_succ]
    have := Nat.mod_lt a (show 0 < 128 by omega)
    omega
theorem vval_bd (l : List Nat) (h : l.length ≤ 7) : vval l ≤ 562949953421311 := by
  have h1 := vval_lt l
  have h2 : 128 ^ l.length ≤ 128 ^ 7 := Nat.pow_le_pow_right (by omega) h
  have h3 : (128 : Nat) ^ 7 = 562949953421312 := by decide
  omega

/-- The bytes are the Var of what they say. -/
def IsVar (l : List Nat) : Prop := vb (vval l) = l.map (fun b : Nat => (b : Int))
/-- The same, place by place. -/
def GoodVar (l : List Nat) : Prop := l ≠ [] ∧ (∀ j, j + 1 < l.length → 128 ≤ l.getD j 0) ∧ l.getD (l.length - 1) 0 < 128 ∧ (l.length = 1 ∨ l.getD (l.length - 1) 0 ≠ 0)

theorem good_one (b : Nat) : GoodVar [b] ↔ b < 128 := by simp [GoodVar]
theorem good_cons (b c : Nat) (r : List Nat) : GoodVar (b :: c :: r) ↔ 128 ≤ b ∧ c :: r ≠ [0] ∧ GoodVar (c :: r) := by
  constructor
  · rintro ⟨_, h1, h2, h3⟩
    refine ⟨by simpa using h1 0 (by simp), ?_, by simp, ?_, ?_, ?_⟩
    · intro e
      injection e with e1 e2
      subst e1; subst e2
      simp at h3
    · intro j hj
      have := h1 (j + 1) (by simp at hj ⊢; omega)
      simpa using this
    · simpa using h2
    · rcases h3 with h3 | h3
      · simp at h3
      · exact Or.inr (by simpa using h3)
  · rintro ⟨h0, hz, _, h1, h2, h3⟩
    refine ⟨by simp, ?_, by simpa using h2, Or.inr ?_⟩
    · intro j hj
      cases j with
      | zero => simpa using h0
      | succ j =>
        have := h1 j (by simp at hj ⊢; omega)
        simpa using this
    · rcases h3 with h3 | h3
      · cases r with
        | nil => simp at hz ⊢; exact hz
        | cons d t => simp at h3
      · simpa using h3
theorem isVar_iff (l : List Nat) (hb : ∀ b ∈ l, b < 256) : IsVar l ↔ GoodVar l := by
  induction l with
  | nil =>
    constructor
    · intro h
      have h1 := congrArg List.length h
      have h2 := vb_pos (vval [])
      rw [h1] at h2
      simp at h2
    · intro h; exact absurd rfl h.1
  | cons b t ih =>
    have hbb := hb b (by simp)
    cases t with
    | nil =>
      rw [good_one]
      unfold IsVar
      have e : vval [b] = b % 128 := by simp [vval]
      rw [e, vb_small _ (Nat.mod_lt _ (by omega))]
      simp
      omega
    | cons c r =>
      rw [good_cons, ← ih (fun x hx => hb x (by simp [hx]))]
      unfold IsVar
      have e : vval (b :: c :: r) = b % 128 + 128 * vval (c :: r) := rfl
      generalize hv : vval (c :: r) = v at *
      rw [e]
      by_cases h0 : v = 0
      · subst h0
        rw [vb_small _ (by omega), vb_small 0 (by omega)]
        constructor
        · intro h; simp at h
        · rintro ⟨_, h1, h2⟩
          exfalso
          apply h1
          simp at h2
          rw [h2.2]
          simp
          omega
      · rw [vb_big _ (by omega), show (b % 128 + 128 * v) / 128 = v from by omega]
        rw [List.map_cons, List.cons.injEq]
        constructor
        · rintro ⟨h1, h2⟩
          refine ⟨by omega, ?_, h2⟩
          intro h
          rw [h] at hv
          simp [vval] at hv
          omega
        · rintro ⟨h1, _, h2⟩
          exact ⟨by omega, h2⟩

/-- The bytes of a text, as numbers. -/
def bl (s : ByteArray) : List Nat := s.data.toList.map UInt8.toNat
theorem bl_length (s : ByteArray) : (bl s).length = s.size := by rw [bl, List.length_map]; rfl
theorem bl_get (s : ByteArray) (k : Nat) (h : k < s.size) : (bl s)[k]? = some s[k].toNat := by
  have h' : k < s.data.toList.length := by simpa using h
  simp only [bl, List.getElem?_map, List.getElem?_eq_getElem h']
  rfl
theorem bl_lt (s : ByteArray) (k : Nat) : ∀ b ∈ (bl s).take k, b < 256 := by
  intro b hb
  have := List.mem_of_mem_take hb
  simp only [bl, List.mem_map] at this
  obtain ⟨x, _, rfl⟩ := this
  exact UInt8.toNat_lt x
theorem bl_take_succ (s : ByteArray) (k : Nat) (h : k < s.size) : (bl s).take (k + 1) = (bl s).take k ++ [s[k].toNat] := by
  have h' : k < (bl s).length := by rw [bl_length]; exact h
  rw [List.take_succ_eq_append_getElem h']
  have := bl_get s k h
  rw [List.getElem?_eq_getElem h'] at this
  simp at this
  rw [this]

/-- What ReadVar answers: the number and how many bytes it took. -/
def RV (s : ByteArray) (n k : Nat) : Prop :=
  (1 ≤ k ∧ k ≤ 7 ∧ k ≤ s.size ∧ IsVar ((bl s).take k) ∧ n = vval ((bl s).take k) ∧ ∀ j, 1 ≤ j → j < k → ¬ IsVar ((bl s).take j)) ∨
  (n = 0 ∧ k = 0 ∧ ∀ j, 1 ≤ j → j ≤ 7 → j ≤ s.size → ¬ IsVar ((bl s).take j))
theorem RV_one {s : ByteArray} {n k n' k' : Nat} (h : RV s n k) (h' : RV s n' k') : n = n' ∧ k = k' := by
  rcases h with ⟨a1, a2, a3, a4, a5, a6⟩ | ⟨a1, a2, a3⟩
  · rcases h' with ⟨b1, b2, b3, b4, b5, b6⟩ | ⟨b1, b2, b3⟩
    · have : k = k' := by
        rcases Nat.lt_trichotomy k k' with h | h | h
        · exact absurd a4 (b6 k a1 h)
        · exact h
        · exact absurd b4 (a6 k' b1 h)
      subst this
      exact ⟨by rw [a5, b5], rfl⟩
    · exact absurd a4 (b3 k a1 a2 a3)
  · rcases h' with ⟨b1, b2, b3, b4, b5, b6⟩ | ⟨b1, b2, b3⟩
    · exact absurd b4 (a3 k' b1 b2 b3)
    · exact ⟨by omega, by omega⟩

theorem isVar_take (s : ByteArray) (k : Nat) (h1 : 1 ≤ k) (h2 : k ≤ s.size) : IsVar ((bl s).take k) ↔ (∀ j, j + 1 < k → 128 ≤ (bl s).getD j 0) ∧ (bl s).getD (k - 1) 0 < 128 ∧ (k = 1 ∨ (bl s).getD (k - 1) 0 ≠ 0) := by
  rw [isVar_iff _ (bl_lt s k)]
  have hl : ((bl s).take k).length = k := by rw [List.length_take, bl_length]; omega
  have hg : ∀ j, j < k → ((bl s).take k).getD j 0 = (bl s).getD j 0 := by
    intro j hj
    simp [List.getD, hj]
  unfold GoodVar
  rw [hl, hg (k - 1) (by omega)]
  constructor
  · rintro ⟨_, a, b, c⟩
    exact ⟨fun j hj => by rw [← hg j (by omega)]; exact a j hj, b, c⟩
  · rintro ⟨a, b, c⟩
    refine ⟨?_, fun j hj => by rw [hg j (by omega)]; exact a j hj, b, c⟩
    intro e
    rw [e] at hl
    simp at hl
    omega

/-- The ways in which impl.ReadVar ends. -/
theorem RV_hit (s : ByteArray) (i : Nat) (hi : i < 7) (hs : i < s.size) (ha : ∀ j, j < i → 128 ≤ (bl s).getD j 0) (hb : (bl s).getD i 0 < 128) (hz : i = 0 ∨ (bl s).getD i 0 ≠ 0) : RV s (vval ((bl s).take (i + 1))) (i + 1) := by
  refine Or.inl ⟨by omega, by omega, by omega, ?_, rfl, ?_⟩
  · rw [isVar_take s (i + 1) (by omega) (by omega)]
    exact ⟨fun j hj => ha j (by omega), by simpa using hb, by rcases hz with h | h; · exact Or.inl (by omega)
                                                              · exact Or.inr (by simpa using h)⟩
  · intro j h1 h2 h
    rw [isVar_take s j h1 (by omega)] at h
    have := ha (j - 1) (by omega)
    omega
theorem RV_nought (s : ByteArray) (i : Nat) (_hi : i < 7) (_hs : i < s.size) (ha : ∀ j, j < i → 128 ≤ (bl s).getD j 0) (h0 : 0 < i) (hb : (bl s).getD i 0 = 0) : RV s 0 0 := by
  refine Or.inr ⟨rfl, rfl, ?_⟩
  intro j h1 _ h3 h
  rw [isVar_take s j h1 h3] at h
  obtain ⟨a, b, c⟩ := h
  rcases Nat.lt_trichotomy j (i + 1) with h | h | h
  · have := ha (j - 1) (by omega)
    omega
  · subst h
    rw [Nat.add_sub_cancel] at c
    omega
  · have := a i (by omega)
    omega
theorem RV_none (s : ByteArray) (m : Nat) (hm : m = 7 ∨ m = s.size) (ha : ∀ j, j < m → 128 ≤ (bl s).getD j 0) : RV s 0 0 := by
  refine Or.inr ⟨rfl, rfl, ?_⟩
  intro j h1 h2 h3 h
  rw [isVar_take s j h1 h3] at h
  have := ha (j - 1) (by omega)
  omega

end Plain
end Go.Proofs.YthnealhaleccpaaGreatDoor
namespace Go.Proofs.YthnealhaleccpaaGreatDoor
open Go.RowKit
open Plain

theorem hide {p : Prop} (h : p) : Hid p := h
theorem ret_two {k : IntKind} {a b : Int} {c : Bool} (h : a = b) : Ending.returned (.tuple #[.int k a, .bool c]) = .returned (.tuple #[.int k b, .bool c]) := by rw [h]
theorem val_int {k : IntKind} {a b : Int} (h : a = b) : Value.int k a = .int k b := by rw [h]

theorem ret_ints {k : IntKind} {a b c d : Int} (h : a = b) (h2 : c = d) : Ending.returned (.tuple #[.int k a, .int k c]) = .returned (.tuple #[.int k b, .int k d]) := by rw [h, h2]
theorem getD_bl (s : ByteArray) (k : Nat) (h : k < s.size) : (bl s).getD k 0 = s[k].toNat := by rw [List.getD, bl_get s k h]; rfl

theorem Tryz.size5 : (Tryz.prog.info? 5).map (·.size) = some 1 := by kernel_rfl

theorem Tryz.info5 : (Tryz.prog.info? 5).map (fun i => (i.zero, i.size, i.bytes)) = some (some (.int .u8 0), 1, 1) := by kernel_rfl

/-- A row that 'make' has laid: its block, written out. -/
theorem made_row {w w1 : World} {n : Nat} {z : Value} (h : w1.ownsRow w.heap.size 5 1 (.slice (some ⟨w.heap.size, 0, none⟩) n n) n (madeCells #[z] (n * 1)).toList) :
    w1.heap[w.heap.size]? = some (.cells (List.replicate n z).toArray 5 (0, 0)) := by
  obtain ⟨_, h⟩ := h
  rcases h with ⟨h, _⟩ | ⟨g, cap, cur, hv, _, hh, _, _, hs, ht⟩
  · simp at h
  · simp only [Value.slice.injEq, Option.some.injEq, Addr.mk.injEq] at hv
    obtain ⟨⟨rfl, _⟩, _, rfl⟩ := hv
    rw [toList_madeCells_one] at ht
    rw [hh]
    have e : cur.toList = List.replicate n z := by
      rw [List.take_of_length_le (by simp [hs])] at ht
      simpa using ht
    rw [← e]

theorem cv_one (wr : World) (x : Int) : (convert 22 9 (.slice (some ⟨wr.heap.size, 0, none⟩) 1 1)).run Tryz.prog (wr.alloc (.cells #[.int .u8 x] 5)) = .ok (.string (strOfNums [x])) (wr.alloc (.cells #[.int .u8 x] 5)) := by
  refine run_convert_bytes_arg (P := Tryz.prog) (wr.alloc (.cells #[.int .u8 x] 5)) 22 5 Tryz.underlying22 Tryz.underlying5 wr.heap.size 0 1 1 [x] rfl ?_ 9 Tryz.underlying9
  intro i hi
  obtain rfl : i = 0 := by omega
  simp

theorem src_one (wr : World) (x : Int) (j : Nat) (v : Value) (h : [Value.int .u8 x][j]? = some v) : (wr.alloc (.cells #[.int .u8 x] 5)).cell? ((⟨wr.heap.size, 0, none⟩ : Addr).add j) = some v := by
  match j, h with
  | 0, h => simp at h; subst h; simp [Addr.add]
theorem one_one (x : Int) (v : Value) (h : v ∈ [Value.int .u8 x]) : v.oneCell' = true := by
  simp at h; subst h; rfl
theorem cv_own {w : World} {base n : Nat} {v : Value} {L : List Int} (h : w.ownsRow base 5 1 v n (L.map (Value.int .u8))) : (convert 22 9 v).run Tryz.prog w = .ok (.string (strOfNums L)) w := by
  have hl : L.length = n := by simpa using h.1
  rcases h.2 with ⟨rfl, h0⟩ | ⟨g, cap, cur, rfl, _, hg, hc, _, hs, ht⟩
  · have : L = [] := List.eq_nil_of_length_eq_zero (by omega)
    subst this
    exact run_convert_bytes_nil (P := Tryz.prog) w 22 5 Tryz.underlying22 Tryz.underlying5 0 0 9 Tryz.underlying9
  · refine run_convert_bytes_arg (P := Tryz.prog) w 22 5 Tryz.underlying22 Tryz.underlying5 g 0 n cap L hl ?_ 9 Tryz.underlying9
    intro i hi
    have hh : w.ownsRow base 5 1 (.slice (some ⟨g, 0, none⟩) n cap) n (L.map (Value.int .u8)) := h
    have := hh.cellAt i (by omega)
    rw [Nat.zero_add, this]
    have hi' : i < L.length := by omega
    simp [List.getD, hi']

/-- 'out = append(out, b)', out a row of bytes of the call's own (or nil): a law for the walk. -/
theorem wpList_app_byte {ops : Array Oper} {rest : List Oper} {o : Oper} {a : Act} {Q : Exit → Act → World → Prop} (hgd : o.guard = none) (s x : Operand)
    (ho : o.op = .call { callee := .builtin .append, args := #[s, x], argTypes := #[22, 22] }) {wr : World} {base n : Nat} {v : Value} {xs : List Value} (hown : wr.ownsRow base 5 1 v n xs) (hb : base ≤ wr.heap.size) (b : Int) (hn : n ≤ 4194304)
    (hs : a.eval s = v) (hx : a.eval x = .slice (some ⟨wr.heap.size, 0, none⟩) 1 1)
    (h : ∀ v' w', w'.ownsRow base 5 1 v' (n + 1) (xs ++ [.int .u8 b]) → Below base wr w' → wpList Tryz.prog ops Q rest (a.put o.dst v') w') : wpList Tryz.prog ops Q (o :: rest) a (wr.alloc (.cells #[.int .u8 b] 5)) := by
  obtain ⟨i0, hi, hz0, hz1, hz2⟩ := info_parts Tryz.info5
  refine wpList_append_own (P := Tryz.prog) (wr.alloc (.cells #[.int .u8 b] 5)) hgd s x 22 ho base 5 i0 (.int .u8 0) 1 1 Tryz.underlying22 hi hz0 hz1 hz2 rfl (by decide) v n xs hs (hown.alloc _)
    ⟨wr.heap.size, 0, none⟩ 1 1 [.int .u8 b] hx rfl (src_one wr b) (one_one b) (by unfold maxLen; omega) (by omega) (by simp; omega) ?_
  intro v' w' ho' hg _
  refine h v' w' ho' ?_
  refine ((Below.refl base wr).alloc hb _).grown hg (by simp; omega) ?_
  intro k hk
  exact (hown.lt k hk).1

/-- A row of N bytes whose first ones are p, the rest 0. -/
def rowOf (N : Nat) (p : List Int) : List Value := (p ++ List.replicate (N - p.length) 0).map (Value.int .u8)
theorem rowOf_len (N : Nat) (p : List Int) (h : p.length ≤ N) : (rowOf N p).length = N := by simp [rowOf]; omega
theorem rowOf_nil (N : Nat) : rowOf N [] = List.replicate N (.int .u8 0) := by simp [rowOf]
theorem rowOf_step (N : Nat) (p r : List Int) (h : p.length + r.length ≤ N) : splice (rowOf N p) p.length (r.map (Value.int .u8)) = rowOf N (p ++ r) := by
  unfold splice rowOf
  have e : List.replicate (N - p.length) (0 : Int) = List.replicate r.length 0 ++ List.replicate (N - (p ++ r).length) 0 := by
    rw [List.replicate_append_replicate]; congr 1; simp; omega
  rw [e]
  simp [List.drop_append]
/-- 'string(buf[:k])' of such a row. -/
theorem cv_pre {w : World} {g N k : Nat} {L : List Int} (h : w.heap[g]? = some (.cells (rowOf N L).toArray 5 (0, 0))) (hk : L.length = k) :
    (convert 22 9 (.slice (some ⟨g, 0, none⟩) k N)).run Tryz.prog w = .ok (.string (strOfNums L)) w := by
  refine run_convert_bytes_arg (P := Tryz.prog) w 22 5 Tryz.underlying22 Tryz.underlying5 g 0 k N L hk ?_ 9 Tryz.underlying9
  intro i hi
  have hi' : i < L.length := by omega
  simp only [World.cell?, h, rowOf]
  simp [List.getD, hi', List.getElem?_append]

theorem src_row (wr : World) (r : List Int) (j : Nat) (v : Value) (h : (r.map (Value.int .u8))[j]? = some v) : (wr.alloc (.cells (r.map (Value.int .u8)).toArray 5)).cell? ((⟨wr.heap.size, 0, none⟩ : Addr).add j) = some v := by
  have e : (⟨wr.heap.size, 0, none⟩ : Addr).add j = ⟨wr.heap.size, j, none⟩ := by unfold Addr.add; split <;> simp_all
  rw [e, cell_of_row _ _ _ _ _ _ (heap_alloc_new wr _)]
  rw [List.getElem?_toArray]
  exact h
theorem one_row (r : List Int) (v : Value) (h : v ∈ r.map (Value.int .u8)) : v.oneCell' = true := by
  simp at h
  obtain ⟨x, _, rfl⟩ := h
  rfl
/-- The byte of the digit k. -/
def dg (k : Nat) : Int := if k < 10 then 48 + (k : Int) else 87 + (k : Int)
def hexS : ByteArray := ⟨#[48, 49, 50, 51, 52, 53, 54, 55, 56, 57, 97, 98, 99, 100, 101, 102]⟩
theorem hexS_size : hexS.size = 16 := rfl
theorem hexS_get : ∀ (i : Nat) (h : i < hexS.size), ((hexS[i]'h).toNat : Int) = dg i := by
  intro i h
  have h' : i < 16 := h
  match i, h' with
  | 0, _ => rfl
  | 1, _ => rfl
  | 2, _ => rfl
  | 3, _ => rfl
  | 4, _ => rfl
  | 5, _ => rfl
  | 6, _ => rfl
  | 7, _ => rfl
  | 8, _ => rfl
  | 9, _ => rfl
  | 10, _ => rfl
  | 11, _ => rfl
  | 12, _ => rfl
  | 13, _ => rfl
  | 14, _ => rfl
  | 15, _ => rfl
  | n + 16, h' => exact absurd h' (by omega)
theorem idx_hex (k : IntKind) (i : Int) (h0 : 0 ≤ i) (h : i < 16) (w : World) : (Instr.index 9 (.string ⟨#[48, 49, 50, 51, 52, 53, 54, 55, 56, 57, 97, 98, 99, 100, 101, 102]⟩) (.int k i)).run Tryz.prog w = .ok (.int .u8 (dg i.toNat)) w := by
  have e := run_index_string (P := Tryz.prog) w 9 hexS k i Tryz.underlying9
  rw [dif_pos ⟨h0, by rw [hexS_size]; exact h⟩, hexS_get] at e
  exact e

theorem run_enter {P : Program} {f : FuncId} {fn : Func} (hf : P.funcs[f]? = some fn) (hname : (fn.name == "runtime.NumGoroutine") = false) (hb : fn.body.isNone = false) (args : Array Value) (w : World) :
    (callFunc f args).run P w = .ok (.enter f args) w := by
  have h1 : fn.name ≠ "runtime.NumGoroutine" := by simpa using hname
  have h2 : fn.body ≠ none := by intro h; rw [h] at hb; simp at hb
  simp [callFunc, hf, h1, h2]

/-- A call of a named Go function of one argument, as one step of a statement whose order is open. -/
theorem step_call1 {P : Program} {ops : Array Oper} {o : Oper} {a : Act} {w : World} {K : Act → World → Prop} {Q : Exit → Act → World → Prop} {E : Prop} (hgd : o.guard = none) (f : FuncId) (x : Operand) (T : TypeId)
    (ho : o.op = .call { callee := .value (.func f), args := #[x], argTypes := #[T] }) {fn : Func}
    (hf : P.funcs[f]? = some fn) (hname : (fn.name == "runtime.NumGoroutine") = false) (hb : fn.body.isNone = false) (v : Value) (hx : a.eval x = v)
    (h : Calls P f #[v] w fun e w' => ∃ u, e = .returned u ∧ K (a.put o.dst u) w') : if Region.wanted o (yielded ops a.tmps) = true then Oper.wp P o a w K Q else E := by
  rw [if_pos (by simp [Region.wanted, hgd])]
  obtain ⟨dst, op, ty, pos, after, guard⟩ := o
  simp only at ho hgd
  subst ho
  subst hgd
  unfold Oper.wp
  rw [execOp_call_go, run_enter hf hname hb]
  rw [Oper.upon_enter]
  have e : #[] ++ Array.map a.eval #[x] ++ #[] = #[v] := by simp [hx]
  rw [e]
  refine h.mono ?_
  rintro e w' ⟨u, rfl, hk⟩
  exact hk

/-- 'out = append(out, x, y)', out a row of bytes of the call's own, as one step of a statement whose order is open. -/
theorem step_app2 {ops : Array Oper} {o : Oper} {a : Act} {K : Act → World → Prop} {Q : Exit → Act → World → Prop} {E : Prop} (hgd : o.guard = none) (s x : Operand)
    (ho : o.op = .call { callee := .builtin .append, args := #[s, x], argTypes := #[22, 22] }) {wr : World} {base n : Nat} {v : Value} {xs : List Value} (hown : wr.ownsRow base 5 1 v n xs) (hb : base ≤ wr.heap.size) (b c : Int) (hn : n ≤ 4194304)
    (hs : a.eval s = v) (hx : a.eval x = .slice (some ⟨wr.heap.size, 0, none⟩) 2 2)
    (h : ∀ v' w', w'.ownsRow base 5 1 v' (n + 2) (xs ++ [.int .u8 b, .int .u8 c]) → Below base wr w' → K (a.put o.dst v') w') :
    if Region.wanted o (yielded ops a.tmps) = true then Oper.wp Tryz.prog o a (wr.alloc (.cells #[.int .u8 b, .int .u8 c] 5)) K Q else E := by
  rw [if_pos (by simp [Region.wanted, hgd])]
  obtain ⟨i0, hi, hz0, hz1, hz2⟩ := info_parts Tryz.info5
  refine wp_append_own (P := Tryz.prog) (wr.alloc (.cells #[.int .u8 b, .int .u8 c] 5)) s x 22 ho base 5 i0 (.int .u8 0) 1 1 Tryz.underlying22 hi hz0 hz1 hz2 rfl (by decide) v n xs hs (hown.alloc _)
    ⟨wr.heap.size, 0, none⟩ 2 2 [.int .u8 b, .int .u8 c] hx rfl (src_row wr [b, c]) (one_row [b, c]) (by unfold maxLen; omega) (by omega) (by simp; omega) ?_
  intro v' w' ho' hg _
  refine h v' w' ho' ?_
  refine ((Below.refl base wr).alloc hb _).grown hg (by simp; omega) ?_
  intro k hk
  exact (hown.lt k hk).1

/-- The digits of bytes. -/
def hx : List Nat → List Int
  | [] => []
  | b :: r => dg (b / 16) :: dg (b % 16) :: hx r
theorem hx_snoc (l : List Nat) (b : Nat) : hx (l ++ [b]) = hx l ++ [dg (b / 16), dg (b % 16)] := by
  induction l with
  | nil => rfl
  | cons a r ih => simp [hx, ih]
theorem hx_length (l : List Nat) : (hx l).length = 2 * l.length := by
  induction l with
  | nil => rfl
  | cons a r ih => simp [hx, ih]; omega
theorem hx_step (s : ByteArray) (k : Nat) (h : k < s.size) : hx ((bl s).take (k + 1)) = hx ((bl s).take k) ++ [dg (s[k].toNat / 16), dg (s[k].toNat % 16)] := by rw [bl_take_succ s k h, hx_snoc]
theorem hx_take_length (s : ByteArray) (k : Nat) (h : k ≤ s.size) : (hx ((bl s).take k)).length = 2 * k := by rw [hx_length, List.length_take, bl_length]; omega
theorem bl_take_all (s : ByteArray) : (bl s).take s.size = bl s := List.take_of_length_le (by rw [bl_length]; exact Nat.le_refl _)

theorem and15_u8 (b : Nat) (h : b < 256) : bits .and .u8 (b : Int) 15 = (b : Int) % 16 := by
  have := u8_and_nat b 15 h (by omega)
  rw [nat_mask4] at this
  exact this

end Go.Proofs.YthnealhaleccpaaGreatDoor
namespace Go.Proofs.YthnealhaleccpaaGreatDoor
open Go.RowKit
open Plain

theorem i64_and255 (n : Int) : bits .and .i64 n 255 = n % 256 := by
  have h255 : (BitVec.ofInt 64 255).toNat = 2 ^ 8 - 1 := by decide
  have key : (BitVec.ofInt 64 n &&& BitVec.ofInt 64 255).toNat = (n % ((2 ^ 64 : Nat) : Int)).toNat % 2 ^ 8 := by
    rw [BitVec.toNat_and, BitVec.toNat_ofInt, h255, Nat.and_two_pow_sub_one_eq_mod]
  show IntKind.i64.wrap ((BitVec.ofInt 64 n &&& BitVec.ofInt 64 255).toNat : Nat) = n % 256
  rw [key, IntKind.wrap_i64]
  omega

def stepH (h : Int) : Int := wrap64 (wrap64 (h * 6364136223846793005) + 1442695040888963407)
def bX (h : Int) : Int := bits .and .i64 (bits .xor .i64 (h / 8589934592) (h / 35184372088832)) 255
/-- The byte that is drawn next, and what the cursor holds behind it. -/
def bV (zs : List Int) (st : Nat × Int) : Int := if st.1 < zs.length then bits .and .i64 (wrap64 (bX (stepH st.2) + zs.getD st.1 0)) 255 else bX (stepH st.2)
def bS (zs : List Int) (st : Nat × Int) : Nat × Int := (if st.1 < zs.length then st.1 + 1 else st.1, stepH st.2)
theorem bX_bd (h : Int) : 0 ≤ bX h ∧ bX h ≤ 255 := by unfold bX; rw [i64_and255]; omega
theorem bV_bd (zs : List Int) (st : Nat × Int) : 0 ≤ bV zs st ∧ bV zs st ≤ 255 := by
  unfold bV
  split
  · rw [i64_and255]; omega
  · exact bX_bd _

/-- In the world w block B holds the cursor: the slice (a, len, cap) over the bytes zs, the place and the number; the bytes lie in another, older block. -/
structure CurAt (w : World) (B : Nat) (a : Option Addr) (len cap : Nat) (zs : List Int) (st : Nat × Int) : Prop where
  row : w.heap[B]? = some (.cells #[.slice a len cap, .int .i64 st.1, .int .i64 st.2] 75 (0, 0))
  size : zs.length = len
  small : len ≤ 1073741824
  place : st.1 ≤ len
  cells : ∀ j, j < len → ∃ b off, a = some ⟨b, off, none⟩ ∧ b < B ∧ w.cell? ⟨b, off + j, none⟩ = some (.int .u8 (zs.getD j 0))
  bytes : ∀ j, 0 ≤ zs.getD j 0 ∧ zs.getD j 0 ≤ 255

theorem CurAt.cell0 {w : World} {B : Nat} {a : Option Addr} {len cap : Nat} {zs : List Int} {st : Nat × Int} (h : CurAt w B a len cap zs st) : w.cell? ⟨B, 0, none⟩ = some (.slice a len cap) := by rw [cell_of_row w B 0 _ _ _ h.row]; rfl
theorem CurAt.cell1 {w : World} {B : Nat} {a : Option Addr} {len cap : Nat} {zs : List Int} {st : Nat × Int} (h : CurAt w B a len cap zs st) : w.cell? ⟨B, 1, none⟩ = some (.int .i64 st.1) := by rw [cell_of_row w B 1 _ _ _ h.row]; rfl
theorem CurAt.cell2 {w : World} {B : Nat} {a : Option Addr} {len cap : Nat} {zs : List Int} {st : Nat × Int} (h : CurAt w B a len cap zs st) : w.cell? ⟨B, 2, none⟩ = some (.int .i64 st.2) := by rw [cell_of_row w B 2 _ _ _ h.row]; rfl
theorem CurAt.free {w : World} {B : Nat} {a : Option Addr} {len cap : Nat} {zs : List Int} {st : Nat × Int} (h : CurAt w B a len cap zs st) (j : Nat) : w.frozen? ⟨B, j, none⟩ = false := by simp [World.frozen?, h.row]

theorem CurAt.same {w w' : World} {B : Nat} {a : Option Addr} {len cap : Nat} {zs : List Int} {st : Nat × Int} (h : CurAt w B a len cap zs st) (e : w'.heap = w.heap) : CurAt w' B a len cap zs st where
  row := by rw [e]; exact h.row
  size := h.size
  small := h.small
  place := h.place
  cells := fun j hj => by
    obtain ⟨b, off, h1, h2, h3⟩ := h.cells j hj
    exact ⟨b, off, h1, h2, by rw [World.cell?_of_block (w := w) (by rw [e])]; exact h3⟩
  bytes := h.bytes
theorem grown_same {w w1 w' : World} {r : Option Nat} (h : w.grownBy w1 r) (e1 : w'.os = w1.os) (e2 : w'.tape = w1.tape) (e3 : w'.output = w1.output) (e4 : w'.heap = w1.heap) : w.grownBy w' r :=
  ⟨e1.trans h.os, e2.trans h.tape, e3.trans h.output, by rw [e4]; exact h.size, fun k hk hr => by rw [e4]; exact h.block k hk hr⟩
theorem grown_set (w : World) (B : Nat) (cs : Array Value) : w.grownBy (w.setRow B cs) (some B) :=
  ⟨rfl, rfl, rfl, by simp [World.setRow], fun k _ hr => setRow_other w B k cs (fun e => hr (by rw [e]))⟩
theorem grown_trans {a b c : World} {r : Option Nat} (h : a.grownBy b r) (k : b.grownBy c r) : a.grownBy c r :=
  ⟨k.os.trans h.os, k.tape.trans h.tape, k.output.trans h.output, Nat.le_trans h.size k.size, fun i hi hr => (k.block i (Nat.lt_of_lt_of_le hi h.size) hr).trans (h.block i hi hr)⟩
/-- The cursor behind two stores. -/
theorem cur_row {w : World} {B : Nat} {a : Option Addr} {len cap : Nat} {zs : List Int} {st : Nat × Int} (h : CurAt w B a len cap zs st) (i : Nat) (x : Int) (hi : i ≤ len) :
    CurAt (w.setRow B #[.slice a len cap, .int .i64 i, .int .i64 x]) B a len cap zs (i, x) where
  row := setRow_heap w B _ _ _ _ h.row
  size := h.size
  small := h.small
  place := hi
  cells := fun j hj => by
    obtain ⟨b, off, h1, h2, h3⟩ := h.cells j hj
    refine ⟨b, off, h1, h2, ?_⟩
    rw [World.cell?_of_block (w := w) (setRow_other w B b _ (by omega))]
    exact h3
  bytes := h.bytes
theorem two_stores {w : World} {B : Nat} {a : Option Addr} {len cap : Nat} {zs : List Int} {st : Nat × Int} (h : CurAt w B a len cap zs st) (i : Int) (x : Int) :
    (w.setCell ⟨B, 2, none⟩ (.int .i64 x)).setCell ⟨B, 1, none⟩ (.int .i64 i) = w.setRow B #[.slice a len cap, .int .i64 i, .int .i64 x] := by
  rw [setCell_eq_setRow w B 2 _ _ _ _ h.row]
  rw [setCell_eq_setRow _ B 1 _ _ _ _ (setRow_heap w B _ _ _ _ h.row), setRow_setRow]
  rfl
theorem one_store {w : World} {B : Nat} {a : Option Addr} {len cap : Nat} {zs : List Int} {st : Nat × Int} (h : CurAt w B a len cap zs st) (x : Int) :
    w.setCell ⟨B, 2, none⟩ (.int .i64 x) = w.setRow B #[.slice a len cap, .int .i64 st.1, .int .i64 x] := by
  rw [setCell_eq_setRow w B 2 _ _ _ _ h.row]
  rfl

set_option maxRecDepth 100000 in
set_option maxHeartbeats 1000000 in
theorem byte_any (w : World) (B : Nat) (a : Option Addr) (len cap : Nat) (zs : List Int) (st : Nat × Int) (hc : CurAt w B a len cap zs st) :
    Calls Tryz.prog 68 #[.pointer (some ⟨B, 0, none⟩)] w fun e w' => e = .returned (.int .i64 (bV zs st)) ∧ CurAt w' B a len cap zs (bS zs st) ∧ w.grownBy w' (some B) := by
  obtain ⟨i, h⟩ := st
  have c0 := hc.cell0
  have c1 := hc.cell1
  have c2 := hc.cell2
  have f1 := hc.free 1
  have f2 := hc.free 2
  have hi := hc.place
  have hs := hc.small
  have hzl := hc.size
  obtain ⟨H, hH⟩ : ∃ H, wrap64 (wrap64 (h * 6364136223846793005) + 1442695040888963407) = H := ⟨_, rfl⟩
  have HS : Hid (stepH h = H) := hide hH
  simp only at c1 c2 hi
  by_cases hlt : i < len
  · obtain ⟨b, off, rfl, hbB, hcell⟩ := hc.cells i hlt
    have hb := hc.bytes i
    have HV : Hid (bV zs (i, h) = bits .and .i64 (wrap64 (bits .and .i64 (bits .xor .i64 (H / 8589934592) (H / 35184372088832)) 255 + zs.getD i 0)) 255) := hide (by unfold bV; rw [if_pos (by rw [hzl]; exact hlt), HS.out]; rfl)
    have HT : Hid (bS zs (i, h) = (i + 1, H)) := hide (by unfold bS; rw [if_pos (by rw [hzl]; exact hlt), HS.out])
    generalize zs.getD i 0 = z at *
    have HW := hide (two_stores hc ((i : Int) + 1) H)
    have HC := hide (cur_row hc (i + 1) H (by omega))
    have HG := hide (grown_set w B #[.slice (some ⟨b, off, none⟩) len cap, .int .i64 ((i + 1 : Nat) : Int), .int .i64 H])
    clear hc hzl
    go_enter Tryz.func68, Tryz.ntmps68
    go_wp2
    go_quiet (fail)
    go_wp2
    go_quiet (fail)
    go_wp2
    go_quiet (fail)
    go_wp2
    go_ret
    refine ⟨?_, ?_, ?_⟩
    · rw [HV.out]; rfl
    · rw [HT.out]
      refine HC.out.same ?_
      show _ = (w.setRow B #[.slice (some ⟨b, off, none⟩) len cap, .int .i64 ((i : Int) + 1), .int .i64 H]).heap
      rw [← HW.out]
      rfl
    · refine grown_same HG.out rfl rfl rfl ?_
      show _ = (w.setRow B #[.slice (some ⟨b, off, none⟩) len cap, .int .i64 ((i : Int) + 1), .int .i64 H]).heap
      rw [← HW.out]
      rfl
  · have HV : Hid (bV zs (i, h) = bits .and .i64 (bits .xor .i64 (H / 8589934592) (H / 35184372088832)) 255) := hide (by unfold bV; rw [if_neg (by rw [hzl]; exact hlt), HS.out]; rfl)
    have HT : Hid (bS zs (i, h) = (i, H)) := hide (by unfold bS; rw [if_neg (by rw [hzl]; exact hlt), HS.out])
    have HW := hide (one_store hc H)
    have HC := hide (cur_row hc i H (by omega))
    have HG := hide (grown_set w B #[.slice a len cap, .int .i64 (i : Int), .int .i64 H])
    clear hc hzl
    go_enter Tryz.func68, Tryz.ntmps68
    go_wp2
    go_quiet (fail)
    go_wp2
    go_quiet (fail)
    go_wp2
    go_ret
    refine ⟨?_, ?_, ?_⟩
    · rw [HV.out]; rfl
    · rw [HT.out]
      refine HC.out.same ?_
      show _ = (w.setRow B #[.slice a len cap, .int .i64 (i : Int), .int .i64 H]).heap
      rw [← HW.out]
      rfl
    · refine grown_same HG.out rfl rfl rfl ?_
      rw [← HW.out]
      rfl

/-- A number below n, and what the cursor holds behind it. -/
def lV (zs : List Int) (n : Int) (st : Nat × Int) : Int :=
  if n ≤ 0 then 0 else if n ≤ 256 then bV zs st % n else
    (bV zs st * 16777216 + bV zs (bS zs st) * 65536 + bV zs (bS zs (bS zs st)) * 256 + bV zs (bS zs (bS zs (bS zs st)))) % n
def lS (zs : List Int) (n : Int) (st : Nat × Int) : Nat × Int :=
  if n ≤ 0 then st else if n ≤ 256 then bS zs st else bS zs (bS zs (bS zs (bS zs st)))
theorem lV_bd (zs : List Int) (n : Int) (st : Nat × Int) (h : 0 < n) : 0 ≤ lV zs n st ∧ lV zs n st < n := by
  unfold lV
  rw [if_neg (by omega)]
  split
  · exact ⟨Int.emod_nonneg _ (by omega), Int.emod_lt_of_pos _ h⟩
  · exact ⟨Int.emod_nonneg _ (by omega), Int.emod_lt_of_pos _ h⟩

set_option maxRecDepth 100000 in
set_option maxHeartbeats 1000000 in
theorem below_any (n : Int) (w : World) (B : Nat) (a : Option Addr) (len cap : Nat) (zs : List Int) (st : Nat × Int) (hc : CurAt w B a len cap zs st) :
    Calls Tryz.prog 43 #[.pointer (some ⟨B, 0, none⟩), .int .i64 n] w fun e w' => e = .returned (.int .i64 (lV zs n st)) ∧ CurAt w' B a len cap zs (lS zs n st) ∧ w.grownBy w' (some B) := by
  have HC := hide hc
  clear hc
  by_cases h0 : n ≤ 0
  · have HV : Hid (lV zs n st = 0) := hide (by unfold lV; rw [if_pos h0])
    have HS : Hid (lS zs n st = st) := hide (by unfold lS; rw [if_pos h0])
    go_enter Tryz.func43, Tryz.ntmps43
    go_wp2
    go_ret
    refine ⟨by rw [HV.out]; rfl, by rw [HS.out]; exact HC.out, ⟨rfl, rfl, rfl, Nat.le_refl _, fun _ _ _ => rfl⟩⟩
  · by_cases h1 : n ≤ 256
    · have HV : Hid (lV zs n st = bV zs st % n) := hide (by unfold lV; rw [if_neg h0, if_pos h1])
      have HS : Hid (lS zs n st = bS zs st) := hide (by unfold lS; rw [if_neg h0, if_pos h1])
      have hb := bV_bd zs st
      have hn0 : (n == 0) = false := by simp; omega
      go_enter Tryz.func43, Tryz.ntmps43
      go_wp2_with fail
      refine (byte_any w B a len cap zs st HC.out).mono ?_
      rintro e w1 ⟨rfl, hc1, hg1⟩
      have HC1 := hide hc1
      have HG1 := hide hg1
      clear hc1 hg1
      generalize bV zs st = x at *
      go_wp2
      go_ret
      exact ⟨by rw [HV.out]; rfl, by rw [HS.out]; exact HC1.out, HG1.out⟩
    · have HV : Hid (lV zs n st = (bV zs st * 16777216 + bV zs (bS zs st) * 65536 + bV zs (bS zs (bS zs st)) * 256 + bV zs (bS zs (bS zs (bS zs st)))) % n) := hide (by unfold lV; rw [if_neg h0, if_neg h1])
      have HS : Hid (lS zs n st = bS zs (bS zs (bS zs (bS zs st)))) := hide (by unfold lS; rw [if_neg h0, if_neg h1])
      have hb0 := bV_bd zs st
      have hb1 := bV_bd zs (bS zs st)
      have hb2 := bV_bd zs (bS zs (bS zs st))
      have hb3 := bV_bd zs (bS zs (bS zs (bS zs st)))
      have hn0 : (n == 0) = false := by simp; omega
      go_enter Tryz.func43, Tryz.ntmps43
      go_wp2_with fail
      refine (byte_any w B a len cap zs st HC.out).mono ?_
      rintro e w1 ⟨rfl, hc1, hg1⟩
      have HC1 := hide hc1
      have HG1 := hide hg1
      clear hc1 hg1
      go_wp2_with fail
      refine (byte_any w1 B a len cap zs (bS zs st) HC1.out).mono ?_
      rintro e w2 ⟨rfl, hc2, hg2⟩
      have HC2 := hide hc2
      have HG2 := hide hg2
      clear hc2 hg2
      go_wp2_with fail
      refine (byte_any w2 B a len cap zs (bS zs (bS zs st)) HC2.out).mono ?_
      rintro e w3 ⟨rfl, hc3, hg3⟩
      have HC3 := hide hc3
      have HG3 := hide hg3
      clear hc3 hg3
      go_wp2_with fail
      refine (byte_any w3 B a len cap zs (bS zs (bS zs (bS zs st))) HC3.out).mono ?_
      rintro e w4 ⟨rfl, hc4, hg4⟩
      have HC4 := hide hc4
      have HG4 := hide (grown_trans HG1.out (grown_trans HG2.out (grown_trans HG3.out hg4)))
      clear hc4 hg4 HC1 HC2 HC3 HG1 HG2 HG3 HC
      generalize bV zs (bS zs (bS zs (bS zs st))) = x3 at *
      generalize bV zs (bS zs (bS zs st)) = x2 at *
      generalize bV zs (bS zs st) = x1 at *
      generalize bV zs st = x0 at *
      go_wp2
      go_ret
      exact ⟨by rw [HV.out]; rfl, by rw [HS.out]; exact HC4.out, HG4.out⟩

end Go.Proofs.YthnealhaleccpaaGreatDoor
namespace Go.Proofs.YthnealhaleccpaaGreatDoor
open Go.RowKit
open Plain

theorem i64_and30 (n : Int) : bits .and .i64 n 1073741823 = n % 1073741824 := by
  have h30 : (BitVec.ofInt 64 1073741823).toNat = 2 ^ 30 - 1 := by decide
  have key : (BitVec.ofInt 64 n &&& BitVec.ofInt 64 1073741823).toNat = (n % ((2 ^ 64 : Nat) : Int)).toNat % 2 ^ 30 := by
    rw [BitVec.toNat_and, BitVec.toNat_ofInt, h30, Nat.and_two_pow_sub_one_eq_mod]
  show IntKind.i64.wrap ((BitVec.ofInt 64 n &&& BitVec.ofInt 64 1073741823).toNat : Nat) = n % 1073741824
  rw [key, IntKind.wrap_i64]
  omega
/-- The number that a new cursor holds, of the first k bytes. -/
def hs (zs : List Int) : Nat → Int
  | 0 => 10101 + (zs.length : Int)
  | k + 1 => bits .and .i64 (hs zs k * 131 + zs.getD k 0 + 7) 1073741823
theorem hs_bd (zs : List Int) (h : zs.length ≤ 1073741824) (k : Nat) : 0 ≤ hs zs k ∧ hs zs k ≤ 1073751925 := by
  cases k with
  | zero => simp only [hs]; omega
  | succ k => simp only [hs]; rw [i64_and30]; omega
/-- What a new cursor holds. -/
def st0 (zs : List Int) : Nat × Int := (0, hs zs (min zs.length 4000))

/-- The bytes of a draw, as they lie in the world. -/
structure CodeAt (w : World) (a : Option Addr) (len : Nat) (zs : List Int) : Prop where
  size : zs.length = len
  small : len ≤ 1073741824
  cells : ∀ j, j < len → ∃ b off, a = some ⟨b, off, none⟩ ∧ b < w.heap.size ∧ w.cell? ⟨b, off + j, none⟩ = some (.int .u8 (zs.getD j 0))
  bytes : ∀ j, 0 ≤ zs.getD j 0 ∧ zs.getD j 0 ≤ 255
theorem CodeAt.later {w w' : World} {a : Option Addr} {len : Nat} {zs : List Int} (h : CodeAt w a len zs) (hb : Below w.heap.size w w') : CodeAt w' a len zs where
  size := h.size
  small := h.small
  cells := fun j hj => by
    obtain ⟨b, off, h1, h2, h3⟩ := h.cells j hj
    exact ⟨b, off, h1, Nat.lt_of_lt_of_le h2 hb.size, by rw [hb.cell h2]; exact h3⟩
  bytes := h.bytes

theorem CodeAt.cur {w : World} {a : Option Addr} {len cap : Nat} {zs : List Int} (h : CodeAt w a len zs) (x : Int) : CurAt (w.alloc (.cells #[.slice a len cap, .int .i64 0, .int .i64 x] 75)) w.heap.size a len cap zs (0, x) where
  row := heap_alloc_new w _
  size := h.size
  small := h.small
  place := Nat.zero_le _
  cells := fun j hj => by
    obtain ⟨b, off, h1, h2, h3⟩ := h.cells j hj
    refine ⟨b, off, h1, h2, ?_⟩
    rw [World.cell?_of_block (w := w) (Below.heap_alloc _ _ _ h2)]
    exact h3
  bytes := h.bytes

set_option maxRecDepth 100000 in
set_option maxHeartbeats 1000000 in
theorem new_any (w : World) (a : Option Addr) (len cap : Nat) (zs : List Int) (hc : CodeAt w a len zs) :
    Calls Tryz.prog 20 #[.slice a len cap] w fun e w' => e = .returned (.pointer (some ⟨w.heap.size, 0, none⟩)) ∧ CurAt w' w.heap.size a len cap zs (st0 zs) ∧ Below w.heap.size w w' := by
  have hs' := hc.small
  have hzl := hc.size
  obtain ⟨m, hm, hm1, hm2⟩ : ∃ m : Nat, min zs.length 4000 = m ∧ m ≤ len ∧ m ≤ 4000 := ⟨min zs.length 4000, rfl, by omega, by omega⟩
  have HM : Hid (m = 4000 ∨ m = len) := hide (by omega)
  have H0 : Hid (hs zs 0 = 10101 + (len : Int)) := hide (by simp only [hs]; rw [hzl])
  have HST : Hid (st0 zs = (0, hs zs m)) := hide (by unfold st0; rw [hm])
  have HB := hide (hs_bd zs (by omega))
  have HC := hide hc
  clear hm hc hzl
  go_enter Tryz.func20, Tryz.ntmps20
  go_wp2
  go_loop [3, 4] (fun h i => ∃ k : Nat, k ≤ m ∧ i = .int .i64 k ∧ h = .int .i64 (hs zs k)) (fun _ i => m - (intOf i).toNat)
  case atStart => exact ⟨0, Nat.zero_le _, rfl, val_int H0.out.symm⟩
  case round =>
    obtain ⟨k, hk, rfl, rfl⟩ := hrel
    have hb := HB.out k
    by_cases hlt : k < m
    · obtain ⟨b, off, rfl, hbw, hcell⟩ := HC.out.cells k (by omega)
      have hz := HC.out.bytes k
      have HS : Hid (hs zs (k + 1) = bits .and .i64 (hs zs k * 131 + zs.getD k 0 + 7) 1073741823) := hide rfl
      generalize hs zs k = h at *
      generalize zs.getD k 0 = z at *
      have hk1 : k < len := by omega
      go_wp2
      go_round
      case rel => exact ⟨k + 1, by omega, by go_num, val_int HS.out.symm⟩
      case measure => simp [intOf]; omega
    · obtain rfl : k = m := by omega
      have HCU := hide (HC.out.cur (cap := cap) (hs zs k))
      generalize hs zs k = h at *
      by_cases hk2 : k < len
      · have hk4 : ¬ k < 4000 := by rcases HM.out with h | h <;> omega
        go_wp2
        go_ret
        exact ⟨rfl, by rw [HST.out]; exact HCU.out, (Below.refl _ _).alloc (Nat.le_refl _) _⟩
      · have hdk : decide (k < len) = false := by simpa using hk2
        go_wp2
        go_ret
        exact ⟨rfl, by rw [HST.out]; exact HCU.out, (Below.refl _ _).alloc (Nat.le_refl _) _⟩

theorem CurAt.alloc {w : World} {B : Nat} {a : Option Addr} {len cap : Nat} {zs : List Int} {st : Nat × Int} (h : CurAt w B a len cap zs st) (o : Obj) : CurAt (w.alloc o) B a len cap zs st where
  row := by rw [Below.heap_alloc _ _ _ (lt_of_block h.row)]; exact h.row
  size := h.size
  small := h.small
  place := h.place
  cells := fun j hj => by
    obtain ⟨b, off, h1, h2, h3⟩ := h.cells j hj
    exact ⟨b, off, h1, h2, by rw [World.cell?_of_block (w := w) (Below.heap_alloc _ _ _ (by have := lt_of_block h.row; show b < w.heap.size; omega))]; exact h3⟩
  bytes := h.bytes

theorem CurAt.below {w w' : World} {B K : Nat} {a : Option Addr} {len cap : Nat} {zs : List Int} {st : Nat × Int} (h : CurAt w B a len cap zs st) (hb : Below K w w') (hK : B < K) : CurAt w' B a len cap zs st where
  row := by rw [hb.block B hK]; exact h.row
  size := h.size
  small := h.small
  place := h.place
  cells := fun j hj => by
    obtain ⟨b, off, h1, h2, h3⟩ := h.cells j hj
    exact ⟨b, off, h1, h2, by rw [hb.cell (p := ⟨b, off + j, none⟩) (by show b < K; omega)]; exact h3⟩
  bytes := h.bytes
theorem grown_below {w w1 w2 : World} {r : Option Nat} (h : w.grownBy w1 r) (hb : Below w.heap.size w1 w2) : w.grownBy w2 r :=
  ⟨hb.os.trans h.os, hb.tape.trans h.tape, hb.output.trans h.output, Nat.le_trans h.size hb.size, fun k hk hr => (hb.block k hk).trans (h.block k hk hr)⟩

/-- The bytes of a text that is drawn. -/
def adj (style b : Int) : Int := if style = 1 then b % 2 else if style = 2 then 97 + b % 4 else b
def tL (zs : List Int) (style : Int) : Nat → Nat × Int → List Int
  | 0, _ => []
  | k + 1, st => adj style (bV zs st) :: tL zs style k (bS zs st)
def tS (zs : List Int) : Nat → Nat × Int → Nat × Int
  | 0, st => st
  | k + 1, st => tS zs k (bS zs st)
def tV (zs : List Int) (most : Int) (st : Nat × Int) : List Int := tL zs (lV zs 4 st) (lV zs (most + 1) (lS zs 4 st)).toNat (lS zs (most + 1) (lS zs 4 st))
def tE (zs : List Int) (most : Int) (st : Nat × Int) : Nat × Int := tS zs (lV zs (most + 1) (lS zs 4 st)).toNat (lS zs (most + 1) (lS zs 4 st))
theorem tL_length (zs : List Int) (style : Int) (k : Nat) : ∀ st, (tL zs style k st).length = k := by
  induction k with
  | zero => intro st; rfl
  | succ k ih => intro st; simp [tL, ih]
theorem tV_length (zs : List Int) (most : Int) (st : Nat × Int) (h : 0 ≤ most) : ((tV zs most st).length : Int) ≤ most := by
  unfold tV
  rw [tL_length]
  have := lV_bd zs (most + 1) (lS zs 4 st) (by omega)
  omega
theorem adj_bd (style b : Int) (h : 0 ≤ b ∧ b ≤ 255) : 0 ≤ adj style b ∧ adj style b ≤ 255 := by
  unfold adj
  split
  · omega
  · split <;> omega

set_option maxRecDepth 100000 in
set_option maxHeartbeats 1000000 in
theorem text_any (most : Int) (hm0 : 0 ≤ most) (hm1 : most ≤ 1000) (w : World) (B : Nat) (a : Option Addr) (len cap : Nat) (zs : List Int) (st : Nat × Int) (hc : CurAt w B a len cap zs st) :
    Calls Tryz.prog 85 #[.pointer (some ⟨B, 0, none⟩), .int .i64 most] w fun e w' => e = .returned (.string (strOfNums (tV zs most st))) ∧ CurAt w' B a len cap zs (tE zs most st) ∧ w.grownBy w' (some B) := by
  have HC := hide hc
  have hBw : B < w.heap.size := lt_of_block hc.row
  clear hc
  have hbn := lV_bd zs (most + 1) (lS zs 4 st) (by omega)
  obtain ⟨c, hcn⟩ := Int.eq_ofNat_of_zero_le hbn.1
  have HT : Hid (tV zs most st = tL zs (lV zs 4 st) c (lS zs (most + 1) (lS zs 4 st))) := hide (by unfold tV; rw [hcn]; rfl)
  have HE : Hid (tE zs most st = tS zs c (lS zs (most + 1) (lS zs 4 st))) := hide (by unfold tE; rw [hcn]; rfl)
  have HN : Hid (lV zs (most + 1) (lS zs 4 st) = (c : Int)) := hide hcn
  have hcb : (c : Int) ≤ most := by omega
  clear hbn hcn
  go_enter Tryz.func85, Tryz.ntmps85
  go_wp2_with fail
  refine (below_any 4 (w.alloc (.cells #[] 5)) B a len cap zs st (HC.out.alloc _)).mono ?_
  rintro e w1 ⟨rfl, hc1, hg1⟩
  have HC1 := hide hc1
  have HG1 := hide hg1
  clear hc1 hg1
  go_wp2_with fail
  refine (below_any (most + 1) w1 B a len cap zs (lS zs 4 st) HC1.out).mono ?_
  rintro e w2 ⟨rfl, hc2, hg2⟩
  rw [HN.out]
  have hown0 : (w.alloc (.cells #[] 5)).ownsRow w.heap.size 5 1 (.slice (some ⟨w.heap.size, 0, none⟩) 0 0) 0 [] := World.ownsRow_lit w #[] 0 (Nat.le_refl _) (by unfold maxLen; omega) rfl
  have hne : (Value.slice (some ⟨w.heap.size, 0, none⟩) 0 0).ownBlock ≠ some B := by simp [Value.ownBlock]; omega
  have HO := hide ((hown0.kept HG1.out (Or.inr hne)).kept hg2 (Or.inr hne))
  have HC2 := hide hc2
  have HG2 := hide (grown_trans (World.grownBy_alloc w (.cells #[] 5) (some B)) (grown_trans HG1.out hg2))
  clear hc2 hg2 hown0 hne HC1 HG1 HC HN
  generalize lS zs (most + 1) (lS zs 4 st) = st2 at *
  generalize lV zs 4 st = style at *
  go_wp2
  go_loopw [5, 7] (fun v n wr => ∃ (m : Nat) (p : List Int) (sx : Nat × Int), p.length + m ≤ 1000 ∧ n = .int .i64 m ∧ wr.ownsRow w.heap.size 5 1 v p.length (p.map (Value.int .u8)) ∧ Hid (CurAt wr B a len cap zs sx) ∧ Hid (p ++ tL zs style m sx = tL zs style c st2) ∧ Hid (tS zs m sx = tS zs c st2) ∧ Hid (w.grownBy wr (some B))) (fun _ n _ => (intOf n).toNat)
  case atStart => exact ⟨c, [], st2, by simp; omega, rfl, HO.out, HC2, hide rfl, hide rfl, HG2⟩
  case round =>
    clear HO HC2 HG2
    obtain ⟨m, p, sx, hpm, rfl, hown, HC, HP, HF, HG⟩ := hrel
    have hsz : w.heap.size ≤ wr.heap.size := HG.out.size
    cases m with
    | zero =>
      have e1 : p = tL zs style c st2 := by rw [← HP.out]; simp [tL]
      have hcv := cv_own (by rw [e1] at hown; exact hown)
      clear hown e1
      go_wp2
      go_ret
      exact ⟨by rw [HT.out]; rfl, by rw [HE.out, ← HF.out]; exact HC.out, HG.out⟩
    | succ m =>
      have hb := bV_bd zs sx
      have hab := adj_bd style _ hb
      have HP2 : Hid ((p ++ [adj style (bV zs sx)]) ++ tL zs style m (bS zs sx) = tL zs style c st2) := hide (by rw [← HP.out]; simp [tL])
      have HF2 : Hid (tS zs m (bS zs sx) = tS zs c st2) := hide (by rw [← HF.out]; rfl)
      have HOW := hide hown
      clear hown HP HF
      go_wp2_with fail
      refine (byte_any wr B a len cap zs sx HC.out).mono ?_
      rintro e w3 ⟨rfl, hc3, hg3⟩
      have hown3 := HOW.out.kept hg3 (by
        by_cases hv : (u5).ownBlock = none
        · exact Or.inl hv
        · refine Or.inr (fun e => ?_)
          have := (HOW.out.lt B e).1
          omega)
      have HC3 := hide hc3
      have HG3 := hide (grown_trans HG.out hg3)
      have hsz3 : w.heap.size ≤ w3.heap.size := HG3.out.size
      clear hc3 hg3 HOW HC HG
      have em : ((m + 1 : Nat) : Int) = (m : Int) + 1 := by omega
      rw [em]
      by_cases s1 : style = 1
      · have HA : Hid (adj style (bV zs sx) = bV zs sx % 2) := hide (by unfold adj; rw [if_pos s1])
        have q1 : (style == 1) = true := by simpa using s1
        have q2 : (style == 2) = false := by simp; omega
        clear s1 hab
        generalize bV zs sx = x at *
        go_wp2_with (at_builtin; refine wpList_app_byte rfl (.tmp 31) (.tmp 34) rfl hown3 hsz3 _ (by omega) rfl rfl ?_; intro v' w4 hown4 hB4)
        go_roundw
        case rel => exact ⟨m, p ++ [adj style x], _, by simp; omega, by go_num, by rw [HA.out]; simpa using hown4, hide (HC3.out.below hB4 hBw), HP2, HF2, hide (grown_below HG3.out hB4)⟩
        case measure => first | (simp [intOf]; done) | (simp [intOf]; omega)
      · have q1 : (style == 1) = false := by simpa using s1
        by_cases s2 : style = 2
        · have HA : Hid (adj style (bV zs sx) = 97 + bV zs sx % 4) := hide (by unfold adj; rw [if_neg s1, if_pos s2])
          have q2 : (style == 2) = true := by simpa using s2
          clear s1 s2 hab
          generalize bV zs sx = x at *
          go_wp2_with (at_builtin; refine wpList_app_byte rfl (.tmp 31) (.tmp 34) rfl hown3 hsz3 _ (by omega) rfl rfl ?_; intro v' w4 hown4 hB4)
          go_roundw
          case rel => exact ⟨m, p ++ [adj style x], _, by simp; omega, by go_num, by rw [HA.out]; simpa using hown4, hide (HC3.out.below hB4 hBw), HP2, HF2, hide (grown_below HG3.out hB4)⟩
          case measure => first | (simp [intOf]; done) | (simp [intOf]; omega)
        · have HA : Hid (adj style (bV zs sx) = bV zs sx) := hide (by unfold adj; rw [if_neg s1, if_neg s2])
          have q2 : (style == 2) = false := by simpa using s2
          clear s1 s2 hab
          generalize bV zs sx = x at *
          go_wp2_with (at_builtin; refine wpList_app_byte rfl (.tmp 31) (.tmp 34) rfl hown3 hsz3 _ (by omega) rfl rfl ?_; intro v' w4 hown4 hB4)
          go_roundw
          case rel => exact ⟨m, p ++ [adj style x], _, by simp; omega, by go_num, by rw [HA.out]; simpa using hown4, hide (HC3.out.below hB4 hBw), HP2, HF2, hide (grown_below HG3.out hB4)⟩
          case measure => first | (simp [intOf]; done) | (simp [intOf]; omega)

theorem below_cur {w w1 w2 : World} (hb : Below w.heap.size w w1) (hg : w1.grownBy w2 (some w.heap.size)) : Below w.heap.size w w2 :=
  hb.grown hg hb.size (fun k h => by injection h with h; omega)

end Go.Proofs.YthnealhaleccpaaGreatDoor
namespace Go.Proofs.YthnealhaleccpaaGreatDoor
open Go.RowKit
open Plain

/-- A file: its name, its text, how much of it is kept. -/
structure FileV where
  name : ByteArray
  text : ByteArray
  safe : Int
def FileV.cells (f : FileV) : List Value := [.string f.name, .string f.text, .int .i64 f.safe]
/-- The slice v shows these files; what it leads to lies in blocks from base on. -/
structure FRow (w : World) (base : Nat) (a : Option Addr) (len : Nat) (fs : List FileV) : Prop where
  len : fs.length = len
  cells : ∀ i, (h : i < fs.length) → ∃ b off, a = some ⟨b, off, none⟩ ∧ base ≤ b ∧ b < w.heap.size ∧
    w.cell? ⟨b, off + i * 3, none⟩ = some (.string (fs[i]).name) ∧ w.cell? ⟨b, off + i * 3 + 1, none⟩ = some (.string (fs[i]).text) ∧ w.cell? ⟨b, off + i * 3 + 2, none⟩ = some (.int .i64 (fs[i]).safe)
theorem FRow.later {w w' : World} {base K : Nat} {a : Option Addr} {len : Nat} {fs : List FileV} (h : FRow w base a len fs) (hb : Below K w w') (hK : w.heap.size ≤ K) : FRow w' base a len fs where
  len := h.len
  cells := fun i hi => by
    obtain ⟨b, off, h1, h2, h3, h4, h5, h6⟩ := h.cells i hi
    refine ⟨b, off, h1, h2, Nat.lt_of_lt_of_le h3 hb.size, ?_, ?_, ?_⟩
    · rw [hb.cell (p := ⟨b, _, none⟩) (Nat.lt_of_lt_of_le h3 hK)]; exact h4
    · rw [hb.cell (p := ⟨b, _, none⟩) (Nat.lt_of_lt_of_le h3 hK)]; exact h5
    · rw [hb.cell (p := ⟨b, _, none⟩) (Nat.lt_of_lt_of_le h3 hK)]; exact h6

/-- How much a list of files weighs. -/
def szF (f : FileV) : Nat := f.name.size + f.text.size
def szFs : List FileV → Nat
  | [] => 0
  | f :: r => szF f + szFs r
theorem szFs_take_succ (fs : List FileV) (k : Nat) (h : k < fs.length) : szFs (fs.take (k + 1)) = szFs (fs.take k) + szF (fs[k]) := by
  induction fs generalizing k with
  | nil => simp at h
  | cons f r ih =>
    cases k with
    | zero => simp [szFs]
    | succ k =>
      have := ih k (by simpa using h)
      simp [szFs] at this ⊢
      omega
theorem szFs_take_le (fs : List FileV) (k : Nat) : szFs (fs.take k) ≤ szFs fs := by
  induction fs generalizing k with
  | nil => simp [szFs]
  | cons f r ih =>
    cases k with
    | zero => simp [szFs]
    | succ k => simp [szFs]; exact ih k

end Go.Proofs.YthnealhaleccpaaGreatDoor
namespace Go.Proofs.YthnealhaleccpaaGreatDoor
open Go.RowKit
open Plain

def fcells : List FileV → List Value
  | [] => []
  | f :: r => .string f.name :: .string f.text :: .int .i64 f.safe :: fcells r
theorem fcells_length (fs : List FileV) : (fcells fs).length = fs.length * 3 := by
  induction fs with
  | nil => rfl
  | cons f r ih => simp [fcells, ih]; omega
theorem fcells_append (fs gs : List FileV) : fcells (fs ++ gs) = fcells fs ++ fcells gs := by
  induction fs with
  | nil => rfl
  | cons f r ih => simp [fcells, ih]
theorem fcells_get (fs : List FileV) : ∀ i, (h : i < fs.length) → (fcells fs)[i * 3]? = some (.string (fs[i]).name) ∧ (fcells fs)[i * 3 + 1]? = some (.string (fs[i]).text) ∧ (fcells fs)[i * 3 + 2]? = some (.int .i64 (fs[i]).safe) := by
  induction fs with
  | nil => intro i h; simp at h
  | cons f r ih =>
    intro i h
    cases i with
    | zero => simp [fcells]
    | succ i =>
      have := ih i (by simpa using h)
      have e : (i + 1) * 3 = i * 3 + 1 + 1 + 1 := by omega
      rw [e]
      simp only [fcells]
      refine ⟨?_, ?_, ?_⟩
      · simpa using this.1
      · simpa using this.2.1
      · simpa using this.2.2
theorem fcells_set (fs : List FileV) : ∀ i f, i < fs.length → (((fcells fs).set (i * 3) (.string f.name)).set (i * 3 + 1) (.string f.text)).set (i * 3 + 2) (.int .i64 f.safe) = fcells (fs.set i f) := by
  induction fs with
  | nil => intro i f h; simp at h
  | cons g r ih =>
    intro i f h
    cases i with
    | zero => simp [fcells]
    | succ i =>
      have := ih i f (by simpa using h)
      have e : (i + 1) * 3 = i * 3 + 1 + 1 + 1 := by omega
      rw [e]
      simp only [fcells, List.set_cons_succ]
      rw [← this]
def zeroF : FileV := ⟨⟨#[]⟩, ⟨#[]⟩, 0⟩
theorem fcells_zero (n : Nat) : fcells (List.replicate n zeroF) = (madeCells #[.string ⟨#[]⟩, .string ⟨#[]⟩, .int .i64 0] (n * 3)).toList := by
  apply List.ext_getElem?
  intro j
  by_cases hj : j < n * 3
  · have hi : j / 3 < (List.replicate n zeroF).length := by simp; omega
    have hg := fcells_get (List.replicate n zeroF) (j / 3) hi
    simp only [List.getElem_replicate] at hg
    have hm : (madeCells #[.string ⟨#[]⟩, .string ⟨#[]⟩, .int .i64 0] (n * 3)).toList[j]? = some ((#[Value.string ⟨#[]⟩, .string ⟨#[]⟩, .int .i64 0] : Array Value)[j % 3]?.getD default) := by
      simp [madeCells, hj]
    rw [hm]
    have h3 : j % 3 < 3 := Nat.mod_lt _ (by omega)
    rcases (by omega : j % 3 = 0 ∨ j % 3 = 1 ∨ j % 3 = 2) with h | h | h
    · rw [show j = j / 3 * 3 by omega, hg.1]
      simp [zeroF]
    · rw [show j = j / 3 * 3 + 1 by omega, hg.2.1]
      simp [zeroF]
    · rw [show j = j / 3 * 3 + 2 by omega, hg.2.2]
      simp [zeroF]
  · rw [List.getElem?_eq_none (by rw [fcells_length]; simp; omega), List.getElem?_eq_none (by simp [madeCells]; omega)]

/-- The slice v shows these files; they lie in a row of the call's own, from block base on. -/
def FOwn (w : World) (base : Nat) (v : Value) (fs : List FileV) : Prop := w.ownsRow base 73 3 v fs.length (fcells fs)

theorem FOwn.len {w : World} {base : Nat} {a : Option Addr} {n cap : Nat} {fs : List FileV} (h : FOwn w base (.slice a n cap) fs) : fs.length = n := by
  rcases h.2 with ⟨e, h0⟩ | ⟨g, c, cur, e, _⟩
  · simp only [Value.slice.injEq] at e; omega
  · simp only [Value.slice.injEq] at e; omega
theorem FOwn.row {w : World} {base : Nat} {a : Option Addr} {n cap : Nat} {fs : List FileV} (h : FOwn w base (.slice a n cap) fs) : FRow w base a n fs where
  len := h.len
  cells := fun i hi => by
    have hn := h.len
    unfold FOwn at h
    rw [hn] at h
    rcases h.2 with ⟨e, h0⟩ | ⟨g, c, cur, e, hb, hg, _⟩
    · omega
    · simp only [Value.slice.injEq] at e
      obtain ⟨rfl, _, rfl⟩ := e
      have hgl : g < w.heap.size := by
        rcases Nat.lt_or_ge g w.heap.size with h' | h'
        · exact h'
        · rw [Array.getElem?_eq_none h'] at hg; cases hg
      obtain ⟨h1, h2, h3⟩ := fcells_get fs i hi
      refine ⟨g, 0, rfl, hb, hgl, ?_, ?_, ?_⟩
      · rw [Nat.zero_add, h.cellAt _ (by omega), h1]
      · rw [Nat.zero_add, h.cellAt _ (by omega), h2]
      · rw [Nat.zero_add, h.cellAt _ (by omega), h3]
theorem FOwn.later {w w' : World} {base K : Nat} {v : Value} {fs : List FileV} (h : FOwn w base v fs) (hb : Below K w w') (hK : w.heap.size ≤ K) : FOwn w' base v fs := by
  refine ⟨h.1, ?_⟩
  rcases h.2 with h | ⟨g, c, cur, e, hbg, hg, h1⟩
  · exact .inl h
  · have hgl : g < w.heap.size := by
      rcases Nat.lt_or_ge g w.heap.size with h' | h'
      · exact h'
      · rw [Array.getElem?_eq_none h'] at hg; cases hg
    exact .inr ⟨g, c, cur, e, hbg, by rw [hb.block g (by omega)]; exact hg, h1⟩
theorem FOwn.mono {w : World} {base base' : Nat} {v : Value} {fs : List FileV} (h : FOwn w base v fs) (hb : base' ≤ base) : FOwn w base' v fs := by
  refine ⟨h.1, ?_⟩
  rcases h.2 with h | ⟨g, c, cur, e, hbg, h1⟩
  · exact .inl h
  · exact .inr ⟨g, c, cur, e, Nat.le_trans hb hbg, h1⟩
/-- A file put into place i, field by field. -/
def put3 (w : World) (g i : Nat) (f : FileV) : World := ((w.setCell ⟨g, i * 3, none⟩ (.string f.name)).setCell ⟨g, i * 3 + 1, none⟩ (.string f.text)).setCell ⟨g, i * 3 + 2, none⟩ (.int .i64 f.safe)
theorem FOwn.put {w : World} {base g n cap : Nat} {fs : List FileV} (h : FOwn w base (.slice (some ⟨g, 0, none⟩) n cap) fs) (i : Nat) (f : FileV) (hi : i < n) :
    FOwn (put3 w g i f) base (.slice (some ⟨g, 0, none⟩) n cap) (fs.set i f) ∧ w.grownBy (put3 w g i f) (some g) := by
  have hn := h.len
  unfold FOwn at h ⊢
  rw [hn] at h
  rw [List.length_set, hn, ← fcells_set fs i f (by omega)]
  have h1 := h.stored (i * 3) (.string f.name)
  have h2 := h1.1.stored (i * 3 + 1) (.string f.text)
  have h3 := h2.1.stored (i * 3 + 2) (.int .i64 f.safe)
  refine ⟨h3.1, ?_⟩
  have t : ∀ {x y z : World}, x.grownBy y (some g) → y.grownBy z (some g) → x.grownBy z (some g) := fun {x y z} p q =>
    ⟨q.os.trans p.os, q.tape.trans p.tape, q.output.trans p.output, Nat.le_trans p.size q.size, fun i hi hr => (q.block i (Nat.lt_of_lt_of_le hi p.size) hr).trans (p.block i hi hr)⟩
  exact t h1.2 (t h2.2 h3.2)

theorem size_alloc (w : World) (o : Obj) : (w.alloc o).heap.size = w.heap.size + 1 := by simp
/-- Three new blocks. -/
theorem alloc3 (w : World) (o0 o1 o2 : Obj) : (((w.alloc o0).alloc o1).alloc o2).heap.size = w.heap.size + 3 ∧ Below w.heap.size w (((w.alloc o0).alloc o1).alloc o2) ∧
    (((w.alloc o0).alloc o1).alloc o2).heap[w.heap.size]? = some o0 ∧ (((w.alloc o0).alloc o1).alloc o2).heap[w.heap.size + 1]? = some o1 ∧ (((w.alloc o0).alloc o1).alloc o2).heap[w.heap.size + 1 + 1]? = some o2 := by
  refine ⟨by simp, (((Below.refl _ w).alloc (Nat.le_refl _) _).alloc (by simp) _).alloc (by simp; omega) _, ?_, ?_, ?_⟩
  · rw [Below.heap_alloc _ _ _ (by rw [size_alloc, size_alloc]; omega), Below.heap_alloc _ _ _ (by rw [size_alloc]; omega)]
    exact heap_alloc_new w o0
  · rw [Below.heap_alloc _ _ _ (by rw [size_alloc, size_alloc]; omega)]
    have := heap_alloc_new (w.alloc o0) o1
    rw [size_alloc] at this
    exact this
  · have := heap_alloc_new ((w.alloc o0).alloc o1) o2
    rw [size_alloc, size_alloc] at this
    exact this
/-- Two new blocks. -/
theorem alloc2 (w : World) (o0 o1 : Obj) : ((w.alloc o0).alloc o1).heap.size = w.heap.size + 2 ∧ Below w.heap.size w ((w.alloc o0).alloc o1) ∧
    ((w.alloc o0).alloc o1).heap[w.heap.size]? = some o0 ∧ ((w.alloc o0).alloc o1).heap[w.heap.size + 1]? = some o1 := by
  refine ⟨by simp, ((Below.refl _ w).alloc (Nat.le_refl _) _).alloc (by simp) _, ?_, ?_⟩
  · rw [Below.heap_alloc _ _ _ (by rw [size_alloc]; omega)]
    exact heap_alloc_new w o0
  · have := heap_alloc_new (w.alloc o0) o1
    rw [size_alloc] at this
    exact this
/-- Four cells of a block, and that they can be written. -/
theorem cells4 {w : World} {B : Nat} {x0 x1 x2 x3 : Value} {ty : TypeId} (h : w.heap[B]? = some (.cells #[x0, x1, x2, x3] ty (0, 0))) :
    w.cell? ⟨B, 0, none⟩ = some x0 ∧ w.cell? ⟨B, 1, none⟩ = some x1 ∧ w.cell? ⟨B, 2, none⟩ = some x2 ∧ w.cell? ⟨B, 3, none⟩ = some x3 ∧ w.frozen? ⟨B, 0, none⟩ = false ∧ w.frozen? ⟨B, 1, none⟩ = false ∧ w.frozen? ⟨B, 2, none⟩ = false ∧ w.frozen? ⟨B, 3, none⟩ = false := by
  have hf : ∀ j, w.frozen? ⟨B, j, none⟩ = false := fun j => by simp [World.frozen?, h]
  refine ⟨?_, ?_, ?_, ?_, hf 0, hf 1, hf 2, hf 3⟩ <;> rw [cell_of_row w B _ _ _ _ h] <;> rfl
theorem FOwn.setCell {w : World} {base : Nat} {v : Value} {fs : List FileV} (h : FOwn w base v fs) (p : Addr) (u : Value) (hp : p.block < base) : FOwn (w.setCell p u) base v fs := by
  refine ⟨h.1, ?_⟩
  rcases h.2 with h | ⟨g, c, cur, e, hbg, hg, h1⟩
  · exact .inl h
  · exact .inr ⟨g, c, cur, e, hbg, by rw [Below.heap_setCell w p u g (by omega)]; exact hg, h1⟩

end Go.Proofs.YthnealhaleccpaaGreatDoor
namespace Go.Proofs.YthnealhaleccpaaGreatDoor
open Go.RowKit
open Plain

/-- The cursor in block B, at some place. -/
def CurX (w : World) (B : Nat) (a : Option Addr) (len cap : Nat) (zs : List Int) : Prop := ∃ st, CurAt w B a len cap zs st
theorem CurX.lt {w : World} {B : Nat} {a : Option Addr} {len cap : Nat} {zs : List Int} (h : CurX w B a len cap zs) : B < w.heap.size := by obtain ⟨st, h⟩ := h; exact lt_of_block h.row
theorem CurX.below {w w' : World} {B K : Nat} {a : Option Addr} {len cap : Nat} {zs : List Int} (h : CurX w B a len cap zs) (hb : Below K w w') (hK : B < K) : CurX w' B a len cap zs := by obtain ⟨st, h⟩ := h; exact ⟨st, h.below hb hK⟩
/-- Another block is written. -/
theorem CurX.set {w : World} {B : Nat} {a : Option Addr} {len cap : Nat} {zs : List Int} (h : CurX w B a len cap zs) (p : Addr) (v : Value) (hp : B < p.block) : CurX (w.setCell p v) B a len cap zs := by
  obtain ⟨st, h⟩ := h
  exact ⟨st, h.below (K := B + 1) ((Below.refl _ _).setCell (by omega) _) (by omega)⟩

set_option maxRecDepth 100000 in
set_option maxHeartbeats 1000000 in
theorem pick_any (xs : List ByteArray) (g : Nat) (hx : 0 < xs.length) (hx2 : xs.length ≤ 100) (w : World) (B : Nat) (a : Option Addr) (len cap : Nat) (zs : List Int) (hc : CurX w B a len cap zs) (hgB : g ≠ B) (hrow : ∀ j, (h : j < xs.length) → w.cell? ⟨g, j, none⟩ = some (.string (xs[j]))) :
    Calls Tryz.prog 62 #[.pointer (some ⟨B, 0, none⟩), .slice (some ⟨g, 0, none⟩) xs.length xs.length] w fun e w' => (∃ s, s ∈ xs ∧ e = .returned (.string s)) ∧ CurX w' B a len cap zs ∧ w.grownBy w' (some B) := by
  obtain ⟨st, hc⟩ := hc
  have HC := hide hc
  have HR := hide hrow
  clear hc hrow
  go_enter Tryz.func62, Tryz.ntmps62
  go_wp2_with fail
  refine (below_any (xs.length : Int) w B a len cap zs st HC.out).mono ?_
  rintro e w1 ⟨rfl, hc1, hg1⟩
  have hb := lV_bd zs (xs.length : Int) st (by omega)
  obtain ⟨k, hk⟩ := Int.eq_ofNat_of_zero_le hb.1
  rw [hk] at hb ⊢
  have hkl : k < xs.length := by omega
  have hcell : w1.cell? ⟨g, k, none⟩ = some (.string (xs[k])) := hg1.cell (HR.out k hkl) (fun e => hgB (by injection e))
  have HC1 := hide hc1
  have HG1 := hide hg1
  have hk2 : (k : Int) < (xs.length : Int) := by omega
  clear hc1 hg1 hk hb
  go_wp2
  go_ret
  exact ⟨⟨_, List.getElem_mem hkl, rfl⟩, ⟨_, HC1.out⟩, HG1.out⟩

set_option maxRecDepth 100000 in
set_option maxHeartbeats 1000000 in
theorem pickInt_any (xs : List Int) (g : Nat) (hx : 0 < xs.length) (hx2 : xs.length ≤ 100) (w : World) (B : Nat) (a : Option Addr) (len cap : Nat) (zs : List Int) (hc : CurX w B a len cap zs) (hgB : g ≠ B) (hrow : ∀ j, (h : j < xs.length) → w.cell? ⟨g, j, none⟩ = some (.int .i64 (xs[j]))) :
    Calls Tryz.prog 30 #[.pointer (some ⟨B, 0, none⟩), .slice (some ⟨g, 0, none⟩) xs.length xs.length] w fun e w' => (∃ s, s ∈ xs ∧ e = .returned (.int .i64 s)) ∧ CurX w' B a len cap zs ∧ w.grownBy w' (some B) := by
  obtain ⟨st, hc⟩ := hc
  have HC := hide hc
  have HR := hide hrow
  clear hc hrow
  go_enter Tryz.func30, Tryz.ntmps30
  go_wp2_with fail
  refine (below_any (xs.length : Int) w B a len cap zs st HC.out).mono ?_
  rintro e w1 ⟨rfl, hc1, hg1⟩
  have hb := lV_bd zs (xs.length : Int) st (by omega)
  obtain ⟨k, hk⟩ := Int.eq_ofNat_of_zero_le hb.1
  rw [hk] at hb ⊢
  have hkl : k < xs.length := by omega
  have hcell : w1.cell? ⟨g, k, none⟩ = some (.int .i64 (xs[k])) := hg1.cell (HR.out k hkl) (fun e => hgB (by injection e))
  have HC1 := hide hc1
  have HG1 := hide hg1
  have hk2 : (k : Int) < (xs.length : Int) := by omega
  clear hc1 hg1 hk hb
  go_wp2
  go_ret
  exact ⟨⟨_, List.getElem_mem hkl, rfl⟩, ⟨_, HC1.out⟩, HG1.out⟩

theorem row_strs (w : World) (xs : List ByteArray) : ∀ j, (h : j < xs.length) → (w.alloc (.cells ((xs.map Value.string).toArray) 9)).cell? ⟨w.heap.size, j, none⟩ = some (.string (xs[j])) := fun j h => by
  rw [cell_of_row _ _ _ _ _ _ (heap_alloc_new w _)]
  simp [h]
theorem row_ints (w : World) (xs : List Int) : ∀ j, (h : j < xs.length) → (w.alloc (.cells ((xs.map (Value.int .i64)).toArray) 3)).cell? ⟨w.heap.size, j, none⟩ = some (.int .i64 (xs[j])) := fun j h => by
  rw [cell_of_row _ _ _ _ _ _ (heap_alloc_new w _)]
  simp [h]
theorem grown_new {w w1 : World} {o : Obj} {B : Nat} (h : (w.alloc o).grownBy w1 (some B)) : w.grownBy w1 (some B) := grown_trans (World.grownBy_alloc w o (some B)) h

set_option maxRecDepth 100000 in
set_option maxHeartbeats 1000000 in
theorem name3_any (w : World) (B : Nat) (a : Option Addr) (len cap : Nat) (zs : List Int) (hc : CurX w B a len cap zs) :
    Calls Tryz.prog 82 #[.pointer (some ⟨B, 0, none⟩)] w fun e w' => (∃ s : ByteArray, s.size ≤ 5 ∧ e = .returned (.string s)) ∧ CurX w' B a len cap zs ∧ w.grownBy w' (some B) := by
  have hB := hc.lt
  have HC := hide hc
  clear hc
  go_enter Tryz.func82, Tryz.ntmps82
  go_wp2_with fail
  refine (pick_any [⟨#[108, 105, 118, 101]⟩, ⟨#[115, 101, 103, 49]⟩, ⟨#[115, 101, 103, 50]⟩, ⟨#[115, 101, 103, 51]⟩, ⟨#[116, 101, 109, 112]⟩, ⟨#[104, 105, 110, 116, 49]⟩, ⟨#[120]⟩, ⟨#[97, 57]⟩] w.heap.size (by simp) (by simp) _ B a len cap zs (HC.out.below ((Below.refl _ _).alloc (Nat.le_refl _) _) hB) (by omega) (row_strs w _)).mono ?_
  rintro e w1 ⟨⟨s, hs, rfl⟩, hc1, hg1⟩
  have HC1 := hide hc1
  have HG1 := hide (grown_new hg1)
  have HS : Hid (s.size ≤ 5) := hide (by
    simp only [List.mem_cons, List.not_mem_nil, or_false] at hs
    rcases hs with rfl | rfl | rfl | rfl | rfl | rfl | rfl | rfl <;> decide)
  clear hc1 hg1 hs
  go_wp2
  go_ret
  exact ⟨⟨s, HS.out, rfl⟩, HC1.out, HG1.out⟩

end Go.Proofs.YthnealhaleccpaaGreatDoor
namespace Go.Proofs.YthnealhaleccpaaGreatDoor
open Go.RowKit
open Plain

theorem FileV.ext' {f g : FileV} (h1 : f.name = g.name) (h2 : f.text = g.text) (h3 : f.safe = g.safe) : f = g := by
  cases f; cases g; simp_all
def eqFB (f g : FileV) : Bool := decide (f.name = g.name ∧ f.text = g.text ∧ f.safe = g.safe)
theorem eqFB_iff (f g : FileV) : eqFB f g = true ↔ f = g := by
  unfold eqFB
  rw [decide_eq_true_iff]
  exact ⟨fun h => FileV.ext' h.1 h.2.1 h.2.2, fun h => by subst h; exact ⟨rfl, rfl, rfl⟩⟩
theorem eqFB_yes {f g : FileV} (h : f = g) : eqFB f g = true := (eqFB_iff f g).2 h
theorem eqFB_no {f g : FileV} (h : ¬ f = g) : eqFB f g = false := Bool.eq_false_iff.2 (fun e => h ((eqFB_iff f g).1 e))
def eqFsB : List FileV → List FileV → Bool
  | [], [] => true
  | f :: r, g :: t => eqFB f g && eqFsB r t
  | [], _ :: _ => false
  | _ :: _, [] => false
theorem eqFsB_iff : ∀ fs gs : List FileV, eqFsB fs gs = true ↔ fs = gs
  | [], [] => ⟨fun _ => rfl, fun _ => rfl⟩
  | f :: r, g :: t => by
    unfold eqFsB
    rw [Bool.and_eq_true, eqFB_iff, eqFsB_iff r t, List.cons.injEq]
  | [], _ :: _ => ⟨fun h => (Bool.noConfusion h), fun h => (by cases h)⟩
  | _ :: _, [] => ⟨fun h => (Bool.noConfusion h), fun h => (by cases h)⟩
theorem eqFsB_yes {fs gs : List FileV} (h : fs = gs) : eqFsB fs gs = true := (eqFsB_iff fs gs).2 h
theorem eqFsB_no {fs gs : List FileV} (h : ¬ fs = gs) : eqFsB fs gs = false := Bool.eq_false_iff.2 (fun e => h ((eqFsB_iff fs gs).1 e))
theorem toList_inj {a b : ByteArray} (h : a.toList = b.toList) : a = b := by
  rw [ByteArray.toList_eq, ByteArray.toList_eq] at h
  cases a; cases b
  simp at h
  subst h
  rfl
theorem str_eq (a b : ByteArray) (h : a = b) : (a.toList == b.toList) = true := by subst h; simp
theorem str_ne (a b : ByteArray) (h : ¬ a = b) : (a.toList == b.toList) = false := by
  simp
  intro e
  exact h (toList_inj e)
def eqDB (fs gs : List FileV) (c c' u u' : Int) (d d' : Bool) : Bool := eqFsB fs gs && decide (c = c' ∧ u = u' ∧ d = d')
theorem eqDB_iff (fs gs : List FileV) (c c' u u' : Int) (d d' : Bool) : eqDB fs gs c c' u u' d d' = true ↔ (fs = gs ∧ c = c' ∧ u = u' ∧ d = d') := by unfold eqDB; rw [Bool.and_eq_true, eqFsB_iff, decide_eq_true_iff]

end Go.Proofs.YthnealhaleccpaaGreatDoor
namespace Go.Proofs.YthnealhaleccpaaGreatDoor
open Go.RowKit
open Plain

def usedF : List FileV → Nat
  | [] => 0
  | f :: r => f.text.size + usedF r
theorem usedF_take_succ (fs : List FileV) (k : Nat) (h : k < fs.length) : usedF (fs.take (k + 1)) = usedF (fs.take k) + (fs[k]).text.size := by
  induction fs generalizing k with
  | nil => simp at h
  | cons f r ih =>
    cases k with
    | zero => simp [usedF]
    | succ k =>
      have := ih k (by simpa using h)
      simp [usedF] at this ⊢
      omega
theorem usedF_take_le (fs : List FileV) (k : Nat) : usedF (fs.take k) ≤ usedF fs := by
  induction fs generalizing k with
  | nil => simp [usedF]
  | cons f r ih =>
    cases k with
    | zero => simp [usedF]
    | succ k => simp [usedF]; exact ih k
theorem usedF_le_sz (fs : List FileV) : usedF fs ≤ szFs fs := by
  induction fs with
  | nil => simp [usedF]
  | cons f r ih => simp [usedF, szFs, szF]; omega

/-- A disk's block: what a struct that came in is boxed as. -/
theorem box4 (w : World) (x0 x1 x2 x3 : Value) (ty : TypeId) : Below w.heap.size w (w.alloc (.cells #[x0, x1, x2, x3] ty)) ∧ (w.alloc (.cells #[x0, x1, x2, x3] ty)).heap[w.heap.size]? = some (.cells #[x0, x1, x2, x3] ty (0, 0)) :=
  ⟨(Below.refl _ w).alloc (Nat.le_refl _) _, heap_alloc_new w _⟩

set_option maxRecDepth 100000 in
set_option maxHeartbeats 1000000 in
theorem specUsed_any (w : World) (a : Option Addr) (n cap : Nat) (fs : List FileV) (hr : FRow w 0 a n fs) (hn : n ≤ 1099511627776) (hu : usedF fs ≤ 1099511627776) (c u : Int) (d : Bool) :
    Calls Tryz.prog 61 #[.agg #[.slice a n cap, .int .i64 c, .int .i64 u, .bool d]] w fun e w' => e = .returned (.int .i64 (usedF fs)) ∧ Below w.heap.size w w' := by
  have hbx := box4 w (.slice a n cap) (.int .i64 c) (.int .i64 u) (.bool d) 39
  have HR := hide (hr.later hbx.1 (Nat.le_refl _))
  have HB := hide hbx.1
  have hlen := hr.len
  obtain ⟨c0, -⟩ := cells4 hbx.2
  clear hr hbx
  go_enter Tryz.func61, Tryz.ntmps61
  go_wp2
  go_loop [3, 4] (fun v i => ∃ k : Nat, k ≤ n ∧ i = .int .i64 k ∧ v = .int .i64 (usedF (fs.take k) : Nat)) (fun _ i => n - (intOf i).toNat)
  case atStart => exact ⟨0, by omega, rfl, by simp [usedF]⟩
  case round =>
    obtain ⟨k, hk, rfl, rfl⟩ := hrel
    by_cases hlt : k < n
    · have hkf : k < fs.length := by omega
      obtain ⟨b, off, rfl, -, hbw, e1, e2, e3⟩ := HR.out.cells k hkf
      have hst := hide (usedF_take_succ fs k hkf)
      have hle := usedF_take_le fs (k + 1)
      have hst2 := hst.out
      have hS : usedF (fs.take k) + (fs[k]).text.size ≤ 1099511627776 := by omega
      clear hle hst2
      generalize usedF (fs.take k) = S at *
      go_wp2
      go_round
      case rel => exact ⟨k + 1, by omega, by go_num, by rw [hst.out]; go_num⟩
      case measure => first | (simp [intOf]; done) | (simp [intOf]; omega)
    · obtain rfl : k = n := by omega
      rw [List.take_of_length_le (by omega)]
      go_wp2
      go_ret
      exact ⟨rfl, HB.out⟩

/-- The place of the first file of that name; -1 where there is none. -/
def findF (fs : List FileV) (nm : ByteArray) : Int := match fs.findIdx? (fun f => decide (f.name = nm)) with
  | some i => (i : Int)
  | none => -1
theorem findF_hit (fs : List FileV) (nm : ByteArray) (k : Nat) (h : k < fs.length) (hb : ∀ j, (hj : j < k) → ¬ (fs[j]).name = nm) (he : (fs[k]).name = nm) : findF fs nm = (k : Int) := by
  unfold findF
  have : fs.findIdx? (fun f => decide (f.name = nm)) = some k := by
    rw [List.findIdx?_eq_some_iff_getElem]
    exact ⟨h, by simpa using he, fun j hj => by simpa using hb j hj⟩
  rw [this]
theorem findF_miss (fs : List FileV) (nm : ByteArray) (hb : ∀ j, (hj : j < fs.length) → ¬ (fs[j]).name = nm) : findF fs nm = -1 := by
  unfold findF
  have : fs.findIdx? (fun f => decide (f.name = nm)) = none := by
    rw [List.findIdx?_eq_none_iff]
    intro x hx
    obtain ⟨j, hj, rfl⟩ := List.getElem_of_mem hx
    simpa using hb j hj
  rw [this]

set_option maxRecDepth 100000 in
set_option maxHeartbeats 1000000 in
theorem specFind_any (w : World) (a : Option Addr) (n cap : Nat) (fs : List FileV) (hr : FRow w 0 a n fs) (hn : n ≤ 1099511627776) (c u : Int) (d : Bool) (nm : ByteArray) :
    Calls Tryz.prog 97 #[.agg #[.slice a n cap, .int .i64 c, .int .i64 u, .bool d], .string nm] w fun e w' => e = .returned (.int .i64 (findF fs nm)) ∧ Below w.heap.size w w' := by
  have hbx := box4 w (.slice a n cap) (.int .i64 c) (.int .i64 u) (.bool d) 39
  have HR := hide (hr.later hbx.1 (Nat.le_refl _))
  have HB := hide hbx.1
  have hlen := hr.len
  obtain ⟨c0, -⟩ := cells4 hbx.2
  clear hr hbx
  go_enter Tryz.func97, Tryz.ntmps97
  go_wp2
  go_loop [5] (fun i => ∃ k : Nat, k ≤ n ∧ i = .int .i64 k ∧ Hid (∀ j, (hj : j < k) → (hj2 : j < fs.length) → ¬ (fs[j]).name = nm)) (fun i => n - (intOf i).toNat)
  case atStart => exact ⟨0, by omega, rfl, hide (fun j hj => absurd hj (by omega))⟩
  case round =>
    obtain ⟨k, hk, rfl, HN⟩ := hrel
    by_cases hlt : k < n
    · have hkf : k < fs.length := by omega
      obtain ⟨b, off, rfl, -, hbw, e1, e2, e3⟩ := HR.out.cells k hkf
      by_cases he : (fs[k]).name = nm
      · have k1 := str_eq _ _ he
        have HV := hide (findF_hit fs nm k hkf (fun j hj => HN.out j hj (by omega)) he)
        clear he
        go_wp2
        go_ret
        exact ⟨by rw [HV.out]; rfl, HB.out⟩
      · have k1 := str_ne _ _ he
        have HN2 : Hid (∀ j, (hj : j < k + 1) → (hj2 : j < fs.length) → ¬ (fs[j]).name = nm) := hide (fun j hj hj2 => by
          by_cases h : j = k
          · subst h; exact he
          · exact HN.out j (by omega) hj2)
        clear he HN
        go_wp2
        go_round
        case rel => exact ⟨k + 1, by omega, by go_num, HN2⟩
        case measure => first | (simp [intOf]; done) | (simp [intOf]; omega)
    · have HV := hide (findF_miss fs nm (fun j hj => HN.out j (by omega) hj))
      clear HN
      go_wp2
      go_ret
      exact ⟨by rw [HV.out]; rfl, HB.out⟩

end Go.Proofs.YthnealhaleccpaaGreatDoor
namespace Go.Proofs.YthnealhaleccpaaGreatDoor
open Go.RowKit
open Plain

set_option maxHeartbeats 400000 in
theorem in_any (x lo hi : Int) (w : World) :
    Calls Tryz.prog 29 #[.int .i64 x, .int .i64 lo, .int .i64 hi] w fun e w' => e = .returned (.bool (decide (lo ≤ x ∧ x ≤ hi))) ∧ w = w' := by
  by_cases h1 : lo ≤ x
  · by_cases h2 : x ≤ hi
    all_goals
      go_enter Tryz.func29, Tryz.ntmps29
      go_wp2
      go_ret
      exact ⟨by simp [h1, h2], rfl⟩
  · have h3 : decide (lo ≤ x) = false := by simpa using h1
    go_enter Tryz.func29, Tryz.ntmps29
    go_wp2
    go_ret
    exact ⟨by first | (simp; done) | (simp; omega), rfl⟩

end Go.Proofs.YthnealhaleccpaaGreatDoor
namespace Go.Proofs.YthnealhaleccpaaGreatDoor
open Go.RowKit
open Plain

def nmB (b : Nat) : Bool := (decide (97 ≤ b) && decide (b ≤ 122)) || (decide (48 ≤ b) && decide (b ≤ 57))
def nameOk (s : ByteArray) : Bool := (bl s).all nmB && decide (1 ≤ s.size ∧ s.size ≤ 12)
theorem all_take_succ (s : ByteArray) (k : Nat) (h : k < s.size) : ((bl s).take (k + 1)).all nmB = (((bl s).take k).all nmB && nmB s[k].toNat) := by
  rw [bl_take_succ s k h, List.all_append]
  simp

set_option maxRecDepth 100000 in
set_option maxHeartbeats 1000000 in
theorem specName_any (s : ByteArray) (w : World) (hs : s.size ≤ 1099511627776) :
    Calls Tryz.prog 67 #[.string s] w fun e w' => e = .returned (.bool (nameOk s)) ∧ w = w' := by
  go_enter Tryz.func67, Tryz.ntmps67
  go_wp2
  go_loop [3] (fun i => ∃ k : Nat, k ≤ s.size ∧ i = .int .i64 k ∧ Hid (((bl s).take k).all nmB = true)) (fun i => s.size - (intOf i).toNat)
  case atStart => exact ⟨0, by omega, rfl, hide (by simp)⟩
  case round =>
    obtain ⟨k, hk, rfl, HA⟩ := hrel
    by_cases hlt : k < s.size
    · have hb := UInt8.toNat_lt s[k]
      have HS := hide (all_take_succ s k hlt)
      have HN : Hid (nmB s[k].toNat = true → ((bl s).take (k + 1)).all nmB = true) := hide (fun h => by rw [HS.out, HA.out, h]; rfl)
      have HF : Hid (nmB s[k].toNat = false → nameOk s = false) := hide (fun h => by
        unfold nameOk
        have h2 : (bl s).all nmB = false := by
          cases hall : (bl s).all nmB with
          | false => rfl
          | true =>
            have h3 := List.all_eq_true.1 hall (s[k].toNat) (by
              have := bl_get s k hlt
              exact List.mem_of_getElem? this)
            rw [h] at h3
            cases h3
        rw [h2]
        rfl)
      clear HS HA
      by_cases c1 : 97 ≤ s[k].toNat
      · by_cases c2 : s[k].toNat ≤ 122
        · have HN2 := hide (HN.out (by simp [nmB, c1, c2]))
          have d1 : decide ((97 : Int) ≤ (s[k].toNat : Int)) = true := by simp; omega
          have d2 : decide ((s[k].toNat : Int) ≤ 122) = true := by simp; omega
          go_wp2
          go_round
          case rel => exact ⟨k + 1, by omega, by go_num, HN2⟩
          case measure => first | (simp [intOf]; done) | (simp [intOf]; omega)
        · have HF2 := hide (HF.out (by simp [nmB]; omega))
          have d1 : decide ((97 : Int) ≤ (s[k].toNat : Int)) = true := by simp; omega
          have d2 : decide ((s[k].toNat : Int) ≤ 122) = false := by simp; omega
          have d3 : decide ((48 : Int) ≤ (s[k].toNat : Int)) = true := by simp; omega
          have d4 : decide ((s[k].toNat : Int) ≤ 57) = false := by simp; omega
          go_wp2
          go_ret
          exact ⟨by rw [HF2.out]; rfl, rfl⟩
      · by_cases c3 : 48 ≤ s[k].toNat
        · by_cases c4 : s[k].toNat ≤ 57
          · have HN2 := hide (HN.out (by simp [nmB, c3, c4]))
            have d1 : decide ((97 : Int) ≤ (s[k].toNat : Int)) = false := by simp; omega
            have d3 : decide ((48 : Int) ≤ (s[k].toNat : Int)) = true := by simp; omega
            have d4 : decide ((s[k].toNat : Int) ≤ 57) = true := by simp; omega
            go_wp2
            go_round
            case rel => exact ⟨k + 1, by omega, by go_num, HN2⟩
            case measure => first | (simp [intOf]; done) | (simp [intOf]; omega)
          · have HF2 := hide (HF.out (by simp [nmB]; omega))
            have d1 : decide ((97 : Int) ≤ (s[k].toNat : Int)) = false := by simp; omega
            have d3 : decide ((48 : Int) ≤ (s[k].toNat : Int)) = true := by simp; omega
            have d4 : decide ((s[k].toNat : Int) ≤ 57) = false := by simp; omega
            go_wp2
            go_ret
            exact ⟨by rw [HF2.out]; rfl, rfl⟩
        · have HF2 := hide (HF.out (by simp [nmB]; omega))
          have d1 : decide ((97 : Int) ≤ (s[k].toNat : Int)) = false := by simp; omega
          have d3 : decide ((48 : Int) ≤ (s[k].toNat : Int)) = false := by simp; omega
          go_wp2
          go_ret
          exact ⟨by rw [HF2.out]; rfl, rfl⟩
    · obtain rfl : k = s.size := by omega
      have HL : Hid (nameOk s = decide ((1 : Int) ≤ (s.size : Int) ∧ (s.size : Int) ≤ 12)) := hide (by
        have h := HA.out
        rw [List.take_of_length_le (by rw [bl_length]; exact Nat.le_refl _)] at h
        unfold nameOk
        rw [h, Bool.true_and]
        apply decide_eq_decide.2
        omega)
      go_wp2_with fail
      refine (in_any (s.size : Int) 1 12 w).mono ?_
      rintro e w2 ⟨rfl, rfl⟩
      rw [← HL.out]
      go_wp2
      go_ret
      exact ⟨rfl, rfl⟩

end Go.Proofs.YthnealhaleccpaaGreatDoor
namespace Go.Proofs.YthnealhaleccpaaGreatDoor
open Go.RowKit
open Plain

def inB (lo x hi : Int) : Bool := decide (lo ≤ x ∧ x ≤ hi)
theorem inB_yes {lo x hi : Int} (h : lo ≤ x ∧ x ≤ hi) : inB lo x hi = true := by simp [inB, h]
theorem inB_no {lo x hi : Int} (h : ¬ (lo ≤ x ∧ x ≤ hi)) : inB lo x hi = false := by unfold inB; simpa using h
theorem in_anyB (x lo hi : Int) (w : World) :
    Calls Tryz.prog 29 #[.int .i64 x, .int .i64 lo, .int .i64 hi] w fun e w' => e = .returned (.bool (inB lo x hi)) ∧ w = w' := in_any x lo hi w

/-- Is one text not behind the other one? -/
def sle (a b : ByteArray) : Bool := Op.bytesLess a.toList b.toList || a.toList == b.toList
def okF (f : FileV) : Bool := nameOk f.name && inB 0 f.safe f.text.size
def okAt (fs : List FileV) (i : Nat) : Bool := okF (fs.getD i zeroF) && (decide (i = 0) || !(sle (fs.getD i zeroF).name (fs.getD (i - 1) zeroF).name))
def okAll (fs : List FileV) : Bool := (List.range fs.length).all (okAt fs)
def headOk (fs : List FileV) (c u : Int) : Bool := decide (fs.length ≤ 130) && (inB 0 c 100000 && (inB (-1) u 100000 && decide ((usedF fs : Int) ≤ c)))
def diskOk (fs : List FileV) (c u : Int) : Bool := headOk fs c u && okAll fs
theorem okAll_bad (fs : List FileV) (i : Nat) (hi : i < fs.length) (h : okAt fs i = false) : okAll fs = false := by
  cases ha : okAll fs with
  | false => rfl
  | true =>
    have := List.all_eq_true.1 ha i (by simpa using hi)
    rw [h] at this
    cases this
theorem okAll_good (fs : List FileV) (h : ∀ i, i < fs.length → okAt fs i = true) : okAll fs = true := List.all_eq_true.2 (fun i hi => h i (by simpa using hi))

theorem szF_le (fs : List FileV) : ∀ k, (h : k < fs.length) → szF (fs[k]) ≤ szFs fs := by
  induction fs with
  | nil => intro k h; simp at h
  | cons f r ih =>
    intro k h
    cases k with
    | zero => simp [szFs]
    | succ k =>
      have := ih k (by simpa using h)
      simp [szFs]
      omega
theorem name_le (fs : List FileV) (k : Nat) (h : k < fs.length) : (fs[k]).name.size ≤ szFs fs := by have := szF_le fs k h; unfold szF at this; omega
theorem text_le (fs : List FileV) (k : Nat) (h : k < fs.length) : (fs[k]).text.size ≤ szFs fs := by have := szF_le fs k h; unfold szF at this; omega
end Go.Proofs.YthnealhaleccpaaGreatDoor
namespace Go.Proofs.YthnealhaleccpaaGreatDoor
open Go.RowKit
open Plain

theorem bytesLess_lt : ∀ (x y : List UInt8), Op.bytesLess x y = decide (x < y)
  | x, [] => by simp [Op.bytesLess]
  | [], b :: y => by simp [Op.bytesLess]
  | a :: x, b :: y => by
    rw [Op.bytesLess, bytesLess_lt x y]
    simp only [List.cons_lt_cons_iff]
    by_cases h1 : a < b <;> by_cases h2 : a = b <;> by_cases h3 : x < y <;> simp [h1, h2, h3]
theorem sle_less (a b : ByteArray) : sle a b = !(Op.bytesLess b.toList a.toList) := by
  unfold sle
  rw [bytesLess_lt, bytesLess_lt]
  by_cases h1 : a.toList < b.toList
  · have h2 : ¬ b.toList < a.toList := List.lt_asymm h1
    simp [h1, h2]
  · by_cases h3 : a.toList = b.toList
    · rw [h3]; simp [List.lt_irrefl]
    · have h2 : b.toList < a.toList := by
        rcases List.le_iff_lt_or_eq.1 (List.not_lt.1 h1) with h | h
        · exact h
        · exact absurd h.symm h3
      simp [h2, h3, List.lt_asymm h2]

end Go.Proofs.YthnealhaleccpaaGreatDoor
namespace Go.Proofs.YthnealhaleccpaaGreatDoor
open Go.RowKit
open Plain

theorem tl (x : ByteArray) : x.toList = x.data.toList := Lib.toList_data x

end Go.Proofs.YthnealhaleccpaaGreatDoor
namespace Go.Proofs.YthnealhaleccpaaGreatDoor
open Go.RowKit
open Plain

theorem name_of_data {a b : ByteArray} (h : a.data.toList = b.data.toList) : a = b := by
  obtain ⟨⟨x⟩⟩ := a
  obtain ⟨⟨y⟩⟩ := b
  simp at h
  rw [h]
/-- Files in the order of their names. -/
def Rising (S : List FileV) : Prop := S.Pairwise (fun f g => f.name.data.toList < g.name.data.toList)
theorem okAt_of {fs : List FileV} {c u : Int} (h : diskOk fs c u = true) : ∀ i, i < fs.length → okAt fs i = true := by
  intro i hi
  unfold diskOk at h
  rw [Bool.and_eq_true] at h
  exact List.all_eq_true.1 h.2 i (by simpa using hi)
theorem len_of {fs : List FileV} {c u : Int} (h : diskOk fs c u = true) : fs.length ≤ 130 ∧ -1 ≤ u ∧ 0 ≤ c ∧ c ≤ 100000 ∧ (usedF fs : Int) ≤ c := by
  unfold diskOk headOk at h
  simp only [Bool.and_eq_true, decide_eq_true_eq] at h
  obtain ⟨⟨h1, h2, h3, h4⟩, _⟩ := h
  unfold inB at h2 h3
  simp only [decide_eq_true_eq] at h2 h3
  exact ⟨h1, h3.1, h2.1, h2.2, h4⟩
theorem rising_of {fs : List FileV} {c u : Int} (h : diskOk fs c u = true) : Rising fs := by
  have hk := okAt_of h
  have step : ∀ i, (hi : i + 1 < fs.length) → (fs[i]).name.data.toList < (fs[i + 1]).name.data.toList := fun i hi => by
    have h1 := hk (i + 1) hi
    unfold okAt at h1
    have e1 : fs.getD (i + 1) zeroF = fs[i + 1] := by simp [List.getD, hi]
    have e2 : fs.getD (i + 1 - 1) zeroF = fs[i] := by simp [List.getD, show i < fs.length by omega]
    rw [e1, e2] at h1
    simp only [Bool.and_eq_true, Bool.or_eq_true, decide_eq_true_eq, Nat.add_eq_zero_iff, Nat.one_ne_zero, and_false, false_or, Bool.not_eq_true'] at h1
    have h2 := h1.2
    rw [sle_less, bytesLess_lt] at h2
    have h3 := of_decide_eq_true (by simpa using h2 : decide ((fs[i]).name.toList < (fs[i + 1]).name.toList) = true)
    rw [tl, tl] at h3
    exact h3
  have far : ∀ k i, (hi : i + k + 1 < fs.length) → (fs[i]).name.data.toList < (fs[i + k + 1]).name.data.toList := by
    intro k
    induction k with
    | zero => intro i hi; exact step i hi
    | succ k ih => intro i hi; exact List.lt_trans (ih i (by omega)) (step (i + k + 1) hi)
  unfold Rising
  rw [List.pairwise_iff_getElem]
  intro i j hi hj hij
  obtain ⟨k, rfl⟩ : ∃ k, j = i + k + 1 := ⟨j - i - 1, by omega⟩
  exact far k i hj
theorem findF_none {fs : List FileV} {nm : ByteArray} (h : findF fs nm < 0) : ∀ g, g ∈ fs → g.name ≠ nm := by
  intro g hg e
  obtain ⟨j, hj, rfl⟩ := List.mem_iff_getElem.1 hg
  unfold findF at h
  cases hf : fs.findIdx? (fun f => decide (f.name = nm)) with
  | none =>
    rw [List.findIdx?_eq_none_iff] at hf
    have := hf _ (List.getElem_mem hj)
    simp [e] at this
  | some i => rw [hf] at h; simp at h; omega
theorem findF_name {fs : List FileV} {nm : ByteArray} (h : ¬ findF fs nm < 0) : ∃ k : Nat, findF fs nm = (k : Int) ∧ ∃ hk : k < fs.length, (fs[k]).name = nm := by
  unfold findF at *
  cases hf : fs.findIdx? (fun f => decide (f.name = nm)) with
  | none => rw [hf] at h; simp at h
  | some i =>
    rw [List.findIdx?_eq_some_iff_getElem] at hf
    obtain ⟨h1, h2, _⟩ := hf
    exact ⟨i, rfl, h1, by simpa using h2⟩
theorem getD_of {fs : List FileV} {k : Nat} (hk : k < fs.length) : fs.getD k zeroF = fs[k] := by simp [List.getD, hk]

end Go.Proofs.YthnealhaleccpaaGreatDoor
namespace Go.Proofs.YthnealhaleccpaaGreatDoor
open Go.RowKit
open Plain

theorem Tryz.infoF : (Tryz.prog.info? 73).map (fun i => (i.zero, i.size, i.bytes)) = some (some (.agg #[.string ⟨#[]⟩, .string ⟨#[]⟩, .int .i64 0]), 3, 40) := by kernel_rfl
theorem take_set_succ (gs fs : List FileV) (k : Nat) (hk : k < fs.length) (hg : k < gs.length) (h : gs.take k = fs.take k) : (gs.set k (fs[k])).take (k + 1) = fs.take (k + 1) := by
  rw [List.take_succ_eq_append_getElem (by rw [List.length_set]; exact hg), List.take_succ_eq_append_getElem hk, List.take_set_of_le (Nat.le_refl _), h]
  simp

end Go.Proofs.YthnealhaleccpaaGreatDoor
namespace Go.Proofs.YthnealhaleccpaaGreatDoor
open Go.RowKit
open Plain

theorem own_later {w w' : World} {base e sz n K : Nat} {v : Value} {xs : List Value} (h : w.ownsRow base e sz v n xs) (hb : Below K w w') (hK : w.heap.size ≤ K) : w'.ownsRow base e sz v n xs := by
  refine ⟨h.1, ?_⟩
  rcases h.2 with h | ⟨g, c, cur, e, hbg, hg, h1⟩
  · exact .inl h
  · have hgl : g < w.heap.size := by
      rcases Nat.lt_or_ge g w.heap.size with h' | h'
      · exact h'
      · rw [Array.getElem?_eq_none h'] at hg; cases hg
    exact .inr ⟨g, c, cur, e, hbg, by rw [hb.block g (by omega)]; exact hg, h1⟩
theorem below_grown {w w' : World} (r : Option Nat) (h : Below w.heap.size w w') : w.grownBy w' r := ⟨h.os, h.tape, h.output, h.size, fun k hk _ => h.block k hk⟩
theorem grown_chain {a b c : World} {r : Option Nat} (h : a.grownBy b r) (k : b.grownBy c r) : a.grownBy c r :=
  ⟨k.os.trans h.os, k.tape.trans h.tape, k.output.trans h.output, Nat.le_trans h.size k.size, fun i hi hr => (k.block i (Nat.lt_of_lt_of_le hi h.size) hr).trans (h.block i hi hr)⟩
theorem grown_refl (w : World) (r : Option Nat) : w.grownBy w r := ⟨rfl, rfl, rfl, Nat.le_refl _, fun _ _ _ => rfl⟩
/-- A cell of a row of the call's own: it is there, and can be written. -/
theorem own_cell {w : World} {base e g n cap : Nat} {xs : List Value} (h : w.ownsRow base e 3 (.slice (some ⟨g, 0, none⟩) n cap) n xs) (j : Nat) (hj : j < n * 3) : (∃ u, w.cell? ⟨g, j, none⟩ = some u) ∧ w.frozen? ⟨g, j, none⟩ = false := by
  refine ⟨?_, h.frozenAt j⟩
  rw [h.cellAt j hj]
  have : j < xs.length := by rw [h.1]; exact hj
  exact ⟨_, List.getElem?_eq_getElem this⟩

end Go.Proofs.YthnealhaleccpaaGreatDoor
namespace Go.Proofs.YthnealhaleccpaaGreatDoor
open Go.RowKit
open Plain

theorem FOwn.setNe {w : World} {base : Nat} {v : Value} {fs : List FileV} (h : FOwn w base v fs) (p : Addr) (u : Value) (hp : v.ownBlock ≠ some p.block) : FOwn (w.setCell p u) base v fs := by
  refine ⟨h.1, ?_⟩
  rcases h.2 with h | ⟨g, c, cur, e, hbg, hg, h1⟩
  · exact .inl h
  · refine .inr ⟨g, c, cur, e, hbg, ?_, h1⟩
    rw [Below.heap_setCell w p u g (by intro q; apply hp; rw [e, ← q]; rfl)]
    exact hg
theorem FOwn.blk {w : World} {base : Nat} {v : Value} {fs : List FileV} (h : FOwn w base v fs) : ∀ g, v.ownBlock = some g → base ≤ g ∧ g < w.heap.size := World.ownsRow.lt h
theorem set_get_self {α : Type} (xs : List α) (j : Nat) (x : α) (h : xs[j]? = some x) : xs.set j x = xs := by
  apply List.ext_getElem?
  intro i
  by_cases e : j = i
  · subst e
    rw [List.getElem?_set_self (List.getElem?_eq_some_iff.1 h).1, h]
  · rw [List.getElem?_set_ne e]
theorem FOwn.putSafe {w : World} {base g n cap : Nat} {fs : List FileV} (h : FOwn w base (.slice (some ⟨g, 0, none⟩) n cap) fs) (i : Nat) (hi : i < fs.length) (z : Int) :
    FOwn (w.setCell ⟨g, i * 3 + 2, none⟩ (.int .i64 z)) base (.slice (some ⟨g, 0, none⟩) n cap) (fs.set i ⟨(fs[i]).name, (fs[i]).text, z⟩) := by
  have hn := h.len
  have hg := fcells_get fs i hi
  unfold FOwn at h ⊢
  rw [hn] at h
  rw [List.length_set, hn, ← fcells_set fs i _ hi, set_get_self _ _ _ hg.1, set_get_self _ _ _ hg.2.1]
  exact (h.stored (i * 3 + 2) _).1
theorem FOwn.putText {w : World} {base g n cap : Nat} {fs : List FileV} (h : FOwn w base (.slice (some ⟨g, 0, none⟩) n cap) fs) (i : Nat) (hi : i < fs.length) (t : ByteArray) :
    FOwn (w.setCell ⟨g, i * 3 + 1, none⟩ (.string t)) base (.slice (some ⟨g, 0, none⟩) n cap) (fs.set i ⟨(fs[i]).name, t, (fs[i]).safe⟩) := by
  have hn := h.len
  have hg := fcells_get fs i hi
  unfold FOwn at h ⊢
  rw [hn] at h
  have e2 : ((fcells fs).set (i * 3 + 1) (.string t))[i * 3 + 2]? = some (.int .i64 (fs[i]).safe) := by rw [List.getElem?_set_ne (by omega)]; exact hg.2.2
  rw [List.length_set, hn, ← fcells_set fs i _ hi, set_get_self _ _ _ hg.1, set_get_self _ _ _ e2]
  exact (h.stored (i * 3 + 1) _).1
theorem addr_add (b off j : Nat) : (⟨b, off, none⟩ : Addr).add j = ⟨b, off + j, none⟩ := by unfold Addr.add; split <;> simp_all
theorem fcells_one (fs : List FileV) : ∀ u ∈ fcells fs, u.oneCell' = true := by
  induction fs with
  | nil => intro u h; simp [fcells] at h
  | cons f r ih =>
    intro u h
    simp only [fcells, List.mem_cons] at h
    rcases h with rfl | rfl | rfl | h
    · rfl
    · rfl
    · rfl
    · exact ih u h
/-- What a slice of files shows, cell by cell. -/
theorem FRow.src {w : World} {base : Nat} {ad : Addr} {n : Nat} {fs : List FileV} (h : FRow w base (some ad) n fs) : ∀ j u, (fcells fs)[j]? = some u → w.cell? (ad.add j) = some u := by
  intro j u hj
  have hjl : j < fs.length * 3 := by
    have := (List.getElem?_eq_some_iff.1 hj).1
    rw [fcells_length] at this
    exact this
  have hi : j / 3 < fs.length := by omega
  obtain ⟨b, off, e, _, _, c0, c1, c2⟩ := h.cells (j / 3) hi
  obtain ⟨g0, g1, g2⟩ := fcells_get fs (j / 3) hi
  injection e with e
  subst e
  rw [addr_add]
  rcases (by omega : j % 3 = 0 ∨ j % 3 = 1 ∨ j % 3 = 2) with q | q | q
  · have h2 : (fcells fs)[j]? = some (.string (fs[j / 3]).name) := by rw [← g0]; congr 1; omega
    rw [h2] at hj
    injection hj with hj
    rw [← hj, show off + j = off + j / 3 * 3 by omega]
    exact c0
  · have h2 : (fcells fs)[j]? = some (.string (fs[j / 3]).text) := by rw [← g1]; congr 1; omega
    rw [h2] at hj
    injection hj with hj
    rw [← hj, show off + j = off + j / 3 * 3 + 1 by omega]
    exact c1
  · have h2 : (fcells fs)[j]? = some (.int .i64 (fs[j / 3]).safe) := by rw [← g2]; congr 1; omega
    rw [h2] at hj
    injection hj with hj
    rw [← hj, show off + j = off + j / 3 * 3 + 2 by omega]
    exact c2

/-- 'out = append(out, fs...)', out a row of the call's own: a law for the walk. -/
theorem wpList_app_files {ops : Array Oper} {rest : List Oper} {o : Oper} {act : Act} {Q : Exit → Act → World → Prop} (hgd : o.guard = none) (s x : Operand)
    (ho : o.op = .call { callee := .builtin .append, args := #[s, x], argTypes := #[37, 37] }) {w : World} {base : Nat} {v : Value} {fs gs : List FileV} (hown : FOwn w base v fs) (hb : base ≤ w.heap.size)
    {ad : Addr} {m c : Nat} (hr : FRow w 0 (some ad) m gs) (hn : fs.length + m ≤ 1099511627776)
    (hs : act.eval s = v) (hx : act.eval x = .slice (some ad) m c)
    (h : ∀ a' n' cap' w', n' = fs.length + m → FOwn w' base (.slice a' n' cap') (fs ++ gs) → w.grownBy w' v.ownBlock → wpList Tryz.prog ops Q rest (act.put o.dst (.slice a' n' cap')) w') : wpList Tryz.prog ops Q (o :: rest) act w := by
  obtain ⟨i0, hi, hz0, hz1, hz2⟩ := info_parts Tryz.infoF
  have hm := hr.len
  refine wpList_append_own (P := Tryz.prog) w hgd s x 37 ho base 73 i0 _ 3 40 Tryz.underlying37 hi hz0 hz1 hz2 rfl (by decide) v fs.length (fcells fs) hs hown
    ad m c (fcells gs) hx (by rw [fcells_length, hm]) hr.src (fcells_one gs) (by unfold maxLen; omega) (by omega) hb ?_
  intro v' w' ho' hg _
  have hval : ∃ a' cap', v' = .slice a' (fs.length + m) cap' := by
    rcases ho'.2 with ⟨e, h0⟩ | ⟨g, cap, cur, e, _⟩
    · exact ⟨none, 0, by rw [e, h0]⟩
    · exact ⟨_, _, e⟩
  obtain ⟨a', cap', rfl⟩ := hval
  refine h a' _ cap' w' rfl ?_ hg
  unfold FOwn
  rw [List.length_append, hm, fcells_append]
  exact ho'

end Go.Proofs.YthnealhaleccpaaGreatDoor
