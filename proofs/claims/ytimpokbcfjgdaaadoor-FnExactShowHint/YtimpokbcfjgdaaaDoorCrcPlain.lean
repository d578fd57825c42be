/-
  Plain facts on the sum of chapter 2, with no Go in sight: one halving is linear over exclusive or, a table of sixteen makes four halvings, and no other bytes within four in a row have the same sum.
-/
import Derived.Test.YtimpokbcfjgdaaaDoorPlain
namespace Go.Proofs.YtimpokbcfjgdaaaDoor
namespace Plain

/-- One halving. -/
def tk (c : Nat) : Nat := if c % 2 = 1 then (c / 2) ^^^ 2197175160 else c / 2
def tkN : Nat → Nat → Nat
  | 0, c => c
  | n + 1, c => tk (tkN n c)
theorem tkN_succ' (n c : Nat) : tkN (n + 1) c = tkN n (tk c) := by
  induction n with
  | zero => rfl
  | succ n ih => rw [tkN, ih]; rfl
theorem tkN_add (m n c : Nat) : tkN (m + n) c = tkN m (tkN n c) := by
  induction m with
  | zero => rw [Nat.zero_add]; rfl
  | succ m ih => rw [Nat.add_right_comm, tkN, ih]; rfl
theorem xor_half (a b : Nat) : (a ^^^ b) / 2 = a / 2 ^^^ b / 2 := by
  have := Nat.shiftRight_xor_distrib (a := a) (b := b) (i := 1)
  simpa [Nat.shiftRight_eq_div_pow] using this
theorem xor_odd (a b : Nat) : (a ^^^ b) % 2 = (a % 2 + b % 2) % 2 := by
  have h := Nat.xor_mod_two_pow (a := a) (b := b) (n := 1)
  rw [Nat.pow_one] at h
  rw [h]
  rcases Nat.mod_two_eq_zero_or_one a with h1 | h1 <;> rcases Nat.mod_two_eq_zero_or_one b with h2 | h2 <;> rw [h1, h2] <;> rfl
theorem tk_xor (a b : Nat) : tk (a ^^^ b) = tk a ^^^ tk b := by
  unfold tk
  rw [xor_odd, xor_half]
  rcases Nat.mod_two_eq_zero_or_one a with h1 | h1 <;> rcases Nat.mod_two_eq_zero_or_one b with h2 | h2
  · simp [h1, h2]
  · simp [h1, h2, Nat.xor_assoc]
  · simp only [h1, h2]
    simp
    rw [Nat.xor_assoc, Nat.xor_assoc, Nat.xor_comm (b / 2)]
  · simp only [h1, h2]
    simp
    rw [Nat.xor_assoc, Nat.xor_comm 2197175160, Nat.xor_assoc, Nat.xor_self, Nat.xor_zero]
theorem tkN_xor (n a b : Nat) : tkN n (a ^^^ b) = tkN n a ^^^ tkN n b := by
  induction n with
  | zero => rfl
  | succ n ih => rw [tkN, ih, tk_xor]; rfl
theorem tk_lt (c : Nat) (h : c < 4294967296) : tk c < 4294967296 := by
  unfold tk
  split
  · have : (c / 2) ^^^ 2197175160 < 2 ^ 32 := Nat.xor_lt_two_pow (by omega) (by omega)
    omega
  · omega
theorem tkN_lt (n c : Nat) (h : c < 4294967296) : tkN n c < 4294967296 := by
  induction n with
  | zero => exact h
  | succ n ih => exact tk_lt _ ih
theorem xor_lt32 (a b : Nat) (h1 : a < 4294967296) (h2 : b < 4294967296) : a ^^^ b < 4294967296 := by
  have : a ^^^ b < 2 ^ 32 := Nat.xor_lt_two_pow (by omega) (by omega)
  omega
theorem eq_of_xor (a b : Nat) (h : a ^^^ b = 0) : a = b := by
  have h2 : (a ^^^ b) ^^^ b = b := by rw [h, Nat.zero_xor]
  rw [Nat.xor_assoc, Nat.xor_self, Nat.xor_zero] at h2
  exact h2
theorem tk_zero (d : Nat) (hd : d < 4294967296) (h : tk d = 0) : d = 0 := by
  unfold tk at h
  split at h
  · have := eq_of_xor _ _ h
    omega
  · omega
theorem tk_inj (a b : Nat) (ha : a < 4294967296) (hb : b < 4294967296) (h : tk a = tk b) : a = b := by
  apply eq_of_xor
  apply tk_zero _ (xor_lt32 a b ha hb)
  rw [tk_xor, h, Nat.xor_self]
theorem tkN_inj (n a b : Nat) (ha : a < 4294967296) (hb : b < 4294967296) (h : tkN n a = tkN n b) : a = b := by
  induction n with
  | zero => exact h
  | succ n ih => exact ih (tk_inj _ _ (tkN_lt n a ha) (tkN_lt n b hb) h)
theorem tkN_shift (n a : Nat) : tkN n (a * 2 ^ n) = a := by
  induction n with
  | zero => simp [tkN]
  | succ n ih =>
    rw [tkN_succ']
    have e : tk (a * 2 ^ (n + 1)) = a * 2 ^ n := by
      unfold tk
      have : a * 2 ^ (n + 1) = 2 * (a * 2 ^ n) := by rw [Nat.pow_succ]; rw [← Nat.mul_assoc, Nat.mul_comm]
      rw [this, if_neg (by omega)]
      omega
    rw [e, ih]

/-- The table of sixteen. -/
def tab : List Nat := [0, 274646895, 549293790, 820201905, 1098587580, 1361435347, 1640403810, 1905808397, 2197175160, 2460548119, 2722870694, 2987750089, 3280807620, 3553878443, 3811616794, 4084100981]
theorem tab_eq : ∀ l, l < 16 → tab.getD l 0 = tkN 4 l := by decide
theorem tab_lt : ∀ l, l < 16 → tab.getD l 0 < 4294967296 := by decide
theorem four (c : Nat) : (c / 16) ^^^ tab.getD (c % 16) 0 = tkN 4 c := by
  rw [tab_eq _ (Nat.mod_lt _ (by omega))]
  have e : c = (c / 16 * 2 ^ 4) ^^^ (c % 16) := by
    have h := Nat.two_pow_add_eq_or_of_lt (i := 4) (b := c % 16) (Nat.mod_lt _ (by omega)) (c / 16)
    have h2 : c / 16 * 2 ^ 4 ^^^ c % 16 = 2 ^ 4 * (c / 16) + c % 16 := by
      rw [h, Nat.mul_comm]
      apply Nat.eq_of_testBit_eq
      intro j
      rw [Nat.testBit_xor, Nat.testBit_or, Nat.testBit_two_pow_mul]
      by_cases hj : j < 4
      · simp [show ¬ 4 ≤ j from by omega]
      · have : (c % 16).testBit j = false := Nat.testBit_lt_two_pow (Nat.lt_of_lt_of_le (Nat.mod_lt _ (by omega)) (show 16 ≤ 2 ^ j from Nat.pow_le_pow_right (n := 2) (i := 4) (by omega) (by omega)))
        simp [this]
    omega
  conv => rhs; rw [e]
  rw [tkN_xor, tkN_shift]

/-- What a byte makes of a sum. -/
def bt (c b : Nat) : Nat := tkN 8 (c ^^^ b)
theorem bt_lt (c b : Nat) (h : c < 4294967296) (hb : b < 256) : bt c b < 4294967296 := tkN_lt _ _ (xor_lt32 _ _ h (by omega))
theorem bt_two (c b : Nat) : (tkN 4 (c ^^^ b) / 16) ^^^ tab.getD (tkN 4 (c ^^^ b) % 16) 0 = bt c b := by
  rw [four, ← tkN_add]
  rfl
/-- What bytes make of a sum. -/
def cf (c : Nat) (xs : List Nat) : Nat := xs.foldl bt c
theorem cf_nil (c : Nat) : cf c [] = c := List.foldl_nil
theorem cf_cons (c b : Nat) (r : List Nat) : cf c (b :: r) = cf (bt c b) r := List.foldl_cons ..
theorem cf_append (xs ys : List Nat) : ∀ c, cf c (xs ++ ys) = cf (cf c xs) ys := by
  intro c
  exact List.foldl_append
theorem cf_lt (xs : List Nat) (hx : ∀ b ∈ xs, b < 256) : ∀ c, c < 4294967296 → cf c xs < 4294967296 := by
  induction xs with
  | nil => intro c h; rw [cf_nil]; exact h
  | cons b r ih => intro c h; rw [cf_cons]; exact ih (fun x hx' => hx x (by simp [hx'])) _ (bt_lt c b h (hx b (by simp)))
theorem cf_inj (xs : List Nat) (hx : ∀ b ∈ xs, b < 256) : ∀ c d, c < 4294967296 → d < 4294967296 → cf c xs = cf d xs → c = d := by
  induction xs with
  | nil => intro c d _ _ h; rw [cf_nil, cf_nil] at h; exact h
  | cons b r ih =>
    intro c d hc hd h
    rw [cf_cons, cf_cons] at h
    have hb := hx b (by simp)
    have h1 := ih (fun x hx' => hx x (by simp [hx'])) _ _ (bt_lt c b hc hb) (bt_lt d b hd hb) h
    have h2 := tkN_inj 8 _ _ (xor_lt32 c b hc (by omega)) (xor_lt32 d b hd (by omega)) h1
    have h3 : c ^^^ d = 0 := by
      have h4 : (c ^^^ b) ^^^ (d ^^^ b) = 0 := by rw [h2, Nat.xor_self]
      rw [Nat.xor_assoc, Nat.xor_comm d b, ← Nat.xor_assoc b b d, Nat.xor_self, Nat.zero_xor] at h4
      exact h4
    exact eq_of_xor _ _ h3
/-- Bytes as one number, the first the least. -/
def lv : List Nat → Nat
  | [] => 0
  | b :: r => b + 256 * lv r
theorem low8 (b v : Nat) (hb : b < 256) : b ^^^ (v * 2 ^ 8) = b + 256 * v := by
  have h := Nat.two_pow_add_eq_or_of_lt (i := 8) (b := b) (by omega) v
  have h2 : b ^^^ (v * 2 ^ 8) = 2 ^ 8 * v ||| b := by
    rw [Nat.mul_comm v]
    apply Nat.eq_of_testBit_eq
    intro j
    rw [Nat.testBit_xor, Nat.testBit_or, Nat.testBit_two_pow_mul]
    by_cases hj : j < 8
    · simp [show ¬ 8 ≤ j from by omega]
    · have : b.testBit j = false := Nat.testBit_lt_two_pow (Nat.lt_of_lt_of_le hb (show 256 ≤ 2 ^ j from Nat.pow_le_pow_right (n := 2) (i := 8) (by omega) (by omega)))
      simp [this]
  rw [h2, ← h]
  omega
theorem cf_lv (xs : List Nat) (hx : ∀ b ∈ xs, b < 256) : ∀ c, cf c xs = tkN (8 * xs.length) (c ^^^ lv xs) := by
  induction xs with
  | nil => intro c; rw [cf_nil, lv, Nat.xor_zero]; rfl
  | cons b r ih =>
    intro c
    have hb := hx b (by simp)
    rw [cf_cons, ih (fun x hx' => hx x (by simp [hx']))]
    rw [List.length_cons, Nat.mul_add, Nat.mul_one, tkN_add, bt, lv, ← low8 b (lv r) hb]
    congr 1
    rw [← Nat.xor_assoc, tkN_xor 8 (c ^^^ b), tkN_shift]
theorem lv_lt (xs : List Nat) (hx : ∀ b ∈ xs, b < 256) : lv xs < 256 ^ xs.length := by
  induction xs with
  | nil => simp [lv]
  | cons b r ih =>
    have hb := hx b (by simp)
    have := ih (fun x hx' => hx x (by simp [hx']))
    rw [lv, List.length_cons, Nat.pow_succ]
    omega
theorem lv_inj : ∀ (xs ys : List Nat), (∀ b ∈ xs, b < 256) → (∀ b ∈ ys, b < 256) → xs.length = ys.length → lv xs = lv ys → xs = ys
  | [], [], _, _, _, _ => rfl
  | [], _ :: _, _, _, h, _ => by simp at h
  | _ :: _, [], _, _, h, _ => by simp at h
  | a :: r, b :: t, hx, hy, hl, h => by
    have ha := hx a (by simp)
    have hb := hy b (by simp)
    simp only [lv] at h
    have e : a = b := by omega
    have e2 : lv r = lv t := by omega
    rw [e, lv_inj r t (fun x h' => hx x (by simp [h'])) (fun x h' => hy x (by simp [h'])) (by simpa using hl) e2]
/-- At most four bytes: other bytes make another sum. -/
theorem cf_four (xs ys : List Nat) (hx : ∀ b ∈ xs, b < 256) (hy : ∀ b ∈ ys, b < 256) (hl : xs.length = ys.length) (h4 : xs.length ≤ 4) (c : Nat) (hc : c < 4294967296) (h : cf c xs = cf c ys) : xs = ys := by
  have p4 : ∀ n, n ≤ 4 → 256 ^ n ≤ 4294967296 := by
    intro n hn
    have := Nat.pow_le_pow_right (n := 256) (by omega) hn
    simpa using this
  have l1 : lv xs < 4294967296 := Nat.lt_of_lt_of_le (lv_lt xs hx) (p4 _ h4)
  have l2 : lv ys < 4294967296 := Nat.lt_of_lt_of_le (lv_lt ys hy) (p4 _ (by omega))
  rw [cf_lv xs hx, cf_lv ys hy, ← hl] at h
  have h2 := tkN_inj _ _ _ (xor_lt32 c _ hc l1) (xor_lt32 c _ hc l2) h
  have h3 : lv xs ^^^ lv ys = 0 := by
    have h5 : (c ^^^ lv xs) ^^^ (c ^^^ lv ys) = 0 := by rw [h2, Nat.xor_self]
    rw [Nat.xor_comm c, Nat.xor_assoc, ← Nat.xor_assoc c c, Nat.xor_self, Nat.zero_xor] at h5
    exact h5
  exact lv_inj xs ys hx hy hl (eq_of_xor _ _ h3)
/-- Bytes that part at most within four in a row: other bytes make another sum. -/
theorem cf_parts (xs ys : List Nat) (hx : ∀ b ∈ xs, b < 256) (hy : ∀ b ∈ ys, b < 256) (hl : xs.length = ys.length) (k : Nat) (ho : ∀ j, j < k ∨ k + 4 ≤ j → xs[j]? = ys[j]?) (c : Nat) (hc : c < 4294967296) (h : cf c xs = cf c ys) : xs = ys := by
  have e0 : xs.take k = ys.take k := by
    apply List.ext_getElem?
    intro j
    rw [List.getElem?_take, List.getElem?_take]
    split
    · exact ho j (by omega)
    · rfl
  have e2 : (xs.drop k).drop 4 = (ys.drop k).drop 4 := by
    apply List.ext_getElem?
    intro j
    rw [List.drop_drop, List.drop_drop, List.getElem?_drop, List.getElem?_drop]
    exact ho _ (by omega)
  have x1 : xs = xs.take k ++ ((xs.drop k).take 4 ++ (xs.drop k).drop 4) := by rw [List.take_append_drop, List.take_append_drop]
  have y1 : ys = xs.take k ++ ((ys.drop k).take 4 ++ (xs.drop k).drop 4) := by rw [e0, e2, List.take_append_drop, List.take_append_drop]
  have m1 : ∀ b ∈ xs.take k, b < 256 := fun b hb => hx b (List.mem_of_mem_take hb)
  have m2 : ∀ b ∈ (xs.drop k).take 4, b < 256 := fun b hb => hx b (List.mem_of_mem_drop (List.mem_of_mem_take hb))
  have m3 : ∀ b ∈ (ys.drop k).take 4, b < 256 := fun b hb => hy b (List.mem_of_mem_drop (List.mem_of_mem_take hb))
  have m4 : ∀ b ∈ (xs.drop k).drop 4, b < 256 := fun b hb => hx b (List.mem_of_mem_drop (List.mem_of_mem_drop hb))
  have hcc := cf_lt _ m1 c hc
  have h1 : cf (cf (cf c (xs.take k)) ((xs.drop k).take 4)) ((xs.drop k).drop 4) = cf (cf (cf c (xs.take k)) ((ys.drop k).take 4)) ((xs.drop k).drop 4) := by
    rw [← cf_append, ← cf_append, ← cf_append, ← cf_append, ← x1, ← y1]
    exact h
  have h2 := cf_inj _ m4 _ _ (cf_lt _ m2 _ hcc) (cf_lt _ m3 _ hcc) h1
  have h3 := cf_four _ _ m2 m3 (by simp [List.length_take, List.length_drop, hl]) (by rw [List.length_take]; omega) _ hcc h2
  rw [x1, y1, ← h3]

/-- The sum of a text behind its first k bytes, and of all. -/
def ck (s : ByteArray) (k : Nat) : Nat := cf 4294967295 ((bl s).take k)
def crcN (s : ByteArray) : Nat := 4294967295 - cf 4294967295 (bl s)
theorem ck_zero (s : ByteArray) : ck s 0 = 4294967295 := by rw [ck, List.take_zero, cf_nil]
theorem ck_succ (s : ByteArray) (k : Nat) (h : k < s.size) : ck s (k + 1) = bt (ck s k) s[k].toNat := by
  unfold ck
  rw [bl_take_succ s k h, cf_append, cf_cons, cf_nil]
theorem bl_all (s : ByteArray) : ∀ b ∈ bl s, b < 256 := by
  intro b hb
  have := bl_lt s (bl s).length b (by rw [List.take_length]; exact hb)
  exact this
theorem ck_lt (s : ByteArray) (k : Nat) : ck s k < 4294967296 := cf_lt _ (bl_lt s k) _ (by omega)
theorem ck_all (s : ByteArray) : ck s s.size = cf 4294967295 (bl s) := by
  unfold ck
  rw [List.take_of_length_le (by rw [bl_length]; exact Nat.le_refl _)]
theorem crc_ck (s : ByteArray) : (crcN s : Int) = 4294967295 - (ck s s.size : Int) := by
  have := ck_lt s s.size
  unfold crcN
  rw [← ck_all]
  omega

end Plain
end Go.Proofs.YtimpokbcfjgdaaaDoor
