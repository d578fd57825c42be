/-
  impl.Crc: the sum of a text by a table of sixteen, under what the package's table holds.
-/
import Derived.Test.YtimpokbcfjgdaaaDoorG00
import Derived.Test.YtimpokbcfjgdaaaDoorG04
import Derived.Lib.LaidTab
import Derived.Lib.OthersKept
namespace Go.Proofs.YtimpokbcfjgdaaaDoor
open Go.RowKit
open Plain

def tabZ : List Int := [0, 274646895, 549293790, 820201905, 1098587580, 1361435347, 1640403810, 1905808397, 2197175160, 2460548119, 2722870694, 2987750089, 3280807620, 3553878443, 3811616794, 4084100981]
def tb (i : Nat) : Nat := tab.getD i 0
theorem tabZ_get : ∀ i, i < 16 → tabZ.getD i 0 = (tb i : Int) := by decide
/-- The package's table holds what its text lays. -/
def STab (w : World) : Prop := Lib.TabIs Tryd.prog w "loop.example/g01397/impl.sumTable" .u32 tabZ
theorem gSum : Tryd.prog.globalNamed "loop.example/g01397/impl.sumTable" = some 0 := by kernel_rfl
theorem STab.at {w : World} (h : STab w) (i : Nat) (hi : i < 16) : w.cell? ⟨0, i, none⟩ = some (.int .u32 (tb i)) := by
  have := Lib.TabIs.cell h gSum i hi
  rw [this, tabZ_get i hi]

theorem ofInt_u32 (a : Nat) (ha : a < 4294967296) : (BitVec.ofInt 32 (a : Int)).toNat = a := by
  rw [BitVec.ofInt_natCast, BitVec.toNat_ofNat]; exact Nat.mod_eq_of_lt (by omega)
theorem u32_xor_nat (a b : Nat) (ha : a < 4294967296) (hb : b < 4294967296) : bits .xor .u32 (a : Int) (b : Int) = ((a ^^^ b : Nat) : Int) := by
  have hx : a ^^^ b < 2 ^ 32 := Nat.xor_lt_two_pow (by omega) (by omega)
  show IntKind.u32.wrap ((BitVec.ofInt 32 (a : Int) ^^^ BitVec.ofInt 32 (b : Int)).toNat : Int) = _
  rw [BitVec.toNat_xor, ofInt_u32 a ha, ofInt_u32 b hb, IntKind.wrap_u32]
  omega
theorem u32_and15 (a : Nat) (ha : a < 4294967296) : bits .and .u32 (a : Int) 15 = ((a % 16 : Nat) : Int) := by
  have hx : a &&& 15 < 2 ^ 32 := Nat.and_lt_two_pow _ (by omega)
  have e : (15 : Int) = ((15 : Nat) : Int) := rfl
  show IntKind.u32.wrap ((BitVec.ofInt 32 (a : Int) &&& BitVec.ofInt 32 (15 : Int)).toNat : Int) = _
  rw [e, BitVec.toNat_and, ofInt_u32 a ha, ofInt_u32 15 (by omega), IntKind.wrap_u32, show a &&& 15 = a % 16 from Nat.and_two_pow_sub_one_eq_mod a 4]
  omega

theorem u32_four (x y : Nat) (hx : x < 4294967296) (h : (x / 16) ^^^ tb (x % 16) = y) : bits .xor .u32 ((x : Int) / 16) (tb (x % 16) : Int) = (y : Int) := by
  have e : (x : Int) / 16 = ((x / 16 : Nat) : Int) := by omega
  rw [e, u32_xor_nat (x / 16) (tb (x % 16)) (by omega) (tab_lt _ (Nat.mod_lt _ (by omega))), h]

set_option maxRecDepth 100000 in
set_option maxHeartbeats 1000000 in
theorem with_any (c b : Nat) (hc : c < 4294967296) (hb : b < 256) (w : World) (ht : STab w) :
    Calls Tryd.prog 41 #[.int .u32 c, .int .u8 b] w fun e w' => e = .returned (.int .u32 (bt c b)) ∧ w = w' := by
  have HT := hide ht
  clear ht
  have hx := u32_xor_nat c b hc (by omega)
  have hxl := xor_lt32 c b hc (by omega)
  have hyl := tkN_lt 4 _ hxl
  have h1 := u32_four _ _ hxl (four (c ^^^ b))
  have h2 := u32_four _ _ hyl (bt_two c b)
  generalize c ^^^ b = x at *
  generalize tkN 4 x = y at *
  have ha := u32_and15 x hxl
  have hb2 := u32_and15 y hyl
  have hcell := HT.out.at (x % 16) (by omega)
  have hcell2 := HT.out.at (y % 16) (by omega)
  go_enter Tryd.func41, Tryd.ntmps41
  go_wp2
  go_ret
  exact ⟨rfl, rfl⟩

theorem STab.later {w w' : World} (h : STab w) (hb : Below w.heap.size w w') : STab w' := by
  have hlt : 0 < w.heap.size := by
    have h0 := h.at 0 (by omega)
    rcases Nat.lt_or_ge 0 w.heap.size with h' | h'
    · exact h'
    · simp [World.cell?, Array.getElem?_eq_none h'] at h0
  unfold STab Lib.TabIs World.var? at *
  simp only [gSum, Option.bind_some] at h ⊢
  rw [hb.block _ hlt]
  exact h
theorem below_iter (w : World) (s : ByteArray) (p : Nat) : Below w.heap.size w (w.iter s p) := (Below.refl _ w).alloc (Nat.le_refl _) _

theorem width_pos (s : ByteArray) (pos : Nat) (h : pos < s.size) : 1 ≤ (Utf8.decode s pos).2 := by
  by_cases ha : (s[pos]'h).toNat < 128
  · rw [decode_ascii s pos h ha]
    exact Nat.le_refl _
  · exact (decode_high s pos h (by omega)).2

set_option maxRecDepth 100000 in
set_option maxHeartbeats 1000000 in
theorem implCrc_any (s : ByteArray) (w : World) (hs : s.size ≤ 1099511627776) (ht : STab w) :
    Calls Tryd.prog 25 #[.string s] w fun e w' => e = .returned (.int .i64 (crcN s)) ∧ Below w.heap.size w w' := by
  have HT : ∀ p, Hid (STab (w.iter s p)) := fun p => hide (ht.later (below_iter w s p))
  clear ht
  go_enter Tryd.func25, Tryd.ntmps25
  go_wp2
  go_loopw [3, 4] (fun c d wr => ∃ (pos k : Nat), wr = w.iter s pos ∧ k ≤ s.size ∧ c = .int .u32 (ck s k) ∧ d = .int .i64 k) (fun _ _ wr => s.size - wr.iterPos w.heap.size)
  case atStart => exact ⟨0, 0, rfl, by omega, by rw [ck_zero]; rfl, rfl⟩
  case round =>
    obtain ⟨pos, k, rfl, hk, rfl, rfl⟩ := hrel
    by_cases hp : pos < s.size
    · have hnx : ∀ ty, (Instr.next (.pointer (some ⟨w.heap.size, 0, none⟩)) true ty).run Tryd.prog (w.iter s pos) = _ := fun ty => run_next_any w s pos ty hp
      go_wp2
      have hwd := width_pos s pos hp
      go_loop [3, 4] (fun c d => ∃ k : Nat, k ≤ s.size ∧ c = .int .u32 (ck s k) ∧ d = .int .i64 k) (fun _ d => pos + 1 - (intOf d).toNat)
      case atStart => exact ⟨k, hk, rfl, rfl⟩
      case round =>
        obtain ⟨j, hj, rfl, rfl⟩ := hrel
        by_cases h8 : j ≤ pos
        · have hlt := ck_lt s j
          have hjs : j < s.size := by omega
          have hb := UInt8.toNat_lt s[j]
          go_wp2_with fail
          refine (with_any (ck s j) s[j].toNat hlt (by omega) _ (HT _).out).mono ?_
          rintro e w1 ⟨rfl, rfl⟩
          rw [← ck_succ s j hjs]
          go_wp2
          go_round
          case rel => exact ⟨j + 1, by omega, rfl, by go_num⟩
          case measure => first | (simp [intOf]; done) | (simp [intOf]; omega)
        · go_wp2
          go_roundw
          case rel => exact ⟨_, j, rfl, hj, rfl, rfl⟩
          case measure =>
            simp
            omega
    · have hnx : ∀ ty, (Instr.next (.pointer (some ⟨w.heap.size, 0, none⟩)) true ty).run Tryd.prog (w.iter s pos) = _ := fun ty => run_next_end w s pos ty hp
      go_wp2
      go_loop [3, 4] (fun c d => ∃ k : Nat, k ≤ s.size ∧ c = .int .u32 (ck s k) ∧ d = .int .i64 k) (fun _ d => s.size - (intOf d).toNat)
      case atStart => exact ⟨k, hk, rfl, rfl⟩
      case round =>
        obtain ⟨j, hj, rfl, rfl⟩ := hrel
        have hlt := ck_lt s j
        by_cases hjs : j < s.size
        · have hb := UInt8.toNat_lt s[j]
          go_wp2_with fail
          refine (with_any (ck s j) s[j].toNat hlt (by omega) _ (HT _).out).mono ?_
          rintro e w1 ⟨rfl, rfl⟩
          rw [← ck_succ s j hjs]
          go_wp2
          go_round
          case rel => exact ⟨j + 1, by omega, rfl, by go_num⟩
          case measure => first | (simp [intOf]; done) | (simp [intOf]; omega)
        · obtain rfl : j = s.size := by omega
          have hcc := hide (crc_ck s)
          go_wp2
          go_ret
          rw [hcc.out]
          exact ⟨rfl, below_iter w s pos⟩

end Go.Proofs.YtimpokbcfjgdaaaDoor
