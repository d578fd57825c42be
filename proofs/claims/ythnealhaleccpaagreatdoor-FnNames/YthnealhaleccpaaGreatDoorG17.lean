/-
  impl.showText, and blocks that stand. impl.Crc: the sum of a text by a table of sixteen, under what the package's table holds. impl.Frame and impl.Unframe, under what the package's table holds. strings.Builder at this seat: its copyCheck and its WriteString, walked; its String by the library's contract. impl.ShowLive, out of a strings.Builder, under what the package's table holds. impl.ReadLive, under what the package's table holds. Plain facts on decimal numerals: what is read back of one, how long it is, and what ReadDec is to answer. Names of segments and of hints with no Go in sight, and the number of a name. spec.SegName and spec.HintName. What impl.Dec answers at every int, where the library's table of powers of ten is as its text lays it; it makes new memory only. impl.idOk. impl.SegName and impl.HintName, where the library's table of powers of ten is as its text lays it. The number of a name, as the two programs look for it: what stands behind the first three bytes, or the first four. Which names of files belong to no list, with no Go in sight.
-/
import Derived.Test.YthnealhaleccpaaGreatDoorG08
import Derived.Deep.RegionHeld3
import Derived.Test.YthnealhaleccpaaGreatDoorG00
import Derived.Lib.LaidTab
import Derived.Lib.OthersKept
import Derived.Test.YthnealhaleccpaaGreatDoorG15
import Derived.Lib.Builder
import Derived.Lib.AppendStr
import Derived.Lib.UnsafeStr
import Derived.Laws.Externs
import Derived.Test.YthnealhaleccpaaGreatDoorMLiveOkImpl
import Derived.Test.YthnealhaleccpaaGreatDoorMTakeLive
import Derived.Lib.ItoaNum
import Derived.Lib.Atoi
import Derived.Lib.Strings
import Derived.Test.YthnealhaleccpaaGreatDoorG06
import Derived.Lib.SmallJoins
namespace Go.Proofs.YthnealhaleccpaaGreatDoor
open Go.RowKit
open Plain

theorem textS_size (s : ByteArray) : (textS s).size ≤ 7 + s.size := by
  unfold textS
  rw [ByteArray.size_append]
  have := varS_size (s.size : Int)
  omega
set_option maxRecDepth 100000 in
set_option maxHeartbeats 1000000 in
theorem showText_any (s : ByteArray) (hs : s.size ≤ 1048576) : Ans 50 #[.string s] (.string (textS s)) := by
  intro w
  have h7 := varS_size (s.size : Int)
  have HV := hide (implVar_any (s.size : Int))
  have HT : Hid (textS s = varS (s.size : Int) ++ s) := hide rfl
  generalize varS (s.size : Int) = v at *
  go_enter Tryz.func50, Tryz.ntmps50
  go_wp2_with fail
  refine (HV.out _).mono ?_
  rintro e w1 ⟨rfl, hb1⟩
  go_wp2
  go_ret
  exact ⟨by rw [HT.out]; rfl, hb1⟩

/-- Block B holds these cells; what was there in w is untouched. -/
structure BlkAt (w : World) (B : Nat) (T : TypeId) (cs : Array Value) (W : World) : Prop where
  row : W.heap[B]? = some (.cells cs T (0, 0))
  bel : Below w.heap.size w W
theorem BlkAt.later {w : World} {B : Nat} {T : TypeId} {cs : Array Value} {W W' : World} (h : BlkAt w B T cs W) (hb : Below W.heap.size W W') : BlkAt w B T cs W' :=
  ⟨(hb.block _ (lt_of_block h.row)).trans h.row, h.bel.trans (hb.mono h.bel.size)⟩
theorem BlkAt.new (w : World) (T : TypeId) (cs : Array Value) : BlkAt w w.heap.size T cs (w.alloc (.cells cs T)) := ⟨heap_alloc_new w _, al1 w _⟩
theorem BlkAt.cell {w : World} {B : Nat} {T : TypeId} {cs : Array Value} {W : World} (h : BlkAt w B T cs W) (i : Nat) : W.cell? ⟨B, i, none⟩ = cs[i]? := by rw [cell_of_row W B i _ _ _ h.row]
theorem BlkAt.keep {w : World} {B : Nat} {T : TypeId} {cs : Array Value} {f : FuncId} {args : Array Value} {v : Value} (h : Ans f args v) (W : World) (hW : Hid (BlkAt w B T cs W)) :
    Calls Tryz.prog f args W fun e w' => e = .returned v ∧ BlkAt w B T cs w' :=
  (h W).mono fun _ _ ⟨h1, h2⟩ => ⟨h1, hW.out.later h2⟩
theorem BlkAt.two {w : World} {B : Nat} {T : TypeId} {a b : Value} {W : World} (h : BlkAt w B T #[a, b] W) : W.cell? ⟨B, 0, none⟩ = some a ∧ W.cell? ⟨B, 1, none⟩ = some b ∧ Hid (BlkAt w B T #[a, b] W) := ⟨h.cell 0, h.cell 1, hide h⟩

end Go.Proofs.YthnealhaleccpaaGreatDoor
namespace Go.Proofs.YthnealhaleccpaaGreatDoor
open Go.RowKit
open Plain

def tabZ : List Int := [0, 274646895, 549293790, 820201905, 1098587580, 1361435347, 1640403810, 1905808397, 2197175160, 2460548119, 2722870694, 2987750089, 3280807620, 3553878443, 3811616794, 4084100981]
def tb (i : Nat) : Nat := tab.getD i 0
theorem tabZ_get : ∀ i, i < 16 → tabZ.getD i 0 = (tb i : Int) := by decide
/-- The package's table holds what its text lays. -/
def STab (w : World) : Prop := Lib.TabIs Tryz.prog w "loop.example/g01397/impl.sumTable" .u32 tabZ
theorem gSum : Tryz.prog.globalNamed "loop.example/g01397/impl.sumTable" = some 0 := by kernel_rfl
theorem STab.at {w : World} (h : STab w) (i : Nat) (hi : i < 16) : w.cell? ⟨0, i, none⟩ = some (.int .u32 (tb i)) := by
  have := Lib.TabIs.cell h gSum i hi
  rw [this, tabZ_get i hi]

theorem ofInt_u32 (a : Nat) (ha : a < 4294967296) : (BitVec.ofInt 32 (a : Int)).toNat = a := by
  rw [BitVec.ofInt_natCast, BitVec.toNat_ofNat]; exact Nat.mod_eq_of_lt (by omega)
theorem u32_xor_nat (a b : Nat) (ha : a < 4294967296) (hb : b < 4294967296) : bits .xor .u32 (a : Int) (b : Int) = ((a ^^^ b : Nat) : Int) := by
  have hx : a ^^^ b < 2 ^ 32 := Nat.xor_lt_two_pow (by omega) (by omega)
  show IntKind.u32.wrap ((BitVec.ofInt 32 (a : Int) ^^^ BitVec.ofInt 32 (b : Int)).toNat : Int) = _
  rw [BitVec.toNat_xor, ofInt_u32 a ha, ofInt_u32 b hb, IntKind.wrap_u32]
  omega
theorem u32_and15 (a : Nat) (ha : a < 4294967296) : bits .and .u32 (a : Int) 15 = ((a % 16 : Nat) : Int) := by
  have hx : a &&& 15 < 2 ^ 32 := Nat.and_lt_two_pow _ (by omega)
  have e : (15 : Int) = ((15 : Nat) : Int) := rfl
  show IntKind.u32.wrap ((BitVec.ofInt 32 (a : Int) &&& BitVec.ofInt 32 (15 : Int)).toNat : Int) = _
  rw [e, BitVec.toNat_and, ofInt_u32 a ha, ofInt_u32 15 (by omega), IntKind.wrap_u32, show a &&& 15 = a % 16 from Nat.and_two_pow_sub_one_eq_mod a 4]
  omega

theorem u32_four (x y : Nat) (hx : x < 4294967296) (h : (x / 16) ^^^ tb (x % 16) = y) : bits .xor .u32 ((x : Int) / 16) (tb (x % 16) : Int) = (y : Int) := by
  have e : (x : Int) / 16 = ((x / 16 : Nat) : Int) := by omega
  rw [e, u32_xor_nat (x / 16) (tb (x % 16)) (by omega) (tab_lt _ (Nat.mod_lt _ (by omega))), h]

set_option maxRecDepth 100000 in
set_option maxHeartbeats 1000000 in
theorem with_any (c b : Nat) (hc : c < 4294967296) (hb : b < 256) (w : World) (ht : STab w) :
    Calls Tryz.prog 73 #[.int .u32 c, .int .u8 b] w fun e w' => e = .returned (.int .u32 (bt c b)) ∧ w = w' := by
  have HT := hide ht
  clear ht
  have hx := u32_xor_nat c b hc (by omega)
  have hxl := xor_lt32 c b hc (by omega)
  have hyl := tkN_lt 4 _ hxl
  have h1 := u32_four _ _ hxl (four (c ^^^ b))
  have h2 := u32_four _ _ hyl (bt_two c b)
  generalize c ^^^ b = x at *
  generalize tkN 4 x = y at *
  have ha := u32_and15 x hxl
  have hb2 := u32_and15 y hyl
  have hcell := HT.out.at (x % 16) (by omega)
  have hcell2 := HT.out.at (y % 16) (by omega)
  go_enter Tryz.func73, Tryz.ntmps73
  go_wp2
  go_ret
  exact ⟨rfl, rfl⟩

theorem STab.later {w w' : World} (h : STab w) (hb : Below w.heap.size w w') : STab w' := by
  have hlt : 0 < w.heap.size := by
    have h0 := h.at 0 (by omega)
    rcases Nat.lt_or_ge 0 w.heap.size with h' | h'
    · exact h'
    · simp [World.cell?, Array.getElem?_eq_none h'] at h0
  unfold STab Lib.TabIs World.var? at *
  simp only [gSum, Option.bind_some] at h ⊢
  rw [hb.block _ hlt]
  exact h
theorem below_iter (w : World) (s : ByteArray) (p : Nat) : Below w.heap.size w (w.iter s p) := (Below.refl _ w).alloc (Nat.le_refl _) _

theorem width_pos (s : ByteArray) (pos : Nat) (h : pos < s.size) : 1 ≤ (Utf8.decode s pos).2 := by
  by_cases ha : (s[pos]'h).toNat < 128
  · rw [decode_ascii s pos h ha]
    exact Nat.le_refl _
  · exact (decode_high s pos h (by omega)).2

set_option maxRecDepth 100000 in
set_option maxHeartbeats 1000000 in
theorem implCrc_any (s : ByteArray) (w : World) (hs : s.size ≤ 1099511627776) (ht : STab w) :
    Calls Tryz.prog 52 #[.string s] w fun e w' => e = .returned (.int .i64 (crcN s)) ∧ Below w.heap.size w w' := by
  have HT : ∀ p, Hid (STab (w.iter s p)) := fun p => hide (ht.later (below_iter w s p))
  clear ht
  go_enter Tryz.func52, Tryz.ntmps52
  go_wp2
  go_loopw [3, 4] (fun c d wr => ∃ (pos k : Nat), wr = w.iter s pos ∧ k ≤ s.size ∧ c = .int .u32 (ck s k) ∧ d = .int .i64 k) (fun _ _ wr => s.size - wr.iterPos w.heap.size)
  case atStart => exact ⟨0, 0, rfl, by omega, by rw [ck_zero]; rfl, rfl⟩
  case round =>
    obtain ⟨pos, k, rfl, hk, rfl, rfl⟩ := hrel
    by_cases hp : pos < s.size
    · have hnx : ∀ ty, (Instr.next (.pointer (some ⟨w.heap.size, 0, none⟩)) true ty).run Tryz.prog (w.iter s pos) = _ := fun ty => run_next_any w s pos ty hp
      go_wp2
      have hwd := width_pos s pos hp
      go_loop [3, 4] (fun c d => ∃ k : Nat, k ≤ s.size ∧ c = .int .u32 (ck s k) ∧ d = .int .i64 k) (fun _ d => pos + 1 - (intOf d).toNat)
      case atStart => exact ⟨k, hk, rfl, rfl⟩
      case round =>
        obtain ⟨j, hj, rfl, rfl⟩ := hrel
        by_cases h8 : j ≤ pos
        · have hlt := ck_lt s j
          have hjs : j < s.size := by omega
          have hb := UInt8.toNat_lt s[j]
          go_wp2_with fail
          refine (with_any (ck s j) s[j].toNat hlt (by omega) _ (HT _).out).mono ?_
          rintro e w1 ⟨rfl, rfl⟩
          rw [← ck_succ s j hjs]
          go_wp2
          go_round
          case rel => exact ⟨j + 1, by omega, rfl, by go_num⟩
          case measure => first | (simp [intOf]; done) | (simp [intOf]; omega)
        · go_wp2
          go_roundw
          case rel => exact ⟨_, j, rfl, hj, rfl, rfl⟩
          case measure =>
            simp
            omega
    · have hnx : ∀ ty, (Instr.next (.pointer (some ⟨w.heap.size, 0, none⟩)) true ty).run Tryz.prog (w.iter s pos) = _ := fun ty => run_next_end w s pos ty hp
      go_wp2
      go_loop [3, 4] (fun c d => ∃ k : Nat, k ≤ s.size ∧ c = .int .u32 (ck s k) ∧ d = .int .i64 k) (fun _ d => s.size - (intOf d).toNat)
      case atStart => exact ⟨k, hk, rfl, rfl⟩
      case round =>
        obtain ⟨j, hj, rfl, rfl⟩ := hrel
        have hlt := ck_lt s j
        by_cases hjs : j < s.size
        · have hb := UInt8.toNat_lt s[j]
          go_wp2_with fail
          refine (with_any (ck s j) s[j].toNat hlt (by omega) _ (HT _).out).mono ?_
          rintro e w1 ⟨rfl, rfl⟩
          rw [← ck_succ s j hjs]
          go_wp2
          go_round
          case rel => exact ⟨j + 1, by omega, rfl, by go_num⟩
          case measure => first | (simp [intOf]; done) | (simp [intOf]; omega)
        · obtain rfl : j = s.size := by omega
          have hcc := hide (crc_ck s)
          go_wp2
          go_ret
          rw [hcc.out]
          exact ⟨rfl, below_iter w s pos⟩

end Go.Proofs.YthnealhaleccpaaGreatDoor
namespace Go.Proofs.YthnealhaleccpaaGreatDoor
open Go.RowKit
open Plain

/-- In whatever world whose table is right f answers v and touches nothing that was there. -/
def AnsT (f : FuncId) (args : Array Value) (v : Value) : Prop := ∀ w, STab w → Calls Tryz.prog f args w fun e w' => e = .returned v ∧ Below w.heap.size w w'

theorem uf_no (s : ByteArray) (h : sumF s = true ∨ txtF (sumR s) = true ∨ 200 < (txtV (sumR s)).size ∨ ¬ crcN (textS (txtV (sumR s))) = sumV s) : uf s = (⟨#[]⟩, 0) := by
  refine uf_of (Or.inr ⟨rfl, rfl, ?_⟩)
  rintro u T hu rfl
  have e : frameS u ++ T = fixN (crcN (textS u) : Int) 4 ++ (textS u ++ T) := by rw [frameS_in u hu, ByteArray.append_assoc]; rfl
  obtain ⟨a1, a2, a3⟩ := sum_fix (crcN (textS u)) (crcN_le _) (textS u ++ T)
  obtain ⟨b1, b2, b3⟩ := txt_text u T (by omega)
  rw [e, a1, a2, a3, b1, b3] at h
  rcases h with h | h | h | h
  · cases h
  · cases h
  · omega
  · exact h rfl
theorem uf_yes (s : ByteArray) (h1 : sumF s = false) (h2 : txtF (sumR s) = false) (h3 : (txtV (sumR s)).size ≤ 200) (h4 : crcN (textS (txtV (sumR s))) = sumV s) : uf s = (txtV (sumR s), 4 + (textS (txtV (sumR s))).size) := by
  refine uf_of (Or.inl ⟨h3, ?_, txtR (sumR s), ?_⟩)
  · rw [frameS_in _ h3, ByteArray.size_append, sumS_size]
  · have e1 := sum_back s h1
    have e2 := txt_back (sumR s) h2
    rw [frameS_in _ h3, ByteArray.append_assoc, e2]
    unfold sumS
    rw [h4, e1]
theorem summed_eq (s : ByteArray) (h : txtF s = false) : s.extract 0 (s.size - (txtR s).size) = textS (txtV s) := by
  have e := txt_back s h
  have hz : s.size = (textS (txtV s)).size + (txtR s).size := by rw [← ByteArray.size_append, e]
  have ht := ba_take (textS (txtV s)) (txtR s)
  rw [e] at ht
  rw [show s.size - (txtR s).size = (textS (txtV s)).size from by omega, ht]

set_option maxRecDepth 100000 in
set_option maxHeartbeats 1000000 in
theorem implFrame_any (s : ByteArray) (hs : s.size ≤ 1048576) : AnsT 25 #[.string s] (.string (frameS s)) := by
  intro w ht
  have HTB := hide ht
  clear ht
  by_cases h : s.size ≤ 200
  · have t0 : decide ((200 : Int) < (s.size : Int)) = false := by simp; omega
    have HV := hide (showText_any s hs)
    have HF : Hid (frameS s = fixN (crcN (textS s) : Int) 4 ++ textS s) := hide (frameS_in s h)
    have hz := textS_size' s
    have HC : Hid (∀ W, STab W → _) := hide (fun W hW => implCrc_any (textS s) W (by omega) hW)
    have HX := hide (implFix4_any (crcN (textS s) : Int) (by have := crcN_le (textS s); omega))
    have h4 := fixN_size (crcN (textS s) : Int) 4
    have z2 : ¬ 9223372036854775807 < (fixN (crcN (textS s) : Int) 4).size + (textS s).size := by omega
    generalize fixN (crcN (textS s) : Int) 4 = f at *
    generalize crcN (textS s) = c at *
    generalize textS s = t at *
    clear h
    go_enter Tryz.func25, Tryz.ntmps25
    go_wp2_with fail
    refine (HV.out _).mono ?_
    rintro e w1 ⟨rfl, hb1⟩
    have HB1 := hide hb1
    have HT1 := hide (HTB.out.later hb1)
    clear hb1 HV HTB
    go_wp2_with fail
    refine (HC.out _ HT1.out).mono ?_
    rintro e w2 ⟨rfl, hb2⟩
    have HB2 := hide (HB1.out.trans (hb2.mono HB1.out.size))
    clear hb2 HC HB1 HT1
    go_wp2_with fail
    refine (HX.out _).mono ?_
    rintro e w3 ⟨rfl, hb3⟩
    have HB3 := hide (HB2.out.trans (hb3.mono HB2.out.size))
    clear hb3 HX HB2
    go_wp2
    go_ret
    exact ⟨by rw [HF.out]; rfl, HB3.out⟩
  · have t0 : decide ((200 : Int) < (s.size : Int)) = true := by simp; omega
    have HF : Hid (frameS s = ⟨#[]⟩) := hide (frameS_out s h)
    clear h
    go_enter Tryz.func25, Tryz.ntmps25
    go_wp2
    go_ret
    exact ⟨by rw [HF.out]; rfl, Below.refl _ _⟩

theorem tk_new (w : World) (s : ByteArray) : TkAt w w.heap.size s false (w.alloc (.cells #[.string s, .bool false] 62)) := ⟨heap_alloc_new w _, Nat.le_refl _, al1 _ _⟩

set_option maxRecDepth 100000 in
set_option maxHeartbeats 4000000 in
theorem implUnframe_any (s : ByteArray) (hs : s.size ≤ 1048576) : AnsT 27 #[.string s] (.tuple #[.string (uf s).1, .int .i64 ((uf s).2 : Nat)]) := by
  intro w ht
  have HTB := hide ht
  have HA := hide (tk_new w s)
  clear ht
  have HNO := hide (uf_no s)
  have HYES := hide (uf_yes s)
  have hsR : (sumR s).size ≤ s.size := by
    unfold sumR
    split
    · rw [ba_len _ _ _ (by omega) (Nat.le_refl _)]; omega
    · exact Nat.le_refl _
  have HSUM := hide (summed_eq (sumR s))
  have hV := txtV_size (sumR s)
  have hR := txtR_size (sumR s)
  have HTK : Hid (∀ W, TkAt w w.heap.size (sumR s) (false || sumF s) W → _) := hide (fun W hW => tkText_any w W w.heap.size (sumR s) (false || sumF s) hW (by omega))
  have HCRC : Hid ((txtV (sumR s)).size ≤ 200 → ∀ W, STab W → _) := hide (fun hz W hW => implCrc_any (textS (txtV (sumR s))) W (by have := textS_size' (txtV (sumR s)); omega) hW)
  have hsz := textS_size' (txtV (sumR s))
  go_enter Tryz.func27, Tryz.ntmps27
  go_wp2_with fail
  refine (tkSum_any w _ w.heap.size s false HA.out hs).mono ?_
  rintro e w1 ⟨rfl, h1⟩
  obtain ⟨c0, c1⟩ := h1.cells
  have H1 := hide h1
  clear h1 HA
  go_wp2_with fail
  clear c0 c1
  refine (HTK.out _ H1.out).mono ?_
  rintro e w2 ⟨rfl, h2⟩
  obtain ⟨c0, c1⟩ := h2.cells
  have HB2 := hide h2.bel
  have HT2 := hide (HTB.out.later h2.bel)
  clear h2 HTK H1 HTB
  generalize sumV s = sm at *
  generalize sumF s = f1 at *
  generalize sumR s = B at *
  generalize txtF B = f2 at *
  generalize hR0 : txtR B = R at *
  generalize hV0 : txtV B = T at *
  clear hR0 hV0
  by_cases hf : (false || f1 || f2) = true
  · rw [hf] at c1
    have HE : Hid (uf s = (⟨#[]⟩, 0)) := hide (HNO.out (by cases f1 <;> cases f2 <;> simp_all))
    clear HNO HYES HSUM HCRC
    go_wp2
    go_ret2
    rw [HE.out]
    exact ⟨rfl, HB2.out⟩
  have hf' : (false || f1 || f2) = false := by simpa using hf
  rw [hf'] at c1
  have hf1 : f1 = false := by cases f1 <;> simp_all
  have hf2 : f2 = false := by cases f2 <;> simp_all
  clear hf hf'
  by_cases h200 : T.size ≤ 200
  · have t0 : decide ((200 : Int) < (T.size : Int)) = false := by simp; omega
    have HS2 := hide (HSUM.out hf2)
    have HC := hide (HCRC.out h200)
    have b0 : (0 : Int) ≤ (B.size : Int) - (R.size : Int) := by omega
    have b1 : (B.size : Int) - (R.size : Int) ≤ (B.size : Int) := by omega
    have HN : Hid (((B.size : Int) - (R.size : Int)).toNat = B.size - R.size) := hide (by omega)
    have hsl : ∀ W : World, (Instr.slice 9 (.string B) none (some (.int .i64 ((B.size : Int) - (R.size : Int)))) none).run Tryz.prog W = .ok (.string (textS T)) W := fun W => by
      rw [run_slice_string_h W 9 B Tryz.underlying9 .i64 _ b0 b1, HN.out, HS2.out]
    clear HSUM HCRC HS2 HN
    by_cases hc : crcN (textS T) = sm
    · have HE : Hid (uf s = (T, 4 + (textS T).size)) := hide (HYES.out hf1 hf2 h200 hc)
      have q : ((crcN (textS T) : Int) != (sm : Int)) = false := by simp; omega
      clear HNO HYES hc
      generalize crcN (textS T) = cc at *
      generalize textS T = X at *
      go_wp2_with fail
      refine (HC.out _ HT2.out).mono ?_
      rintro e w3 ⟨rfl, hb3⟩
      have HB3 := hide (HB2.out.trans (hb3.mono HB2.out.size))
      clear hb3 HC HB2 HT2 c0 c1
      go_wp2
      go_ret2
      rw [HE.out]
      exact ⟨by simp, HB3.out⟩
    · have HE : Hid (uf s = (⟨#[]⟩, 0)) := hide (HNO.out (Or.inr (Or.inr (Or.inr hc))))
      have q : ((crcN (textS T) : Int) != (sm : Int)) = true := by simp; omega
      clear HNO HYES hc
      generalize crcN (textS T) = cc at *
      generalize textS T = X at *
      go_wp2_with fail
      refine (HC.out _ HT2.out).mono ?_
      rintro e w3 ⟨rfl, hb3⟩
      have HB3 := hide (HB2.out.trans (hb3.mono HB2.out.size))
      clear hb3 HC HB2 HT2 c0 c1
      go_wp2
      go_ret2
      rw [HE.out]
      exact ⟨rfl, HB3.out⟩
  · have t0 : decide ((200 : Int) < (T.size : Int)) = true := by simp; omega
    have HE : Hid (uf s = (⟨#[]⟩, 0)) := hide (HNO.out (Or.inr (Or.inr (Or.inl (by omega)))))
    clear HNO HYES HSUM HCRC
    go_wp2
    go_ret2
    rw [HE.out]
    exact ⟨rfl, HB2.out⟩

end Go.Proofs.YthnealhaleccpaaGreatDoor
namespace Go.Proofs.YthnealhaleccpaaGreatDoor
open Go.RowKit
open Plain

theorem bldSize : (Tryz.prog.info? 51).map (·.size) = some 2 := by kernel_rfl
theorem bldLies : liesAt Tryz.prog Tryz.prog.depth 51 (2 / Tryz.prog.cellsOf 51) 0 51 1 = true := by kernel_rfl
theorem bldByte : (Tryz.prog.info? 5).map (fun i => (i.zero, i.size, i.bytes)) = some (some (.int .u8 0), 1, 1) := by kernel_rfl

set_option maxHeartbeats 1000000 in
set_option maxRecDepth 100000 in
/-- copyCheck leaves a builder that knows its own place, with what it held. -/
theorem bldCheck_any (B b : Nat) (bs : List Value) (w : World) (h : Lib.IsBuilder 51 5 B b bs w) :
    Calls Tryz.prog 48 #[.pointer (some ⟨b, 0, none⟩)] w fun e w' => e = .returned (.tuple #[]) ∧ Lib.BuilderAt 51 5 B b (.pointer (some ⟨b, 0, none⟩)) bs w' ∧ Below B w w' := by
  obtain ⟨j, hj, hjs⟩ := Option.map_eq_some_iff.1 bldSize
  rcases h with h | h
  · have HE := hide (h.used (.pointer (some ⟨b, 0, none⟩)))
    have HB := hide ((Below.refl B w).setCell (p := ⟨b, 0, none⟩) h.1 (.pointer (some ⟨b, 0, none⟩)))
    have d0 := h.cell0
    have f0 := h.frozen0
    have c1 := Lib.run_to_unsafe (P := Tryz.prog) w ⟨b, 0, none⟩ Tryz.underlying49 Tryz.underlying96 hj (by rw [hjs]; decide) h.shape (Nat.zero_lt_succ 1)
    have c2 := @run_callFunc_extern Tryz.prog 72 _ Extern.AbiNoEscape.same Tryz.func72 (by kernel_rfl) (by kernel_rfl) (by kernel_rfl) (by kernel_rfl)
    have c3 : ∀ x, (Extern.AbiNoEscape.same #[x]).run Tryz.prog w = .ok x w := fun x => Lib.run_noEscape w x
    have c4 := Lib.run_from_unsafe (P := Tryz.prog) w ⟨b, 0, none⟩ Tryz.underlying96 Tryz.underlying49 hj h.shape bldLies
    clear h
    go_enter Tryz.func48, Tryz.ntmps48
    go_wp2
    go_end0
    exact ⟨rfl, HE.out, HB.out⟩
  · have HE := hide h
    have d0 := h.cell0
    have c1 := Lib.run_neq_ptr_same (P := Tryz.prog) w ⟨b, 0, none⟩ Tryz.underlying49 hj
    clear h
    go_enter Tryz.func48, Tryz.ntmps48
    go_wp2
    go_end0
    exact ⟨rfl, HE.out, Below.refl B _⟩

/-- A row of bytes of the call's own, grown, is put into the builder's block. -/
theorem bld_grown {B b : Nat} {v v' : Value} {bs cs : List Value} {w1 w2 : World} (hB : B ≤ b) (hbk : w1.heap[b]? = some (.cells #[.pointer (some ⟨b, 0, none⟩), v] 51 (0, 0))) (hown : w1.ownsRow B 5 1 v bs.length bs) (hne : v.ownBlock ≠ some b) (hown' : w2.ownsRow B 5 1 v' cs.length cs) (hg : w1.grownBy w2 v.ownBlock) (hBw : B ≤ w1.heap.size) :
    w2.heap[b]? = some (.cells #[.pointer (some ⟨b, 0, none⟩), v] 51 (0, 0)) ∧ Lib.BuilderAt 51 5 B b (.pointer (some ⟨b, 0, none⟩)) cs (w2.setCell ⟨b, 1, none⟩ v') ∧ Below B w1 (w2.setCell ⟨b, 1, none⟩ v') := by
  have h2 := (hg.block b (Array.getElem?_eq_some_iff.1 hbk).1 (fun e => hne e.symm)).trans hbk
  exact ⟨h2, Lib.BuilderAt.put hB h2 hown' (by decide), ((Below.refl B w1).grown hg hBw (fun k hk => (hown.lt k hk).1)).setCell (p := ⟨b, 1, none⟩) hB _⟩

set_option maxHeartbeats 2000000 in
set_option maxRecDepth 100000 in
/-- WriteString puts a text behind what the builder holds. -/
theorem bldWrite_any (B b : Nat) (bs : List Value) (s : ByteArray) (w : World) (h : Lib.IsBuilder 51 5 B b bs w) (hlen : bs.length + s.size ≤ 140737488355328) (hBw : B ≤ w.heap.size) :
    Calls Tryz.prog 23 #[.pointer (some ⟨b, 0, none⟩), .string s] w fun e w' => e = .returned (.tuple #[.int .i64 s.size, .nilIface]) ∧ (Lib.BuilderAt 51 5 B b (.pointer (some ⟨b, 0, none⟩)) (bs ++ Lib.strCells s) w' ∧ Below B w w') := by
  obtain ⟨i0, hi, hz0, hz1, hz2⟩ := info_parts bldByte
  have HC := hide (bldCheck_any B b bs w h)
  clear h
  go_enter Tryz.func23, Tryz.ntmps23
  go_wp2_with fail
  refine HC.out.mono ?_
  rintro e w1 ⟨rfl, ⟨hB, v, hbk, hown, hne⟩, hb1⟩
  have HK := hide hbk
  have HO := hide hown
  have HN := hide hne
  have HB1 := hide hb1
  have hs1 : B ≤ w1.heap.size := Nat.le_trans hBw hb1.size
  have d0 : w1.cell? ⟨b, 0, none⟩ = _ := cell_of_row w1 _ 0 _ _ _ hbk
  have d1 : w1.cell? ⟨b, 1, none⟩ = _ := cell_of_row w1 _ 1 _ _ _ hbk
  clear hbk hown hne hb1 HC
  go_wp2_with (at_builtin; refine Lib.wpList_append_own_string _ rfl _ _ 22 9 rfl B 5 i0 Tryz.underlying22 Tryz.underlying9 hi hz0 hz1 hz2 _ _ _ rfl HO.out s rfl (by unfold maxLen; omega) hlen hs1 ?_; intro v' w2 ho2 hg2 _; have HG := hide (bld_grown (cs := bs ++ Lib.strCells s) hB HK.out HO.out HN.out (by simpa [Lib.strCells_length] using ho2) hg2 hs1); obtain ⟨ao, n', cap, rfl⟩ : ∃ ao n' cap, v' = .slice ao n' cap := (by rcases ho2.2 with ⟨e, _⟩ | ⟨_, _, _, e, _⟩ <;> exact ⟨_, _, _, e⟩); have y0 : w2.cell? ⟨b, 0, none⟩ = _ := cell_of_row w2 _ 0 _ _ _ HG.out.1; have y1 : w2.cell? ⟨b, 1, none⟩ = _ := cell_of_row w2 _ 1 _ _ _ HG.out.1; have g1 := Lib.frozen_of_heap HG.out.1 1; clear ho2 hg2)
  go_ret2
  exact ⟨rfl, HG.out.2.1, HB1.out.trans HG.out.2.2⟩

/-- What it holds, as a text. -/
theorem bldString_any (B b : Nat) (t : ByteArray) (w : World) (h : Lib.IsBuilder 51 5 B b (Lib.strCells t) w) (hBw : B ≤ w.heap.size) :
    Calls Tryz.prog 26 #[.pointer (some ⟨b, 0, none⟩)] w fun e w' => e = .returned (.string t) ∧ Below B w w' := Tryz.Builder_String_any B b t.data.toList w h hBw

theorem bld_later {B b : Nat} {p : Value} {bs : List Value} {w w' : World} (h : Lib.BuilderAt 51 5 B b p bs w) (hb : Below w.heap.size w w') : Lib.BuilderAt 51 5 B b p bs w' := by
  have hlt := h.lt
  obtain ⟨hB, v, hbk, hown, hne⟩ := h
  refine ⟨hB, v, (hb.block b hlt).trans hbk, ⟨hown.1, ?_⟩, hne⟩
  rcases hown.2 with h | ⟨g, c, cur, e, hbg, hg, h1⟩
  · exact .inl h
  · exact .inr ⟨g, c, cur, e, hbg, (hb.block g (Array.getElem?_eq_some_iff.1 hg).1).trans hg, h1⟩

end Go.Proofs.YthnealhaleccpaaGreatDoor
namespace Go.Proofs.YthnealhaleccpaaGreatDoor
open Go.RowKit
open Plain

theorem isb_later {B b : Nat} {bs : List Value} {w w' : World} (h : Lib.IsBuilder 51 5 B b bs w) (hb : Below w.heap.size w w') : Lib.IsBuilder 51 5 B b bs w' := by
  rcases h with h | h
  · exact .inl (bld_later h hb)
  · exact .inr (bld_later h hb)
theorem strCells_append (s t : ByteArray) : Lib.strCells (s ++ t) = Lib.strCells s ++ Lib.strCells t := by
  unfold Lib.strCells
  rw [ByteArray.data_append, Array.toList_append, List.map_append]
theorem isb_lt {B b : Nat} {bs : List Value} {w : World} (h : Lib.IsBuilder 51 5 B b bs w) : b < w.heap.size := by
  rcases h with h | h
  · exact h.lt
  · exact h.lt
/-- A list's block stands where only blocks from its own successor on were written. -/
theorem LvAt.over {w : World} {B : Nat} {T : TypeId} {x : Int} {a : Option Addr} {n cap : Nat} {zs : List Int} {W W' : World} {K : Nat} (h : LvAt w B T x a n cap zs W) (hr : IRow w 0 a n zs) (hb : Below K W W') (hB : B < K) (hK : w.heap.size ≤ K) : LvAt w B T x a n cap zs W' :=
  ⟨(hb.block _ hB).trans h.row, hr.later (h.bel.trans (hb.mono hK)) (Nat.le_refl _), h.bel.trans (hb.mono hK)⟩

set_option maxRecDepth 100000 in
set_option maxHeartbeats 4000000 in
theorem implShowL_any (w : World) (ht : STab w) (x : Int) (a : Option Addr) (n cap : Nat) (zs : List Int) (hr : IRow w 0 a n zs) (hn : n ≤ 1048576) :
    Calls Tryz.prog 6 #[.agg #[.int .i64 x, .slice a n cap]] w fun e w' => e = .returned (.string (showL ⟨x, zs⟩)) ∧ Below w.heap.size w w' := by
  have hlen := hr.len
  obtain ⟨W, hW⟩ : ∃ W, W = w.alloc (.cells #[.int .i64 x, .slice a n cap] 26) := ⟨_, rfl⟩
  have HA : Hid (LvAt w w.heap.size 26 x a n cap zs W) := hide (by rw [hW]; exact LvAt.new 26 x cap hr)
  obtain ⟨y0, y1⟩ := HA.out.cells
  have HO := hide (implLive_any W x a n cap zs HA.out.ids hn)
  have HR := hide hr
  have HT := hide ht
  clear hr ht
  by_cases hb : liveB ⟨x, zs⟩ = true
  · have HV : Hid (showL ⟨x, zs⟩ = frameS (bodyK x zs zs.length)) := hide (by rw [bodyK_all]; exact showL_in hb)
    have hbd := live_bd hb
    have HSZ := hide (bodyK_size x zs)
    rw [hb] at HO
    simp only at hbd
    go_enter Tryz.func6, Tryz.ntmps6
    go_wp2_with fail
    rw [← hW]
    clear hW
    refine HO.out.mono ?_
    rintro e w1 ⟨rfl, hb1⟩
    have HA1 := hide (HA.out.later hb1)
    clear HA HO hb1 y0 y1
    have HF := hide (Lib.fresh_isBuilder 51 5 w1)
    have HLT : Hid (w.heap.size < w1.heap.size) := hide (lt_of_block HA1.out.row)
    have hA2 := HA1.out.later (al1 w1 (.cells #[.pointer none, .slice none 0 0] 51))
    have HK : Hid (∀ W', LvAt w w.heap.size 26 x a n cap zs W' → W'.cell? ⟨w.heap.size, 0, none⟩ = some (.int .i64 x) ∧ W'.cell? ⟨w.heap.size, 1, none⟩ = some (.slice a n cap) ∧ Hid (LvAt w w.heap.size 26 x a n cap zs W')) := hide (fun W' h => ⟨h.cells.1, h.cells.2, hide h⟩)
    have HKW : Hid (∀ W' W'', LvAt w w.heap.size 26 x a n cap zs W' → Below w1.heap.size W' W'' → LvAt w w.heap.size 26 x a n cap zs W'') := hide (fun W' W'' h hb => h.over HR.out hb HLT.out (Nat.le_of_lt HLT.out))
    have hS1 := HK.out _ (hA2.later (Below.refl _ _).drew)
    have HI1 := hide (isb_later HF.out (Below.refl _ _).drew)
    have HV1 := hide (implVar_any x)
    have HV2 := hide (implVar_any (n : Int))
    have hs1 := varS_size x
    have hs2 := varS_size (n : Int)
    have hz1 : ¬ 9223372036854775807 < (varS x).size + (varS (n : Int)).size := by omega
    have HB0 : Hid (bodyK x zs 0 = varS x ++ varS (n : Int)) := hide (by rw [bodyK_zero, hlen])
    have HWR : Hid (∀ W', Lib.IsBuilder 51 5 w1.heap.size w1.heap.size [] W' → Calls Tryz.prog 23 #[.pointer (some ⟨w1.heap.size, 0, none⟩), .string (varS x ++ varS (n : Int))] W' fun e w' => (∃ y, e = .returned (.tuple #[.int .i64 y, .nilIface])) ∧ Lib.IsBuilder 51 5 w1.heap.size w1.heap.size (Lib.strCells (bodyK x zs 0)) w' ∧ Below w1.heap.size W' w') := hide (fun W' h =>
      (bldWrite_any w1.heap.size w1.heap.size [] (varS x ++ varS (n : Int)) W' h (by rw [ByteArray.size_append]; simp; omega) (Nat.le_of_lt (isb_lt h))).mono (fun e w' ⟨h1, h2, h3⟩ => ⟨⟨_, h1⟩, by rw [HB0.out]; exact .inr h2, h3⟩))
    clear hs1 hs2 hA2 HF HB0
    generalize varS x = vx at *
    generalize varS (n : Int) = vn at *
    go_wp2_with fail
    go_region_held3 (fun W' => W'.cell? ⟨w.heap.size, 0, none⟩ = some (.int .i64 x) ∧ W'.cell? ⟨w.heap.size, 1, none⟩ = some (.slice a n cap) ∧ Hid (LvAt w w.heap.size 26 x a n cap zs W')) (assumption) (first
      | (go_at_call_of 24 (Value.int IntKind.i64 x); refine (HV1.out _).mono ?_; rintro e w4 ⟨rfl, hb4⟩; have hS4 := HK.out w4 (hS1.2.2.out.later hb4); have HI4 := hide (isb_later HI1.out hb4))
      | (go_at_call 24; refine (HV2.out _).mono ?_; rintro e w5 ⟨rfl, hb5⟩; have hS5 := HK.out w5 (hS4.2.2.out.later hb5); have HI5 := hide (isb_later HI4.out hb5))
      | (go_at_call 23; refine (HWR.out w5 HI5.out).mono ?_; rintro e w6 ⟨⟨y6, rfl⟩, hI6, hb6⟩; have hS6 := HK.out w6 (HKW.out w5 w6 hS5.2.2.out hb6)))
    have HA6 := hide hS6.2.2.out
    have HI6 := hide hI6
    clear hS6 hb6 hI6 HI5 hS5 hb5 HI4 hS4 hb4 HI1 hS1 HV1 HV2 HWR
    obtain ⟨y0, y1⟩ := HA6.out.cells
    go_wp2
    clear y0 y1
    go_loopw [21] (fun i wr => ∃ k : Nat, k ≤ n ∧ i = .int .i64 k ∧ Hid (Lib.IsBuilder 51 5 w1.heap.size w1.heap.size (Lib.strCells (bodyK x zs k)) wr) ∧ Hid (LvAt w w.heap.size 26 x a n cap zs wr)) (fun i _ => n - (intOf i).toNat)
    case atStart => exact ⟨0, by omega, rfl, HI6, HA6⟩
    case round =>
      clear HA6 HI6
      obtain ⟨k, hk, rfl, HI, HA⟩ := hrel
      have hsk := HSZ.out k (by omega)
      by_cases hlt : k < n
      · have hkz : k < zs.length := by omega
        obtain ⟨b, off, rfl, -, hbw, e1⟩ := HA.out.ids.cells k hkz
        have HV1 := hide (implVar_any (zs[k]))
        have h7 := varS_size (zs[k])
        have HC : Hid (bodyK x zs (k + 1) = bodyK x zs k ++ varS (zs[k])) := hide (bodyK_succ x zs k hkz)
        obtain ⟨z, hz⟩ : ∃ z, zs[k] = z := ⟨_, rfl⟩
        rw [hz] at e1 HV1 HC h7
        clear hz
        generalize varS z = S at *
        generalize bodyK x zs k = A at *
        have hk2 : (k : Int) < (n : Int) := by omega
        go_wp2_with fail
        refine (HV1.out _).mono ?_
        rintro e w4 ⟨rfl, hb4⟩
        have HA4 := hide (HA.out.later hb4)
        have HI4 := hide (isb_later HI.out hb4)
        have HW := hide (bldWrite_any w1.heap.size w1.heap.size (Lib.strCells A) S w4 HI4.out (by rw [Lib.strCells_length]; omega) (Nat.le_of_lt (isb_lt HI4.out)))
        clear hb4 HA HI HI4 HV1 e1
        go_wp2_with fail
        refine HW.out.mono ?_
        rintro e w5 ⟨rfl, hI5, hb5⟩
        have HA5 := hide (HKW.out w4 w5 HA4.out hb5)
        have HI5 : Hid (Lib.IsBuilder 51 5 w1.heap.size w1.heap.size (Lib.strCells (bodyK x zs (k + 1))) w5) := hide (by rw [HC.out, strCells_append]; exact .inr hI5)
        clear hI5 hb5 HA4 HW
        go_wp2
        go_roundw
        case rel => exact ⟨k + 1, by omega, by go_num, HI5, HA5⟩
        case measure => first | (simp [intOf]; done) | (simp [intOf]; omega)
      · obtain rfl : k = n := by omega
        have HS := hide (bldString_any w1.heap.size w1.heap.size (bodyK x zs k) wr HI.out (Nat.le_of_lt (isb_lt HI.out)))
        have HF := hide (fun W h => implFrame_any (bodyK x zs k) (by omega) W h)
        have HE : Hid (showL ⟨x, zs⟩ = frameS (bodyK x zs k)) := hide (by rw [HV.out, hlen])
        generalize frameS (bodyK x zs k) = F at *
        generalize bodyK x zs k = A at *
        go_wp2_with fail
        refine HS.out.mono ?_
        rintro e w4 ⟨rfl, hb4⟩
        have HB4 := hide (HKW.out wr w4 HA.out hb4).bel
        clear hb4 HA HI HS
        go_wp2_with fail
        refine (HF.out _ (HT.out.later HB4.out)).mono ?_
        rintro e w5 ⟨rfl, hb5⟩
        have HB5 := hide (HB4.out.trans (hb5.mono HB4.out.size))
        clear hb5 HB4 HF
        go_wp2
        go_ret
        exact ⟨by rw [HE.out]; rfl, HB5.out⟩
  · have hb : liveB ⟨x, zs⟩ = false := by simpa using hb
    have HV : Hid (showL ⟨x, zs⟩ = ⟨#[]⟩) := hide (showL_out hb)
    rw [hb] at HO
    clear hb y0 y1
    go_enter Tryz.func6, Tryz.ntmps6
    go_wp2_with fail
    rw [← hW]
    clear hW
    refine HO.out.mono ?_
    rintro e w1 ⟨rfl, hb1⟩
    have HB := hide (HA.out.later hb1).bel
    clear HA HO hb1
    go_wp2
    go_ret
    exact ⟨by rw [HV.out]; rfl, HB.out⟩

end Go.Proofs.YthnealhaleccpaaGreatDoor
namespace Go.Proofs.YthnealhaleccpaaGreatDoor
open Go.RowKit
open Plain

set_option maxRecDepth 100000 in
set_option maxHeartbeats 4000000 in
theorem implReadL_any (s : ByteArray) (hs : s.size ≤ 1048576) (w : World) (ht : STab w) :
    Calls Tryz.prog 7 #[.string s] w fun e w' => (∃ a n cap, e = .returned (.tuple #[.agg #[.int .i64 (rl s).1.next, .slice a n cap], .bool (rl s).2]) ∧ IOwn w' w.heap.size (.slice a n cap) (rl s).1.ids) ∧ Below w.heap.size w w' := by
  have HU := hide (implUnframe_any s hs)
  have hub := uf_bd s
  have HSH := hide (fun (h : ∃ u, liveB u = true ∧ showL u = s) => (by obtain ⟨u, hu, e⟩ := h; exact ⟨u, hu, RL_shown hu e⟩ : ∃ u, liveB u = true ∧ s.size ≠ 0 ∧ (uf s).2 = s.size ∧ failT (uf s).1 = false ∧ cntF (uf s).1 ≤ 60 ∧ failF (cntF (uf s).1) (tailF (uf s).1) = false ∧ (restF (cntF (uf s).1) (tailF (uf s).1)).size = 0 ∧ (⟨((rv (uf s).1).1 : Int), idsF (cntF (uf s).1) (tailF (uf s).1)⟩ : LiveV) = u))
  have HNO : Hid ((¬ ∃ u, liveB u = true ∧ showL u = s) → rl s = (zeroL, false)) := hide (fun h => RL_no (fun u hu e => h ⟨u, hu, e⟩))
  have HYES := hide (fun t (h : uf s = (t, s.size)) h2 h3 h4 h5 h6 => RL_yes (t := t) h h2 h3 h4 h5 h6)
  obtain ⟨t, ht0⟩ : ∃ t, (uf s).1 = t := ⟨_, rfl⟩
  obtain ⟨m, hm0⟩ : ∃ m, (uf s).2 = m := ⟨_, rfl⟩
  have HP : Hid (uf s = (t, m)) := hide (by rw [← ht0, ← hm0])
  rw [ht0, hm0] at HU hub HSH
  clear ht0 hm0
  obtain ⟨W, hW⟩ : ∃ W, W = w.alloc (.cells #[.int .i64 0, .slice none 0 0] 26) := ⟨_, rfl⟩
  have HW0 : Hid (W.heap[w.heap.size]? = some (.cells #[.int .i64 0, .slice none 0 0] 26 (0, 0))) := hide (by rw [hW]; exact heap_alloc_new w _)
  have HB0 : Hid (Below w.heap.size w W) := hide (by rw [hW]; exact (Below.refl _ w).alloc (Nat.le_refl _) _)
  have HT0 : Hid (STab W) := hide (ht.later HB0.out)
  have HE : Hid (∀ W', Below w.heap.size w W' → rl s = (zeroL, false) → (∃ a n cap, Ending.returned (.tuple #[.agg #[.int .i64 0, .slice none 0 0], .bool false]) = .returned (.tuple #[.agg #[.int .i64 (rl s).1.next, .slice a n cap], .bool (rl s).2]) ∧ IOwn W' w.heap.size (.slice a n cap) (rl s).1.ids) ∧ Below w.heap.size w W') := hide (fun W' hb e => by
    rw [e]
    exact ⟨⟨none, 0, 0, rfl, (World.ownsRow_nil _ _ _ _ : IOwn W' w.heap.size (.slice none 0 0) [])⟩, hb⟩)
  clear ht
  by_cases h2 : m = 0
  · have t2 : ((m : Int) == 0) = true := by simpa using h2
    have HV := hide (HNO.out (fun h => by obtain ⟨u, _, a1, a2, -⟩ := HSH.out h; omega))
    clear h2 hub HSH HNO HYES HP
    go_enter Tryz.func7, Tryz.ntmps7
    go_wp2_with fail
    rw [← hW]
    clear hW
    refine (HU.out _ HT0.out).mono ?_
    rintro e w1 ⟨rfl, hb1⟩
    obtain ⟨y0, y1, f0, f1⟩ := cells2 ((hb1.block _ (lt_of_block HW0.out)).trans HW0.out)
    have HB1 := hide (HB0.out.trans (hb1.mono HB0.out.size))
    clear hb1 HB0 HW0 HT0
    go_wp2
    refine bodyPost_ret (v := .tuple #[.agg #[.int .i64 0, .slice none 0 0], .bool false]) (by simp [results, Tryz.results7, go_sem, *]) rfl (HE.out _ ?_ HV.out)
    iterate 2 (refine Below.setCell ?_ (by exact Nat.le_refl _) _)
    exact HB1.out
  · have t2 : ((m : Int) == 0) = false := by simpa using h2
    by_cases h1 : m = s.size
    · have t1 : ((m : Int) != (s.size : Int)) = false := by simp [h1]
      have HP2 : Hid (uf s = (t, s.size)) := hide (by rw [HP.out, h1])
      have hsz : s.size ≠ 0 := by omega
      have HS0 := hide hsz
      clear h1 h2 HP hsz
      obtain ⟨ht2, -, -⟩ := hub
      by_cases hc : cntF t ≤ 60
      · obtain ⟨nx, hn0⟩ : ∃ nx, (rv t).1 = nx := ⟨_, rfl⟩
        obtain ⟨fl, hfl⟩ : ∃ fl, (failT t || failF (cntF t) (tailF t)) = fl := ⟨_, rfl⟩
        have HTL := hide (fun w' W' B h => takeLive_few w' W' B t h (by omega) hc)
        have hy := HYES.out t HP2.out HS0.out
        rw [hn0] at HTL hy HSH
        rw [hfl] at HTL
        have HY := hide hy
        clear hn0 hy HYES
        go_enter Tryz.func7, Tryz.ntmps7
        go_wp2_with fail
        rw [← hW]
        clear hW
        refine (HU.out _ HT0.out).mono ?_
        rintro e w1 ⟨rfl, hb1⟩
        have HX1 := hide ((hb1.block _ (lt_of_block HW0.out)).trans HW0.out)
        have HB1 := hide (HB0.out.trans (hb1.mono HB0.out.size))
        have HT1 := hide (HT0.out.later hb1)
        clear hb1 HB0 HW0 HT0
        go_wp2_with fail
        have HTK : Hid (TkAt w1 w1.heap.size t false (w1.alloc (.cells #[.string t, .bool false] 62))) := hide ⟨heap_alloc_new w1 _, Nat.le_refl _, al1 w1 _⟩
        refine (HTL.out w1 _ w1.heap.size HTK.out).mono ?_
        rintro e w2 ⟨⟨a, n, cap, rfl, ho2⟩, hk2, -⟩
        have HO2 := hide (ho2.mono (show w1.heap.size ≤ _ by simp))
        have HK2 := hide hk2
        have HX2 := hide ((hk2.bel.block _ (lt_of_block HX1.out)).trans HX1.out)
        have HT2 := hide (HT1.out.later hk2.bel)
        have HB2 := hide (HB1.out.trans (hk2.bel.mono HB1.out.size))
        have hnl := ho2.len
        rw [idsF_length] at hnl
        have hbY : Below w2.heap.size w2 (w2.alloc (.cells #[.int .i64 (nx : Int), .slice a n cap] 26)) := al1 w2 _
        have HKY := hide (hk2.later hbY)
        have HXY := hide ((hbY.block _ (lt_of_block HX2.out)).trans HX2.out)
        have HTY := hide (HT2.out.later hbY)
        have HBY := hide (HB2.out.trans (hbY.mono HB2.out.size))
        have HOY := hide (HO2.out.later hbY (Nat.le_refl _))
        have HLT : Hid (w.heap.size < w1.heap.size ∧ w1.heap.size < w2.heap.size) := hide ⟨lt_of_block HX1.out, lt_of_block hk2.row⟩
        have HNL := hide hnl
        obtain ⟨k0, k1⟩ := HKY.out.cells
        obtain ⟨x0, x1, f0, f1⟩ := cells2 HXY.out
        obtain ⟨v0, v1, -, -⟩ := cells2 (heap_alloc_new w2 (.cells #[.int .i64 (nx : Int), .slice a n cap] 26))
        clear HTL HTK HX1 HB1 HT1 ho2 hk2 hnl HO2 HK2 HX2 HT2 HB2 hbY HKY HXY
        cases fl with
        | true =>
          have HV := hide (HNO.out (fun h => by obtain ⟨u, _, _, _, a3, _, a5, -⟩ := HSH.out h; rw [a3, a5] at hfl; cases hfl))
          clear HSH HNO HY HP2 hfl
          go_wp2
          refine bodyPost_ret (v := .tuple #[.agg #[.int .i64 0, .slice none 0 0], .bool false]) (by simp [results, Tryz.results7, go_sem, *]) rfl (HE.out _ ?_ HV.out)
          iterate 2 (refine Below.setCell ?_ (by exact Nat.le_refl _) _)
          exact HBY.out
        | false =>
          have hf0 : failT t = false ∧ failF (cntF t) (tailF t) = false := Bool.or_eq_false_iff.1 hfl
          by_cases hr : (restF (cntF t) (tailF t)).size = 0
          · have e0 := nil_eq hr
            have e1 : (restF (cntF t) (tailF t)).toList.isEmpty = true := by rw [e0]; rfl
            have HIR := hide HOY.out.row
            have hn6 : n ≤ 60 := by have := HNL.out; omega
            have HV : Hid (liveB ⟨(nx : Int), idsF (cntF t) (tailF t)⟩ = true → rl s = (⟨(nx : Int), idsF (cntF t) (tailF t)⟩, true)) := hide (HY.out hf0.1 hf0.2 hr)
            have HZ : Hid (liveB ⟨(nx : Int), idsF (cntF t) (tailF t)⟩ = false → rl s = (zeroL, false)) := hide (fun hb => HNO.out (fun h => by
              obtain ⟨u, hu, _, _, _, _, _, _, a7⟩ := HSH.out h
              rw [a7, hu] at hb
              cases hb))
            have HXX := hide (x0 : (w2.alloc (.cells #[.int .i64 (nx : Int), .slice a n cap] 26)).cell? ⟨w.heap.size, 0, none⟩ = some (.int .i64 0))
            clear HSH HNO HY HP2 hfl hf0 hr
            generalize idsF (cntF t) (tailF t) = ids at *
            generalize restF (cntF t) (tailF t) = rest at *
            go_wp2_with fail
            refine (implLive_any _ (nx : Int) a n cap ids HIR.out (by omega)).mono ?_
            rintro e w6 ⟨rfl, hb6⟩
            have HB6 := hide (HBY.out.trans (hb6.mono HBY.out.size))
            have HO6 := hide (HOY.out.later hb6 (Nat.le_refl _))
            have q0 := (hb6.cell (p := ⟨w.heap.size, 0, none⟩) (by have := HLT.out; simp; omega)).trans x0
            have q1 := (hb6.cell (p := ⟨w.heap.size, 1, none⟩) (by have := HLT.out; simp; omega)).trans x1
            have q2 := (hb6.frozen (p := ⟨w.heap.size, 0, none⟩) (by have := HLT.out; simp; omega)).trans f0
            have q3 := (hb6.frozen (p := ⟨w.heap.size, 1, none⟩) (by have := HLT.out; simp; omega)).trans f1
            have q4 := (hb6.cell (p := ⟨w2.heap.size, 0, none⟩) (by simp)).trans v0
            have q5 := (hb6.cell (p := ⟨w2.heap.size, 1, none⟩) (by simp)).trans v1
            clear hb6 HBY HOY x0 x1 f0 f1 v0 v1 k0 k1 HIR HTY HXX
            cases hb : liveB ⟨(nx : Int), ids⟩ with
            | true =>
              have HF := hide (HV.out hb)
              clear hb HV HZ
              go_wp2
              refine bodyPost_ret (v := .tuple #[.agg #[.int .i64 (nx : Int), .slice a n cap], .bool true]) (by simp [results, Tryz.results7, go_sem, *]) rfl ?_
              rw [HF.out]
              refine ⟨⟨a, n, cap, rfl, ?_⟩, ?_⟩
              · have hl := HLT.out
                refine IOwn.mono ?_ (show w.heap.size ≤ w1.heap.size by omega)
                iterate 2 (refine IOwn.setCell ?_ _ _ (by dsimp only; omega))
                exact HO6.out
              · iterate 2 (refine Below.setCell ?_ (by exact Nat.le_refl _) _)
                exact HB6.out
            | false =>
              have HF := hide (HZ.out hb)
              clear hb HV HZ
              go_wp2
              refine bodyPost_ret (v := .tuple #[.agg #[.int .i64 0, .slice none 0 0], .bool false]) (by simp [results, Tryz.results7, go_sem, *]) rfl (HE.out _ ?_ HF.out)
              iterate 2 (refine Below.setCell ?_ (by exact Nat.le_refl _) _)
              exact HB6.out
          · have HV := hide (HNO.out (fun h => by obtain ⟨u, _, _, _, _, _, _, a6, -⟩ := HSH.out h; exact hr a6))
            have e0 := nil_ne hr
            have e1 : (restF (cntF t) (tailF t)).toList.isEmpty = false := by cases hq : (restF (cntF t) (tailF t)).toList with | nil => exact absurd hq e0 | cons x r => rfl
            clear HSH HNO HY HP2 hfl hf0 hr
            go_wp2
            refine bodyPost_ret (v := .tuple #[.agg #[.int .i64 0, .slice none 0 0], .bool false]) (by simp [results, Tryz.results7, go_sem, *]) rfl (HE.out _ ?_ HV.out)
            iterate 2 (refine Below.setCell ?_ (by exact Nat.le_refl _) _)
            exact HBY.out
      · have HV := hide (HNO.out (fun h => by obtain ⟨u, _, _, _, _, a4, -⟩ := HSH.out h; exact hc a4))
        have HTL := hide (fun w' W' B h => takeLive_many w' W' B t h (by omega) (by omega))
        clear HSH HNO HYES HP2
        go_enter Tryz.func7, Tryz.ntmps7
        go_wp2_with fail
        rw [← hW]
        clear hW
        refine (HU.out _ HT0.out).mono ?_
        rintro e w1 ⟨rfl, hb1⟩
        have HX1 := hide ((hb1.block _ (lt_of_block HW0.out)).trans HW0.out)
        have HB1 := hide (HB0.out.trans (hb1.mono HB0.out.size))
        clear hb1 HB0 HW0 HT0
        go_wp2_with fail
        have HTK : Hid (TkAt w1 w1.heap.size t false (w1.alloc (.cells #[.string t, .bool false] 62))) := hide ⟨heap_alloc_new w1 _, Nat.le_refl _, al1 w1 _⟩
        refine (HTL.out w1 _ w1.heap.size HTK.out).mono ?_
        rintro e w2 ⟨rfl, hk2, -⟩
        have hbY : Below w2.heap.size w2 (w2.alloc (.cells #[.int .i64 0, .slice none 0 0] 26)) := al1 w2 _
        have hHX2 := (hk2.bel.block _ (lt_of_block HX1.out)).trans HX1.out
        have HBY := hide ((HB1.out.trans (hk2.bel.mono HB1.out.size)).trans (hbY.mono (HB1.out.trans (hk2.bel.mono HB1.out.size)).size))
        obtain ⟨k0, k1⟩ := (hk2.later hbY).cells
        obtain ⟨x0, x1, f0, f1⟩ := cells2 ((hbY.block _ (lt_of_block hHX2)).trans hHX2)
        clear HTL HTK HX1 HB1 hk2 hbY hHX2
        go_wp2
        refine bodyPost_ret (v := .tuple #[.agg #[.int .i64 0, .slice none 0 0], .bool false]) (by simp [results, Tryz.results7, go_sem, *]) rfl (HE.out _ ?_ HV.out)
        iterate 2 (refine Below.setCell ?_ (by exact Nat.le_refl _) _)
        exact HBY.out
    · have t1 : ((m : Int) != (s.size : Int)) = true := by simp; omega
      have HV := hide (HNO.out (fun h => by obtain ⟨u, _, _, a2, -⟩ := HSH.out h; exact h1 a2))
      clear h1 h2 hub HSH HNO HYES HP
      go_enter Tryz.func7, Tryz.ntmps7
      go_wp2_with fail
      rw [← hW]
      clear hW
      refine (HU.out _ HT0.out).mono ?_
      rintro e w1 ⟨rfl, hb1⟩
      obtain ⟨y0, y1, f0, f1⟩ := cells2 ((hb1.block _ (lt_of_block HW0.out)).trans HW0.out)
      have HB1 := hide (HB0.out.trans (hb1.mono HB0.out.size))
      clear hb1 HB0 HW0 HT0
      go_wp2
      refine bodyPost_ret (v := .tuple #[.agg #[.int .i64 0, .slice none 0 0], .bool false]) (by simp [results, Tryz.results7, go_sem, *]) rfl (HE.out _ ?_ HV.out)
      iterate 2 (refine Below.setCell ?_ (by exact Nat.le_refl _) _)
      exact HB1.out

end Go.Proofs.YthnealhaleccpaaGreatDoor
namespace Go.Proofs.YthnealhaleccpaaGreatDoor
namespace Plain

theorem u8_digit (d : Nat) (h : d < 10) : (UInt8.ofNat (48 + d)).toNat = 48 + d := by simp; omega
theorem digitVal_of (d : Nat) (h : d < 10) : Lib.digitVal (UInt8.ofNat (48 + d)) = some d := by
  unfold Lib.digitVal
  rw [u8_digit d h, if_pos (by omega)]
  congr 1
  omega
theorem decFrom_snoc (l : List UInt8) (b : UInt8) (d : Nat) (hd : Lib.digitVal b = some d) : ∀ acc n, Lib.decFrom acc l = some n → Lib.decFrom acc (l ++ [b]) = some (n * 10 + d) := by
  induction l with
  | nil => intro acc n h; simp only [Lib.decFrom, Option.some.injEq] at h; subst h; simp [Lib.decFrom, hd]
  | cons a r ih =>
    intro acc n h
    simp only [List.cons_append, Lib.decFrom] at h ⊢
    cases ha : Lib.digitVal a with
    | none => simp [ha] at h
    | some e => simp only [ha] at h ⊢; exact ih _ n h
theorem decDigits_step (a : Nat) (h : ¬ a < 10) : Lib.decDigits a = Lib.decDigits (a / 10) ++ [UInt8.ofNat (48 + a % 10)] := by rw [Lib.decDigits, dif_neg h]
theorem decDigits_small (a : Nat) (h : a < 10) : Lib.decDigits a = [UInt8.ofNat (48 + a)] := by rw [Lib.decDigits, dif_pos h]
theorem decFrom_digits (a : Nat) : Lib.decFrom 0 (Lib.decDigits a) = some a := by
  induction a using Nat.strongRecOn with
  | ind a ih =>
    by_cases h : a < 10
    · rw [decDigits_small a h]; simp only [Lib.decFrom, digitVal_of a h]; simp
    · rw [decDigits_step a h, decFrom_snoc _ _ _ (digitVal_of (a % 10) (by omega)) 0 (a / 10) (ih (a / 10) (by omega))]
      congr 1
      omega
theorem decDigits_ne (a : Nat) : Lib.decDigits a ≠ [] := by
  by_cases h : a < 10
  · rw [decDigits_small a h]; simp
  · rw [decDigits_step a h]; simp
theorem decDigits_mem (a : Nat) : ∀ b ∈ Lib.decDigits a, 48 ≤ b.toNat ∧ b.toNat ≤ 57 := by
  induction a using Nat.strongRecOn with
  | ind a ih =>
    intro b hb
    by_cases h : a < 10
    · rw [decDigits_small a h] at hb
      simp only [List.mem_singleton] at hb
      rw [hb, u8_digit a h]; omega
    · rw [decDigits_step a h, List.mem_append, List.mem_singleton] at hb
      rcases hb with hb | hb
      · exact ih (a / 10) (by omega) b hb
      · rw [hb, u8_digit (a % 10) (by omega)]; omega
theorem decNat_digits (a : Nat) : Lib.decNat (Lib.decDigits a) = some a := by
  unfold Lib.decNat
  have := decDigits_ne a
  rw [if_neg (by simpa using this), decFrom_digits]
theorem atoi_itoa (n : Int) : Lib.atoi (Lib.itoa n) = some n := by
  unfold Lib.itoa
  by_cases h : n < 0
  · rw [if_pos h]
    simp only [Lib.atoi, beq_self_eq_true, if_true, decNat_digits, Option.map_some]
    congr 1
    omega
  · rw [if_neg h]
    cases hd : Lib.decDigits n.toNat with
    | nil => exact absurd hd (decDigits_ne _)
    | cons b r =>
      have hm := decDigits_mem n.toNat b (by rw [hd]; simp)
      have h1 : (b == 45) = false := by
        rw [beq_eq_false_iff_ne]; intro e; rw [e] at hm; simp at hm
      have h2 : (b == 43) = false := by
        rw [beq_eq_false_iff_ne]; intro e; rw [e] at hm; simp at hm
      have h3 := decNat_digits n.toNat
      rw [hd] at h3
      simp only [Lib.atoi, h1, h2, h3, Option.map_some]
      simp
      omega
theorem digits_len (k : Nat) : ∀ a, (Lib.decDigits a).length ≤ k + 1 ↔ a < 10 ^ (k + 1) := by
  induction k with
  | zero =>
    intro a
    by_cases h : a < 10
    · rw [decDigits_small a h]; simpa using h
    · rw [decDigits_step a h, List.length_append]
      have := decDigits_ne (a / 10)
      have h2 : 0 < (Lib.decDigits (a / 10)).length := List.length_pos_iff.2 this
      rw [Nat.zero_add, Nat.pow_one]
      simp only [List.length_singleton]
      omega
  | succ k ih =>
    intro a
    by_cases h : a < 10
    · rw [decDigits_small a h]
      have : 10 ≤ 10 ^ (k + 1 + 1) := by rw [Nat.pow_succ]; have : 0 < 10 ^ (k + 1) := Nat.pow_pos (by omega)
                                         omega
      simp
      omega
    · rw [decDigits_step a h, List.length_append, Nat.pow_succ]
      have := ih (a / 10)
      simp only [List.length_singleton]
      constructor
      · intro h'
        have := this.1 (by omega)
        omega
      · intro h'
        have := this.2 (by omega)
        omega

/-- The digits among bytes, as a number, and how many they are. -/
def svStep (x : Nat × Nat) (b : Nat) : Nat × Nat := if 48 ≤ b ∧ b ≤ 57 then (x.1 * 10 + (b - 48), x.2 + 1) else x
def sv (l : List Nat) : Nat × Nat := l.foldl svStep (0, 0)
theorem sv_snoc (l : List Nat) (b : Nat) : sv (l ++ [b]) = svStep (sv l) b := by simp [sv, List.foldl_append]
theorem sv_bd' (l : List Nat) : ∀ x : Nat × Nat, x.1 < 10 ^ x.2 → (l.foldl svStep x).1 < 10 ^ (l.foldl svStep x).2 ∧ (l.foldl svStep x).2 ≤ x.2 + l.length := by
  induction l with
  | nil => intro x h; exact ⟨h, Nat.le_refl _⟩
  | cons b r ih =>
    intro x h
    rw [List.foldl_cons, List.length_cons]
    have hs : (svStep x b).1 < 10 ^ (svStep x b).2 ∧ (svStep x b).2 ≤ x.2 + 1 := by
      unfold svStep
      split
      · refine ⟨?_, Nat.le_refl _⟩
        simp only [Nat.pow_succ]
        omega
      · exact ⟨h, by omega⟩
    have := ih (svStep x b) hs.1
    omega
theorem sv_bd (l : List Nat) : (sv l).1 < 10 ^ (sv l).2 ∧ (sv l).2 ≤ l.length := by
  have := sv_bd' l (0, 0) (by simp)
  simpa [sv] using this
theorem sv_digits (a : Nat) : sv ((Lib.decDigits a).map UInt8.toNat) = (a, (Lib.decDigits a).length) := by
  induction a using Nat.strongRecOn with
  | ind a ih =>
    by_cases h : a < 10
    · rw [decDigits_small a h, List.map_cons, List.map_nil, u8_digit a h]
      simp [sv, svStep]
      omega
    · rw [decDigits_step a h, List.map_append, List.map_cons, List.map_nil, sv_snoc, ih (a / 10) (by omega), u8_digit (a % 10) (by omega)]
      unfold svStep
      rw [if_pos (by omega)]
      simp only [Prod.mk.injEq, List.length_append, List.length_singleton, and_true]
      omega
theorem sv_minus (l : List Nat) : sv (45 :: l) = sv l := by simp [sv, svStep]

/-- What ReadDec answers. -/
def DA (s : ByteArray) (n : Int) (ok : Bool) : Prop :=
  (ok = true ∧ Lib.itoa n = s.data.toList ∧ -999999999 ≤ n ∧ n ≤ 999999999) ∨ (ok = false ∧ n = 0 ∧ ∀ m, -999999999 ≤ m → m ≤ 999999999 → Lib.itoa m ≠ s.data.toList)
theorem DA_one {s : ByteArray} {n n' : Int} {o o' : Bool} (h : DA s n o) (h' : DA s n' o') : n = n' ∧ o = o' := by
  rcases h with ⟨a, b, c, d⟩ | ⟨a, b, c⟩
  · rcases h' with ⟨a', b', c', d'⟩ | ⟨a', b', c'⟩
    · have e := atoi_itoa n
      rw [b, ← b', atoi_itoa n'] at e
      exact ⟨(Option.some.inj e).symm, by rw [a, a']⟩
    · exact absurd b (c' n c d)
  · rcases h' with ⟨a', b', c', d'⟩ | ⟨a', b', c'⟩
    · exact absurd b' (c n' c' d')
    · exact ⟨by rw [b, b'], by rw [a, a']⟩

theorem trim_itoa (n : Int) : Lib.trimPrefix (Lib.itoa n) [45] = Lib.decDigits n.natAbs := by
  unfold Lib.itoa
  by_cases h : n < 0
  · rw [if_pos h]
    simp [Lib.trimPrefix, Lib.hasPrefix]
  · rw [if_neg h, show n.toNat = n.natAbs from by omega]
    unfold Lib.trimPrefix
    have : Lib.hasPrefix (Lib.decDigits n.natAbs) [45] = false := by
      unfold Lib.hasPrefix
      cases hd : Lib.decDigits n.natAbs with
      | nil => rfl
      | cons b r =>
        have hm := decDigits_mem n.natAbs b (by rw [hd]; simp)
        have h1 : ((45 : UInt8) == b) = false := by
          rw [beq_eq_false_iff_ne]; intro e; rw [← e] at hm; simp at hm
        simp [List.isPrefixOf, h1]
    rw [this]
    rfl
theorem pow9 : (10 : Nat) ^ (8 + 1) = 1000000000 := by decide
theorem trim_short (m : Int) (h1 : -999999999 ≤ m) (h2 : m ≤ 999999999) : (Lib.trimPrefix (Lib.itoa m) [45]).length ≤ 9 := by
  rw [trim_itoa]
  exact (digits_len 8 _).2 (by rw [pow9]; omega)
theorem trim_range (n : Int) (h : (Lib.trimPrefix (Lib.itoa n) [45]).length ≤ 9) : -999999999 ≤ n ∧ n ≤ 999999999 := by
  rw [trim_itoa] at h
  have := (digits_len 8 _).1 h
  rw [pow9] at this
  omega
theorem trim_len (l : List UInt8) : l.length ≤ (Lib.trimPrefix l [45]).length + 1 := by
  unfold Lib.trimPrefix
  split
  · simp; omega
  · omega
theorem sv_itoa (n : Int) : sv ((Lib.itoa n).map UInt8.toNat) = (n.natAbs, (Lib.decDigits n.natAbs).length) := by
  unfold Lib.itoa
  by_cases h : n < 0
  · rw [if_pos h, List.map_cons, show (45 : UInt8).toNat = 45 from rfl, sv_minus, sv_digits]
  · rw [if_neg h, show n.toNat = n.natAbs from by omega, sv_digits]
theorem sv_of (s : ByteArray) (n : Int) (h : Lib.itoa n = s.data.toList) : sv (bl s) = (n.natAbs, (Lib.decDigits n.natAbs).length) := by rw [bl, ← h, sv_itoa]
theorem first_itoa (s : ByteArray) (n : Int) (h : Lib.itoa n = s.data.toList) : 0 < s.size ∧ ((bl s).getD 0 0 = 45 ↔ n < 0) := by
  have hl := bl_length s
  rw [bl, ← h] at hl
  unfold bl
  rw [← h]
  unfold Lib.itoa at hl ⊢
  by_cases hn : n < 0
  · rw [if_pos hn] at hl ⊢
    simp at hl
    refine ⟨by omega, by simp [hn]⟩
  · rw [if_neg hn] at hl ⊢
    cases hd : Lib.decDigits n.toNat with
    | nil => exact absurd hd (decDigits_ne _)
    | cons b r =>
      have hm := decDigits_mem n.toNat b (by rw [hd]; simp)
      rw [hd] at hl
      simp at hl
      refine ⟨by omega, ?_⟩
      simp
      omega
theorem size_itoa (s : ByteArray) (n : Int) (h : Lib.itoa n = s.data.toList) : s.size ≤ (Lib.decDigits n.natAbs).length + 1 := by
  have := trim_len (Lib.itoa n)
  rw [trim_itoa, h] at this
  have e : s.data.toList.length = s.size := by simp
  omega

end Plain
end Go.Proofs.YthnealhaleccpaaGreatDoor
namespace Go.Proofs.YthnealhaleccpaaGreatDoor
open Go.RowKit
open Plain

def segP : ByteArray := ⟨#[115, 101, 103]⟩
def hintP : ByteArray := ⟨#[104, 105, 110, 116]⟩
def segS (n : Int) : ByteArray := if 1 ≤ n ∧ n ≤ 100000 then segP ++ itoaS n else ⟨#[]⟩
def hintS (n : Int) : ByteArray := if 1 ≤ n ∧ n ≤ 100000 then hintP ++ itoaS n else ⟨#[]⟩
theorem segS_in (n : Int) (h : 1 ≤ n ∧ n ≤ 100000) : segS n = segP ++ itoaS n := if_pos h
theorem hintS_in (n : Int) (h : 1 ≤ n ∧ n ≤ 100000) : hintS n = hintP ++ itoaS n := if_pos h
theorem itoaS_inj {n m : Int} (h : itoaS n = itoaS m) : n = m := by
  have e : Lib.itoa n = Lib.itoa m := by
    have := congrArg (fun s : ByteArray => s.data.toList) h
    simpa [itoaS] using this
  have e1 := atoi_itoa n
  rw [e, atoi_itoa m] at e1
  injection e1 with e1
  exact e1.symm
theorem seg_cut (n : Int) (h : 1 ≤ n ∧ n ≤ 100000) : (segS n).extract 3 (segS n).size = itoaS n := by
  rw [segS_in n h]
  exact ba_drop segP (itoaS n)
theorem hint_cut (n : Int) (h : 1 ≤ n ∧ n ≤ 100000) : (hintS n).extract 4 (hintS n).size = itoaS n := by
  rw [hintS_in n h]
  exact ba_drop hintP (itoaS n)
theorem seg_head (n : Int) (h : 1 ≤ n ∧ n ≤ 100000) : (segS n).data.toList.head? = some 115 := by
  rw [segS_in n h, ByteArray.data_append, Array.toList_append]
  rfl
theorem hint_head (n : Int) (h : 1 ≤ n ∧ n ≤ 100000) : (hintS n).data.toList.head? = some 104 := by
  rw [hintS_in n h, ByteArray.data_append, Array.toList_append]
  rfl
/-- This name is the segment's or the hint's of n. -/
def IsName (s : ByteArray) (n : Int) : Prop := (1 ≤ n ∧ n ≤ 100000) ∧ (segS n = s ∨ hintS n = s)
theorem name_one {s : ByteArray} {n m : Int} (h : IsName s n) (k : IsName s m) : n = m := by
  obtain ⟨h0, h⟩ := h
  obtain ⟨k0, k⟩ := k
  rcases h with rfl | rfl
  · rcases k with k | k
    · have e := seg_cut n h0
      rw [← k, seg_cut m k0] at e
      exact (itoaS_inj e).symm
    · have e := seg_head n h0
      rw [← k, hint_head m k0] at e
      cases e
  · rcases k with k | k
    · have e := hint_head n h0
      rw [← k, seg_head m k0] at e
      cases e
    · have e := hint_cut n h0
      rw [← k, hint_cut m k0] at e
      exact (itoaS_inj e).symm
/-- What IdOf tells. -/
def ID (s : ByteArray) (n : Int) (ok : Bool) : Prop := (ok = true ∧ IsName s n) ∨ (ok = false ∧ n = 0 ∧ ∀ m, ¬ IsName s m)
theorem ID_one {s : ByteArray} {n m : Int} {a b : Bool} (h : ID s n a) (k : ID s m b) : n = m ∧ a = b := by
  rcases h with ⟨rfl, h⟩ | ⟨rfl, rfl, h⟩
  · rcases k with ⟨rfl, k⟩ | ⟨_, _, k⟩
    · exact ⟨name_one h k, rfl⟩
    · exact absurd h (k n)
  · rcases k with ⟨rfl, k⟩ | ⟨rfl, rfl, _⟩
    · exact absurd k (h m)
    · exact ⟨rfl, rfl⟩
/-- The number that stands behind the first k bytes, if the name is its. -/
def ioK (s : ByteArray) (k : Nat) : Option Int :=
  match Lib.atoi (s.extract k s.size).data.toList with
  | some n => if (1 ≤ n ∧ n ≤ 100000) ∧ (segS n = s ∨ hintS n = s) then some n else none
  | none => none
theorem ioK_name {s : ByteArray} {k : Nat} {n : Int} (h : ioK s k = some n) : IsName s n := by
  unfold ioK at h
  split at h
  · split at h
    · rename_i h1
      injection h with h
      subst h
      exact h1
    · cases h
  · cases h
theorem ioK_seg (n : Int) (h : 1 ≤ n ∧ n ≤ 100000) : ioK (segS n) 3 = some n := by
  unfold ioK
  rw [seg_cut n h]
  simp only [itoaS, atoi_itoa]
  rw [if_pos ⟨h, Or.inl trivial⟩]
theorem ioK_hint (n : Int) (h : 1 ≤ n ∧ n ≤ 100000) : ioK (hintS n) 4 = some n := by
  unfold ioK
  rw [hint_cut n h]
  simp only [itoaS, atoi_itoa]
  rw [if_pos ⟨h, Or.inr trivial⟩]
def io (s : ByteArray) : Int × Bool :=
  match ioK s 3 with
  | some n => (n, true)
  | none => match ioK s 4 with
    | some n => (n, true)
    | none => (0, false)
theorem io_ID (s : ByteArray) : ID s (io s).1 (io s).2 := by
  unfold io
  split
  · rename_i n h
    exact Or.inl ⟨rfl, ioK_name h⟩
  · rename_i h3
    split
    · rename_i n h
      exact Or.inl ⟨rfl, ioK_name h⟩
    · rename_i h4
      refine Or.inr ⟨rfl, rfl, fun m hm => ?_⟩
      obtain ⟨hr, rfl | rfl⟩ := hm
      · rw [ioK_seg m hr] at h3
        cases h3
      · rw [ioK_hint m hr] at h4
        cases h4
theorem io_of {s : ByteArray} {n : Int} {ok : Bool} (h : ID s n ok) : io s = (n, ok) := by
  obtain ⟨h1, h2⟩ := ID_one (io_ID s) h
  rw [← h1, ← h2]

end Go.Proofs.YthnealhaleccpaaGreatDoor
namespace Go.Proofs.YthnealhaleccpaaGreatDoor
open Go.RowKit
open Plain

theorem itoaS_len (n : Int) (h : 1 ≤ n ∧ n ≤ 100000) : (itoaS n).size ≤ 30 := by
  have h2 := dd_len20 n.natAbs (by omega)
  have e : (itoaS n).size = (Lib.itoa n).length := by unfold itoaS; simp [ByteArray.size]
  rw [e]
  unfold Lib.itoa
  rw [if_neg (by omega), ← dd_pos _ (by omega), show n.toNat = n.natAbs from by omega]
  omega
theorem segS_size (n : Int) : (segS n).size ≤ 33 := by
  by_cases h : 1 ≤ n ∧ n ≤ 100000
  · rw [segS_in n h, ByteArray.size_append]
    have := itoaS_len n h
    have e : segP.size = 3 := rfl
    omega
  · unfold segS; rw [if_neg h]; exact Nat.zero_le _
theorem hintS_size (n : Int) : (hintS n).size ≤ 34 := by
  by_cases h : 1 ≤ n ∧ n ≤ 100000
  · rw [hintS_in n h, ByteArray.size_append]
    have := itoaS_len n h
    have e : hintP.size = 4 := rfl
    omega
  · unfold hintS; rw [if_neg h]; exact Nat.zero_le _

set_option maxRecDepth 100000 in
set_option maxHeartbeats 1000000 in
theorem specSeg_any (n : Int) : Ans 39 #[.int .i64 n] (.string (segS n)) := by
  intro w
  have HI := hide (in_any n 1 100000 w)
  by_cases h : 1 ≤ n ∧ n ≤ 100000
  · have hd : decide (1 ≤ n ∧ n ≤ 100000) = true := by simpa using h
    rw [hd] at HI
    have HD := hide (specDec_any n w (by omega) (by omega))
    have HS : Hid (segS n = segP ++ itoaS n) := hide (segS_in n h)
    have hz := itoaS_len n h
    have hz2 : (ByteArray.mk #[115, 101, 103]).size = 3 := rfl
    generalize itoaS n = t at *
    have z1 : ¬ 9223372036854775807 < (ByteArray.mk #[115, 101, 103]).size + t.size := by omega
    clear h hd hz hz2
    go_enter Tryz.func39, Tryz.ntmps39
    go_wp2_with fail
    refine HI.out.mono ?_
    rintro e w1 ⟨rfl, rfl⟩
    go_wp2_with fail
    refine HD.out.mono ?_
    rintro e w2 ⟨rfl, hb⟩
    go_wp2
    go_ret
    exact ⟨by rw [HS.out]; rfl, hb⟩
  · have hd : decide (1 ≤ n ∧ n ≤ 100000) = false := by simpa using h
    rw [hd] at HI
    have HS : Hid (segS n = ⟨#[]⟩) := hide (if_neg h)
    clear h hd
    go_enter Tryz.func39, Tryz.ntmps39
    go_wp2_with fail
    refine HI.out.mono ?_
    rintro e w1 ⟨rfl, rfl⟩
    go_wp2
    go_ret
    exact ⟨by rw [HS.out]; rfl, Below.refl _ _⟩

set_option maxRecDepth 100000 in
set_option maxHeartbeats 1000000 in
theorem specHint_any (n : Int) : Ans 40 #[.int .i64 n] (.string (hintS n)) := by
  intro w
  have HI := hide (in_any n 1 100000 w)
  by_cases h : 1 ≤ n ∧ n ≤ 100000
  · have hd : decide (1 ≤ n ∧ n ≤ 100000) = true := by simpa using h
    rw [hd] at HI
    have HD := hide (specDec_any n w (by omega) (by omega))
    have HS : Hid (hintS n = hintP ++ itoaS n) := hide (hintS_in n h)
    have hz := itoaS_len n h
    have hz2 : (ByteArray.mk #[104, 105, 110, 116]).size = 4 := rfl
    generalize itoaS n = t at *
    have z1 : ¬ 9223372036854775807 < (ByteArray.mk #[104, 105, 110, 116]).size + t.size := by omega
    clear h hd hz hz2
    go_enter Tryz.func40, Tryz.ntmps40
    go_wp2_with fail
    refine HI.out.mono ?_
    rintro e w1 ⟨rfl, rfl⟩
    go_wp2_with fail
    refine HD.out.mono ?_
    rintro e w2 ⟨rfl, hb⟩
    go_wp2
    go_ret
    exact ⟨by rw [HS.out]; rfl, hb⟩
  · have hd : decide (1 ≤ n ∧ n ≤ 100000) = false := by simpa using h
    rw [hd] at HI
    have HS : Hid (hintS n = ⟨#[]⟩) := hide (if_neg h)
    clear h hd
    go_enter Tryz.func40, Tryz.ntmps40
    go_wp2_with fail
    refine HI.out.mono ?_
    rintro e w1 ⟨rfl, rfl⟩
    go_wp2
    go_ret
    exact ⟨by rw [HS.out]; rfl, Below.refl _ _⟩

end Go.Proofs.YthnealhaleccpaaGreatDoor
namespace Go.Proofs.YthnealhaleccpaaGreatDoor
open Go.RowKit
open Plain

def Tab (w : World) : Prop := Lib.TabIs Tryz.prog w "internal/strconv.uint64pow10" .u64 Lib.pow10Tab
theorem gTab : Tryz.prog.globalNamed "internal/strconv.uint64pow10" = some 3 := by kernel_rfl
theorem Tab.later {w w' : World} (h : Tab w) (hb : Below w.heap.size w w') : Tab w' := Go.Joins.tab_stays gTab h hb (Nat.le_refl _)
theorem below_grow (w : World) (q : Nat) (os : Array Obj) : Below w.heap.size w (Sort.grow (w.drewN q) os) :=
  ⟨rfl, rfl, rfl, by first | (simp [Sort.grow]; done) | (simp [Sort.grow]; omega), fun i hi => by
    show ((w.drewN q).heap ++ os)[i]? = _
    rw [Array.getElem?_append_left (by show i < w.heap.size; omega)]
    rfl⟩

set_option maxHeartbeats 400000 in
theorem implDec_any (n : Int) (w : World) (h0 : -9223372036854775808 ≤ n) (h1 : n ≤ 9223372036854775807) (htab : Tab w) :
    Calls Tryz.prog 59 #[.int .i64 n] w fun e w' => e = .returned (.string (itoaS n)) ∧ Below w.heap.size w w' := by
  go_enter Tryz.func59, Tryz.ntmps59
  go_wp2_with fail
  refine (Tryz.strconv_Itoa n h0 h1 _ htab).mono ?_
  rintro e w' ⟨rfl, k, os, rfl⟩
  have hb := below_grow w k os
  generalize Sort.grow (w.drewN k) os = w2 at *
  go_wp2
  go_ret
  exact ⟨rfl, hb⟩

end Go.Proofs.YthnealhaleccpaaGreatDoor
namespace Go.Proofs.YthnealhaleccpaaGreatDoor
open Go.RowKit
open Plain

set_option maxHeartbeats 400000 in
theorem idOk_any (n : Int) (w : World) : Calls Tryz.prog 33 #[.int .i64 n] w fun e w' => e = .returned (.bool (decide (1 ≤ n ∧ n ≤ 100000))) ∧ w = w' := by
  by_cases h1 : 1 ≤ n
  · by_cases h2 : n ≤ 100000
    all_goals
      go_enter Tryz.func33, Tryz.ntmps33
      go_wp2
      go_ret
      exact ⟨by simp [h1, h2], rfl⟩
  · have h3 : decide (1 ≤ n) = false := by simpa using h1
    go_enter Tryz.func33, Tryz.ntmps33
    go_wp2
    go_ret
    exact ⟨by first | (simp; done) | (simp; omega), rfl⟩

end Go.Proofs.YthnealhaleccpaaGreatDoor
namespace Go.Proofs.YthnealhaleccpaaGreatDoor
open Go.RowKit
open Plain

set_option maxRecDepth 100000 in
set_option maxHeartbeats 1000000 in
theorem nameOf_any (p : ByteArray) (hp : p.size ≤ 4) (n : Int) (w : World) (htab : Tab w) :
    Calls Tryz.prog 34 #[.string p, .int .i64 n] w fun e w' => e = .returned (.string (if 1 ≤ n ∧ n ≤ 100000 then p ++ itoaS n else ⟨#[]⟩)) ∧ Below w.heap.size w w' := by
  have HI := hide (idOk_any n w)
  by_cases h : 1 ≤ n ∧ n ≤ 100000
  · have hd : decide (1 ≤ n ∧ n ≤ 100000) = true := by simpa using h
    rw [hd] at HI
    rw [if_pos h]
    have HD := hide (implDec_any n w (by omega) (by omega) htab)
    have hz := itoaS_len n h
    generalize itoaS n = t at *
    have z1 : ¬ 9223372036854775807 < p.size + t.size := by omega
    clear h hd hz hp htab
    go_enter Tryz.func34, Tryz.ntmps34
    go_wp2_with fail
    refine HI.out.mono ?_
    rintro e w1 ⟨rfl, rfl⟩
    go_wp2_with fail
    refine HD.out.mono ?_
    rintro e w2 ⟨rfl, hb⟩
    go_wp2
    go_ret
    exact ⟨rfl, hb⟩
  · have hd : decide (1 ≤ n ∧ n ≤ 100000) = false := by simpa using h
    rw [hd] at HI
    rw [if_neg h]
    clear h hd htab
    go_enter Tryz.func34, Tryz.ntmps34
    go_wp2_with fail
    refine HI.out.mono ?_
    rintro e w1 ⟨rfl, rfl⟩
    go_wp2
    go_ret
    exact ⟨rfl, Below.refl _ _⟩

set_option maxRecDepth 100000 in
set_option maxHeartbeats 1000000 in
theorem implSeg_any (n : Int) (w : World) (htab : Tab w) : Calls Tryz.prog 12 #[.int .i64 n] w fun e w' => e = .returned (.string (segS n)) ∧ Below w.heap.size w w' := by
  have HN := hide (nameOf_any ⟨#[115, 101, 103]⟩ (by decide) n w htab)
  have HS : Hid (segS n = if 1 ≤ n ∧ n ≤ 100000 then ⟨#[115, 101, 103]⟩ ++ itoaS n else ⟨#[]⟩) := hide rfl
  clear htab
  generalize (if 1 ≤ n ∧ n ≤ 100000 then (⟨#[115, 101, 103]⟩ : ByteArray) ++ itoaS n else ⟨#[]⟩) = t at *
  go_enter Tryz.func12, Tryz.ntmps12
  go_wp2_with fail
  refine HN.out.mono ?_
  rintro e w1 ⟨rfl, hb⟩
  go_wp2
  go_ret
  exact ⟨by rw [HS.out]; rfl, hb⟩

set_option maxRecDepth 100000 in
set_option maxHeartbeats 1000000 in
theorem implHint_any (n : Int) (w : World) (htab : Tab w) : Calls Tryz.prog 13 #[.int .i64 n] w fun e w' => e = .returned (.string (hintS n)) ∧ Below w.heap.size w w' := by
  have HN := hide (nameOf_any ⟨#[104, 105, 110, 116]⟩ (by decide) n w htab)
  have HS : Hid (hintS n = if 1 ≤ n ∧ n ≤ 100000 then ⟨#[104, 105, 110, 116]⟩ ++ itoaS n else ⟨#[]⟩) := hide rfl
  clear htab
  generalize (if 1 ≤ n ∧ n ≤ 100000 then (⟨#[104, 105, 110, 116]⟩ : ByteArray) ++ itoaS n else ⟨#[]⟩) = t at *
  go_enter Tryz.func13, Tryz.ntmps13
  go_wp2_with fail
  refine HN.out.mono ?_
  rintro e w1 ⟨rfl, hb⟩
  go_wp2
  go_ret
  exact ⟨by rw [HS.out]; rfl, hb⟩

end Go.Proofs.YthnealhaleccpaaGreatDoor
namespace Go.Proofs.YthnealhaleccpaaGreatDoor
open Go.RowKit
open Plain

/-- ReadDec as a function. -/
def rd (s : ByteArray) : Int × Bool :=
  match Lib.atoi s.data.toList with
  | some n => if Lib.itoa n = s.data.toList ∧ -999999999 ≤ n ∧ n ≤ 999999999 then (n, true) else (0, false)
  | none => (0, false)
theorem rd_DA (s : ByteArray) : DA s (rd s).1 (rd s).2 := by
  unfold rd
  split
  · rename_i n h
    split
    · rename_i h1
      exact Or.inl ⟨rfl, h1⟩
    · rename_i h1
      refine Or.inr ⟨rfl, rfl, fun m m1 m2 e => h1 ?_⟩
      rw [← e, atoi_itoa] at h
      injection h with h
      subst h
      exact ⟨e, m1, m2⟩
  · rename_i h
    refine Or.inr ⟨rfl, rfl, fun m _ _ e => ?_⟩
    rw [← e, atoi_itoa] at h
    cases h
theorem rd_of {s : ByteArray} {n : Int} {ok : Bool} (h : DA s n ok) : rd s = (n, ok) := by
  obtain ⟨h1, h2⟩ := DA_one (rd_DA s) h
  rw [← h1, ← h2]
theorem rd_itoa (n : Int) (h1 : -999999999 ≤ n) (h2 : n ≤ 999999999) : rd (itoaS n) = (n, true) := rd_of (Or.inl ⟨rfl, rfl, h1, h2⟩)
theorem rd_bd (s : ByteArray) : -999999999 ≤ (rd s).1 ∧ (rd s).1 ≤ 999999999 := by
  rcases rd_DA s with ⟨_, _, h⟩ | ⟨_, h, _⟩
  · exact h
  · omega
/-- Does the number behind the first k bytes make this name? -/
def cutN (s : ByteArray) (k : Nat) : ByteArray := s.extract k s.size
def hitB (s : ByteArray) (k : Nat) : Bool := decide (k < s.size) && ((rd (cutN s k)).2 && (decide (1 ≤ (rd (cutN s k)).1) && (decide (segS (rd (cutN s k)).1 = s) || decide (hintS (rd (cutN s k)).1 = s))))
theorem hit_name {s : ByteArray} {k : Nat} (h : hitB s k = true) : IsName s (rd (cutN s k)).1 := by
  unfold hitB at h
  rw [Bool.and_eq_true, Bool.and_eq_true, Bool.and_eq_true, Bool.or_eq_true, decide_eq_true_iff, decide_eq_true_iff, decide_eq_true_iff, decide_eq_true_iff] at h
  obtain ⟨h1, _, h3, h4⟩ := h
  have hb : (rd (cutN s k)).1 ≤ 100000 := by
    rcases Int.lt_or_le 100000 (rd (cutN s k)).1 with hlt | hle
    · exfalso
      rcases h4 with h4 | h4
      · unfold segS at h4
        rw [if_neg (by omega)] at h4
        rw [← h4] at h1
        exact absurd h1 (by simp [ByteArray.size])
      · unfold hintS at h4
        rw [if_neg (by omega)] at h4
        rw [← h4] at h1
        exact absurd h1 (by simp [ByteArray.size])
    · exact hle
  exact ⟨⟨h3, hb⟩, h4⟩
theorem itoaS_pos (n : Int) : 0 < (itoaS n).size := by
  have h := first_itoa (itoaS n) n rfl
  exact h.1
theorem hit_seg (n : Int) (h : 1 ≤ n ∧ n ≤ 100000) : hitB (segS n) 3 = true := by
  have e : cutN (segS n) 3 = itoaS n := seg_cut n h
  have hz : 3 < (segS n).size := by
    rw [segS_in n h, ByteArray.size_append]
    have := itoaS_pos n
    have e3 : segP.size = 3 := rfl
    omega
  unfold hitB
  rw [e, rd_itoa n (by omega) (by omega)]
  simp [hz, h.1]
theorem hit_hint (n : Int) (h : 1 ≤ n ∧ n ≤ 100000) : hitB (hintS n) 4 = true := by
  have e : cutN (hintS n) 4 = itoaS n := hint_cut n h
  have hz : 4 < (hintS n).size := by
    rw [hintS_in n h, ByteArray.size_append]
    have := itoaS_pos n
    have e3 : hintP.size = 4 := rfl
    omega
  unfold hitB
  rw [e, rd_itoa n (by omega) (by omega)]
  simp [hz, h.1]
theorem no_hit {s : ByteArray} (h3 : hitB s 3 = false) (h4 : hitB s 4 = false) : ∀ m, ¬ IsName s m := by
  rintro m ⟨hm, rfl | rfl⟩
  · rw [hit_seg m hm] at h3
    cases h3
  · rw [hit_hint m hm] at h4
    cases h4
theorem io_hit {s : ByteArray} {k : Nat} (h : hitB s k = true) : io s = ((rd (cutN s k)).1, true) := io_of (Or.inl ⟨rfl, hit_name h⟩)
theorem io_none {s : ByteArray} (h3 : hitB s 3 = false) (h4 : hitB s 4 = false) : io s = (0, false) := io_of (Or.inr ⟨rfl, rfl, no_hit h3 h4⟩)

end Go.Proofs.YthnealhaleccpaaGreatDoor
namespace Go.Proofs.YthnealhaleccpaaGreatDoor
open Go.RowKit
open Plain

def tempS : ByteArray := ⟨#[116, 101, 109, 112]⟩
theorem temp_list : tempS.toList = [116, 101, 109, 112] := by rw [ByteArray.toList_eq]; rfl
theorem temp_eq {s : ByteArray} (h : s = tempS) : (s.toList == [116, 101, 109, 112]) = true := by subst h; rw [temp_list]; rfl
theorem temp_ne {s : ByteArray} (h : ¬ s = tempS) : (s.toList == [116, 101, 109, 112]) = false := by
  rw [← temp_list]
  by_cases q : (s.toList == tempS.toList) = true
  · exact absurd (toList_inj (by simpa using q)) h
  · simpa using q
def orphB (ids : List Int) (nm : ByteArray) : Bool := ((io nm).2 && !(ids.contains (io nm).1)) || decide (nm = tempS)
def orphL (fs : List FileV) (ids : List Int) : List ByteArray := (fs.map (·.name)).filter (orphB ids)
def orphS (fs : List FileV) (c u : Int) (ids : List Int) : List ByteArray := if diskOk fs c u = true then orphL fs ids else []
theorem orphL_succ (fs : List FileV) (ids : List Int) (k : Nat) (h : k < fs.length) : orphL (fs.take (k + 1)) ids = orphL (fs.take k) ids ++ (if orphB ids (fs[k]).name = true then [(fs[k]).name] else []) := by
  unfold orphL
  rw [List.take_succ_eq_append_getElem h, List.map_append, List.filter_append]
  congr 1
  rw [List.map_cons, List.map_nil, List.filter_cons]
  split <;> rfl
theorem orphL_len (fs : List FileV) (ids : List Int) : (orphL fs ids).length ≤ fs.length := by
  unfold orphL
  have := List.length_filter_le (orphB ids) (fs.map (·.name))
  rw [List.length_map] at this
  exact this
theorem ok_len {fs : List FileV} {c u : Int} (h : diskOk fs c u = true) : fs.length ≤ 130 := by
  unfold diskOk headOk at h
  rw [Bool.and_eq_true, Bool.and_eq_true, decide_eq_true_iff] at h
  exact h.1.1
/-- Is the number among the first k? -/
def hasK (ids : List Int) (n : Int) (k : Nat) : Bool := (ids.take k).contains n
theorem hasK_succ (ids : List Int) (n : Int) (k : Nat) (h : k < ids.length) : hasK ids n (k + 1) = (hasK ids n k || (ids[k] == n)) := by
  unfold hasK
  rw [List.take_succ_eq_append_getElem h]
  rw [Bool.eq_iff_iff]
  simp only [List.contains_iff_mem, List.mem_append, List.mem_singleton, Bool.or_eq_true, beq_iff_eq]
  constructor
  · rintro (h | h)
    · exact Or.inl h
    · exact Or.inr h.symm
  · rintro (h | h)
    · exact Or.inl h
    · exact Or.inr h.symm
theorem hasK_all (ids : List Int) (n : Int) : hasK ids n ids.length = ids.contains n := by unfold hasK; rw [List.take_length]

end Go.Proofs.YthnealhaleccpaaGreatDoor
