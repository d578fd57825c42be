/-
  impl.Crc: the sum of a text by a table of sixteen, under what the package's table holds. impl.Frame and impl.Unframe, under what the package's table holds. spec.RecAt: the record whose frame is just these bytes. impl.spotAt: the record whose frame stands at a place of a log, or why there is none; impl.RecAt. What a range over the frames of a log hands out, one by one: the spots, and at the end why it goes no further; plain words.
-/
import Derived.Test.YtimpokbcfjgdaaaGreatDoorHG00
import Derived.Test.YtimpokbcfjgdaaaGreatDoorHG05
import Derived.Lib.LaidTab
import Derived.Lib.OthersKept
import Derived.Test.YtimpokbcfjgdaaaGreatDoorHMShowImpl
import Derived.Test.YtimpokbcfjgdaaaGreatDoorHMScanSpec
import Derived.Deep.RegionHeld3
namespace Go.Proofs.YtimpokbcfjgdaaaGreatDoor
open Go.RowKit
open Plain

def tabZ : List Int := [0, 274646895, 549293790, 820201905, 1098587580, 1361435347, 1640403810, 1905808397, 2197175160, 2460548119, 2722870694, 2987750089, 3280807620, 3553878443, 3811616794, 4084100981]
def tb (i : Nat) : Nat := tab.getD i 0
theorem tabZ_get : ∀ i, i < 16 → tabZ.getD i 0 = (tb i : Int) := by decide
/-- The package's table holds what its text lays. -/
def STab (w : World) : Prop := Lib.TabIs Tryz.prog w "loop.example/g01397/impl.sumTable" .u32 tabZ
theorem gSum : Tryz.prog.globalNamed "loop.example/g01397/impl.sumTable" = some 2 := by kernel_rfl
theorem STab.at {w : World} (h : STab w) (i : Nat) (hi : i < 16) : w.cell? ⟨2, i, none⟩ = some (.int .u32 (tb i)) := by
  have := Lib.TabIs.cell h gSum i hi
  rw [this, tabZ_get i hi]

theorem ofInt_u32 (a : Nat) (ha : a < 4294967296) : (BitVec.ofInt 32 (a : Int)).toNat = a := by
  rw [BitVec.ofInt_natCast, BitVec.toNat_ofNat]; exact Nat.mod_eq_of_lt (by omega)
theorem u32_xor_nat (a b : Nat) (ha : a < 4294967296) (hb : b < 4294967296) : bits .xor .u32 (a : Int) (b : Int) = ((a ^^^ b : Nat) : Int) := by
  have hx : a ^^^ b < 2 ^ 32 := Nat.xor_lt_two_pow (by omega) (by omega)
  show IntKind.u32.wrap ((BitVec.ofInt 32 (a : Int) ^^^ BitVec.ofInt 32 (b : Int)).toNat : Int) = _
  rw [BitVec.toNat_xor, ofInt_u32 a ha, ofInt_u32 b hb, IntKind.wrap_u32]
  omega
theorem u32_and15 (a : Nat) (ha : a < 4294967296) : bits .and .u32 (a : Int) 15 = ((a % 16 : Nat) : Int) := by
  have hx : a &&& 15 < 2 ^ 32 := Nat.and_lt_two_pow _ (by omega)
  have e : (15 : Int) = ((15 : Nat) : Int) := rfl
  show IntKind.u32.wrap ((BitVec.ofInt 32 (a : Int) &&& BitVec.ofInt 32 (15 : Int)).toNat : Int) = _
  rw [e, BitVec.toNat_and, ofInt_u32 a ha, ofInt_u32 15 (by omega), IntKind.wrap_u32, show a &&& 15 = a % 16 from Nat.and_two_pow_sub_one_eq_mod a 4]
  omega

theorem u32_four (x y : Nat) (hx : x < 4294967296) (h : (x / 16) ^^^ tb (x % 16) = y) : bits .xor .u32 ((x : Int) / 16) (tb (x % 16) : Int) = (y : Int) := by
  have e : (x : Int) / 16 = ((x / 16 : Nat) : Int) := by omega
  rw [e, u32_xor_nat (x / 16) (tb (x % 16)) (by omega) (tab_lt _ (Nat.mod_lt _ (by omega))), h]

set_option maxRecDepth 100000 in
set_option maxHeartbeats 1000000 in
theorem with_any (c b : Nat) (hc : c < 4294967296) (hb : b < 256) (w : World) (ht : STab w) :
    Calls Tryz.prog 68 #[.int .u32 c, .int .u8 b] w fun e w' => e = .returned (.int .u32 (bt c b)) ∧ w = w' := by
  have HT := hide ht
  clear ht
  have hx := u32_xor_nat c b hc (by omega)
  have hxl := xor_lt32 c b hc (by omega)
  have hyl := tkN_lt 4 _ hxl
  have h1 := u32_four _ _ hxl (four (c ^^^ b))
  have h2 := u32_four _ _ hyl (bt_two c b)
  generalize c ^^^ b = x at *
  generalize tkN 4 x = y at *
  have ha := u32_and15 x hxl
  have hb2 := u32_and15 y hyl
  have hcell := HT.out.at (x % 16) (by omega)
  have hcell2 := HT.out.at (y % 16) (by omega)
  go_enter Tryz.func68, Tryz.ntmps68
  go_wp2
  go_ret
  exact ⟨rfl, rfl⟩

theorem STab.later {w w' : World} (h : STab w) (hb : Below w.heap.size w w') : STab w' := by
  have hlt : 2 < w.heap.size := by
    have h0 := h.at 0 (by omega)
    rcases Nat.lt_or_ge 2 w.heap.size with h' | h'
    · exact h'
    · simp [World.cell?, Array.getElem?_eq_none h'] at h0
  unfold STab Lib.TabIs World.var? at *
  simp only [gSum, Option.bind_some] at h ⊢
  rw [hb.block _ hlt]
  exact h
theorem below_iter (w : World) (s : ByteArray) (p : Nat) : Below w.heap.size w (w.iter s p) := (Below.refl _ w).alloc (Nat.le_refl _) _

theorem width_pos (s : ByteArray) (pos : Nat) (h : pos < s.size) : 1 ≤ (Utf8.decode s pos).2 := by
  by_cases ha : (s[pos]'h).toNat < 128
  · rw [decode_ascii s pos h ha]
    exact Nat.le_refl _
  · exact (decode_high s pos h (by omega)).2

set_option maxRecDepth 100000 in
set_option maxHeartbeats 1000000 in
theorem implCrc_any (s : ByteArray) (w : World) (hs : s.size ≤ 1099511627776) (ht : STab w) :
    Calls Tryz.prog 31 #[.string s] w fun e w' => e = .returned (.int .i64 (crcN s)) ∧ Below w.heap.size w w' := by
  have HT : ∀ p, Hid (STab (w.iter s p)) := fun p => hide (ht.later (below_iter w s p))
  clear ht
  go_enter Tryz.func31, Tryz.ntmps31
  go_wp2
  go_loopw [3, 4] (fun c d wr => ∃ (pos k : Nat), wr = w.iter s pos ∧ k ≤ s.size ∧ c = .int .u32 (ck s k) ∧ d = .int .i64 k) (fun _ _ wr => s.size - wr.iterPos w.heap.size)
  case atStart => exact ⟨0, 0, rfl, by omega, by rw [ck_zero]; rfl, rfl⟩
  case round =>
    obtain ⟨pos, k, rfl, hk, rfl, rfl⟩ := hrel
    by_cases hp : pos < s.size
    · have hnx : ∀ ty, (Instr.next (.pointer (some ⟨w.heap.size, 0, none⟩)) true ty).run Tryz.prog (w.iter s pos) = _ := fun ty => run_next_any w s pos ty hp
      go_wp2
      have hwd := width_pos s pos hp
      go_loop [3, 4] (fun c d => ∃ k : Nat, k ≤ s.size ∧ c = .int .u32 (ck s k) ∧ d = .int .i64 k) (fun _ d => pos + 1 - (intOf d).toNat)
      case atStart => exact ⟨k, hk, rfl, rfl⟩
      case round =>
        obtain ⟨j, hj, rfl, rfl⟩ := hrel
        by_cases h8 : j ≤ pos
        · have hlt := ck_lt s j
          have hjs : j < s.size := by omega
          have hb := UInt8.toNat_lt s[j]
          go_wp2_with fail
          refine (with_any (ck s j) s[j].toNat hlt (by omega) _ (HT _).out).mono ?_
          rintro e w1 ⟨rfl, rfl⟩
          rw [← ck_succ s j hjs]
          go_wp2
          go_round
          case rel => exact ⟨j + 1, by omega, rfl, by go_num⟩
          case measure => first | (simp [intOf]; done) | (simp [intOf]; omega)
        · go_wp2
          go_roundw
          case rel => exact ⟨_, j, rfl, hj, rfl, rfl⟩
          case measure =>
            simp
            omega
    · have hnx : ∀ ty, (Instr.next (.pointer (some ⟨w.heap.size, 0, none⟩)) true ty).run Tryz.prog (w.iter s pos) = _ := fun ty => run_next_end w s pos ty hp
      go_wp2
      go_loop [3, 4] (fun c d => ∃ k : Nat, k ≤ s.size ∧ c = .int .u32 (ck s k) ∧ d = .int .i64 k) (fun _ d => s.size - (intOf d).toNat)
      case atStart => exact ⟨k, hk, rfl, rfl⟩
      case round =>
        obtain ⟨j, hj, rfl, rfl⟩ := hrel
        have hlt := ck_lt s j
        by_cases hjs : j < s.size
        · have hb := UInt8.toNat_lt s[j]
          go_wp2_with fail
          refine (with_any (ck s j) s[j].toNat hlt (by omega) _ (HT _).out).mono ?_
          rintro e w1 ⟨rfl, rfl⟩
          rw [← ck_succ s j hjs]
          go_wp2
          go_round
          case rel => exact ⟨j + 1, by omega, rfl, by go_num⟩
          case measure => first | (simp [intOf]; done) | (simp [intOf]; omega)
        · obtain rfl : j = s.size := by omega
          have hcc := hide (crc_ck s)
          go_wp2
          go_ret
          rw [hcc.out]
          exact ⟨rfl, below_iter w s pos⟩

end Go.Proofs.YtimpokbcfjgdaaaGreatDoor
namespace Go.Proofs.YtimpokbcfjgdaaaGreatDoor
open Go.RowKit
open Plain

/-- In whatever world whose table is right f answers v and touches nothing that was there. -/
def AnsT (f : FuncId) (args : Array Value) (v : Value) : Prop := ∀ w, STab w → Calls Tryz.prog f args w fun e w' => e = .returned v ∧ Below w.heap.size w w'

theorem uf_no (s : ByteArray) (h : sumF s = true ∨ txtF (sumR s) = true ∨ 200 < (txtV (sumR s)).size ∨ ¬ crcN (textS (txtV (sumR s))) = sumV s) : uf s = (⟨#[]⟩, 0) := by
  refine uf_of (Or.inr ⟨rfl, rfl, ?_⟩)
  rintro u T hu rfl
  have e : frameS u ++ T = fixN (crcN (textS u) : Int) 4 ++ (textS u ++ T) := by rw [frameS_in u hu, ByteArray.append_assoc]; rfl
  obtain ⟨a1, a2, a3⟩ := sum_fix (crcN (textS u)) (crcN_le _) (textS u ++ T)
  obtain ⟨b1, b2, b3⟩ := txt_text u T (by omega)
  rw [e, a1, a2, a3, b1, b3] at h
  rcases h with h | h | h | h
  · cases h
  · cases h
  · omega
  · exact h rfl
theorem uf_yes (s : ByteArray) (h1 : sumF s = false) (h2 : txtF (sumR s) = false) (h3 : (txtV (sumR s)).size ≤ 200) (h4 : crcN (textS (txtV (sumR s))) = sumV s) : uf s = (txtV (sumR s), 4 + (textS (txtV (sumR s))).size) := by
  refine uf_of (Or.inl ⟨h3, ?_, txtR (sumR s), ?_⟩)
  · rw [frameS_in _ h3, ByteArray.size_append, sumS_size]
  · have e1 := sum_back s h1
    have e2 := txt_back (sumR s) h2
    rw [frameS_in _ h3, ByteArray.append_assoc, e2]
    unfold sumS
    rw [h4, e1]
theorem summed_eq (s : ByteArray) (h : txtF s = false) : s.extract 0 (s.size - (txtR s).size) = textS (txtV s) := by
  have e := txt_back s h
  have hz : s.size = (textS (txtV s)).size + (txtR s).size := by rw [← ByteArray.size_append, e]
  have ht := ba_take (textS (txtV s)) (txtR s)
  rw [e] at ht
  rw [show s.size - (txtR s).size = (textS (txtV s)).size from by omega, ht]

theorem tk_new (w : World) (s : ByteArray) : TkAt w w.heap.size s false (w.alloc (.cells #[.string s, .bool false] 78)) := ⟨heap_alloc_new w _, Nat.le_refl _, al1 _ _⟩

set_option maxRecDepth 100000 in
set_option maxHeartbeats 4000000 in
theorem implUnframe_any (s : ByteArray) (hs : s.size ≤ 1048576) : AnsT 118 #[.string s] (.tuple #[.string (uf s).1, .int .i64 ((uf s).2 : Nat)]) := by
  intro w ht
  have HTB := hide ht
  have HA := hide (tk_new w s)
  clear ht
  have HNO := hide (uf_no s)
  have HYES := hide (uf_yes s)
  have hsR : (sumR s).size ≤ s.size := by
    unfold sumR
    split
    · rw [ba_len _ _ _ (by omega) (Nat.le_refl _)]; omega
    · exact Nat.le_refl _
  have HSUM := hide (summed_eq (sumR s))
  have hV := txtV_size (sumR s)
  have hR := txtR_size (sumR s)
  have HTK : Hid (∀ W, TkAt w w.heap.size (sumR s) (false || sumF s) W → _) := hide (fun W hW => tkText_any w W w.heap.size (sumR s) (false || sumF s) hW (by omega))
  have HCRC : Hid ((txtV (sumR s)).size ≤ 200 → ∀ W, STab W → _) := hide (fun hz W hW => implCrc_any (textS (txtV (sumR s))) W (by have := textS_size' (txtV (sumR s)); omega) hW)
  have hsz := textS_size' (txtV (sumR s))
  go_enter Tryz.func118, Tryz.ntmps118
  go_wp2_with fail
  refine (tkSum_any w _ w.heap.size s false HA.out hs).mono ?_
  rintro e w1 ⟨rfl, h1⟩
  obtain ⟨c0, c1⟩ := h1.cells
  have H1 := hide h1
  clear h1 HA
  go_wp2_with fail
  clear c0 c1
  refine (HTK.out _ H1.out).mono ?_
  rintro e w2 ⟨rfl, h2⟩
  obtain ⟨c0, c1⟩ := h2.cells
  have HB2 := hide h2.bel
  have HT2 := hide (HTB.out.later h2.bel)
  clear h2 HTK H1 HTB
  generalize sumV s = sm at *
  generalize sumF s = f1 at *
  generalize sumR s = B at *
  generalize txtF B = f2 at *
  generalize hR0 : txtR B = R at *
  generalize hV0 : txtV B = T at *
  clear hR0 hV0
  by_cases hf : (false || f1 || f2) = true
  · rw [hf] at c1
    have HE : Hid (uf s = (⟨#[]⟩, 0)) := hide (HNO.out (by cases f1 <;> cases f2 <;> simp_all))
    clear HNO HYES HSUM HCRC
    go_wp2
    go_ret2
    rw [HE.out]
    exact ⟨rfl, HB2.out⟩
  have hf' : (false || f1 || f2) = false := by simpa using hf
  rw [hf'] at c1
  have hf1 : f1 = false := by cases f1 <;> simp_all
  have hf2 : f2 = false := by cases f2 <;> simp_all
  clear hf hf'
  by_cases h200 : T.size ≤ 200
  · have t0 : decide ((200 : Int) < (T.size : Int)) = false := by simp; omega
    have HS2 := hide (HSUM.out hf2)
    have HC := hide (HCRC.out h200)
    have b0 : (0 : Int) ≤ (B.size : Int) - (R.size : Int) := by omega
    have b1 : (B.size : Int) - (R.size : Int) ≤ (B.size : Int) := by omega
    have HN : Hid (((B.size : Int) - (R.size : Int)).toNat = B.size - R.size) := hide (by omega)
    have hsl : ∀ W : World, (Instr.slice 9 (.string B) none (some (.int .i64 ((B.size : Int) - (R.size : Int)))) none).run Tryz.prog W = .ok (.string (textS T)) W := fun W => by
      rw [run_slice_string_h W 9 B Tryz.underlying9 .i64 _ b0 b1, HN.out, HS2.out]
    clear HSUM HCRC HS2 HN
    by_cases hc : crcN (textS T) = sm
    · have HE : Hid (uf s = (T, 4 + (textS T).size)) := hide (HYES.out hf1 hf2 h200 hc)
      have q : ((crcN (textS T) : Int) != (sm : Int)) = false := by simp; omega
      clear HNO HYES hc
      generalize crcN (textS T) = cc at *
      generalize textS T = X at *
      go_wp2_with fail
      refine (HC.out _ HT2.out).mono ?_
      rintro e w3 ⟨rfl, hb3⟩
      have HB3 := hide (HB2.out.trans (hb3.mono HB2.out.size))
      clear hb3 HC HB2 HT2 c0 c1
      go_wp2
      go_ret2
      rw [HE.out]
      exact ⟨by simp, HB3.out⟩
    · have HE : Hid (uf s = (⟨#[]⟩, 0)) := hide (HNO.out (Or.inr (Or.inr (Or.inr hc))))
      have q : ((crcN (textS T) : Int) != (sm : Int)) = true := by simp; omega
      clear HNO HYES hc
      generalize crcN (textS T) = cc at *
      generalize textS T = X at *
      go_wp2_with fail
      refine (HC.out _ HT2.out).mono ?_
      rintro e w3 ⟨rfl, hb3⟩
      have HB3 := hide (HB2.out.trans (hb3.mono HB2.out.size))
      clear hb3 HC HB2 HT2 c0 c1
      go_wp2
      go_ret2
      rw [HE.out]
      exact ⟨rfl, HB3.out⟩
  · have t0 : decide ((200 : Int) < (T.size : Int)) = true := by simp; omega
    have HE : Hid (uf s = (⟨#[]⟩, 0)) := hide (HNO.out (Or.inr (Or.inr (Or.inl (by omega)))))
    clear HNO HYES HSUM HCRC
    go_wp2
    go_ret2
    rw [HE.out]
    exact ⟨rfl, HB2.out⟩

end Go.Proofs.YtimpokbcfjgdaaaGreatDoor
namespace Go.Proofs.YtimpokbcfjgdaaaGreatDoor
open Go.RowKit
open Plain

/-- What RecAt tells. -/
def ra (s : ByteArray) (at' n : Int) : RecV × Bool :=
  if 0 ≤ at' ∧ at' ≤ s.size ∧ 1 ≤ n ∧ n ≤ s.size - at' ∧ ((uf (s.extract at'.toNat (at'.toNat + n.toNat))).2 : Int) = n ∧ (rr (uf (s.extract at'.toNat (at'.toNat + n.toNat))).1).2 = true then ((rr (uf (s.extract at'.toNat (at'.toNat + n.toNat))).1).1, true) else (zeroR, false)

end Go.Proofs.YtimpokbcfjgdaaaGreatDoor
namespace Go.Proofs.YtimpokbcfjgdaaaGreatDoor
open Go.RowKit
open Plain

/-- The two errors lie where the package's variables say. -/
structure ErrIn (w : World) (A B : Addr) : Prop where
  cTorn : w.cell? ⟨0, 0, none⟩ = some (.iface 231 (.pointer (some A)))
  cNoRec : w.cell? ⟨1, 0, none⟩ = some (.iface 231 (.pointer (some B)))
  bTorn : ∃ c t, w.heap[A.block]? = some (.cells c t (0, 0))
  bNoRec : ∃ c t, w.heap[B.block]? = some (.cells c t (0, 0))
  ne : A ≠ B
theorem cell_lt {w : World} {p : Addr} {v : Value} (h : w.cell? p = some v) : p.block < w.heap.size := by
  rcases Nat.lt_or_ge p.block w.heap.size with h' | h'
  · exact h'
  · simp [World.cell?, Array.getElem?_eq_none h'] at h
theorem blk_lt {w : World} {b : Nat} {o : Obj} (h : w.heap[b]? = some o) : b < w.heap.size := (Array.getElem?_eq_some_iff.1 h).1
theorem ErrIn.later {w w' : World} {A B : Addr} {K : Nat} (h : ErrIn w A B) (hb : Below K w w') (hK : w.heap.size ≤ K) : ErrIn w' A B where
  cTorn := by rw [hb.cell (Nat.lt_of_lt_of_le (cell_lt h.cTorn) hK)]; exact h.cTorn
  cNoRec := by rw [hb.cell (Nat.lt_of_lt_of_le (cell_lt h.cNoRec) hK)]; exact h.cNoRec
  bTorn := by obtain ⟨c, t, h1⟩ := h.bTorn; exact ⟨c, t, (hb.block _ (Nat.lt_of_lt_of_le (blk_lt h1) hK)).trans h1⟩
  bNoRec := by obtain ⟨c, t, h1⟩ := h.bNoRec; exact ⟨c, t, (hb.block _ (Nat.lt_of_lt_of_le (blk_lt h1) hK)).trans h1⟩
  ne := h.ne
/-- What spotAt answers: the spot's cells, and the error. -/
def spC (s : ByteArray) (p : Nat) : Array Value :=
  if (uf (s.extract p s.size)).2 = 0 ∨ (rr (uf (s.extract p s.size)).1).2 = false then #[.int .i64 0, .int .i64 0, .int .i64 0, .int .i64 0, .string ⟨#[]⟩, .string ⟨#[]⟩, .int .i64 0, .int .i64 0]
  else #[.int .i64 p, .int .i64 ((uf (s.extract p s.size)).2 : Nat), .int .i64 (rr (uf (s.extract p s.size)).1).1.kind, .int .i64 (rr (uf (s.extract p s.size)).1).1.batch, .string (rr (uf (s.extract p s.size)).1).1.key, .string (rr (uf (s.extract p s.size)).1).1.val, .int .i64 (rr (uf (s.extract p s.size)).1).1.cnt, .int .i64 (rr (uf (s.extract p s.size)).1).1.sum]
def spE (A B : Addr) (s : ByteArray) (p : Nat) : Value :=
  if (uf (s.extract p s.size)).2 = 0 then .iface 167 (.agg #[.int .i64 p, .iface 231 (.pointer (some A))])
  else if (rr (uf (s.extract p s.size)).1).2 = false then .iface 167 (.agg #[.int .i64 p, .iface 231 (.pointer (some B))])
  else .nilIface

/-- What is known of a result's block as long as nothing was written into it. -/
theorem res_gen (w W0 W : World) (T : TypeId) (cs : Array Value) (hW : W0 = w.alloc (.cells cs T)) (hb : Below W0.heap.size W0 W) :
    Below w.heap.size w W ∧ (∀ j, W.frozen? ⟨w.heap.size, j, none⟩ = false) ∧ W.heap[w.heap.size]? = some (.cells cs T (0, 0)) := by
  have e : W0.heap.size = w.heap.size + 1 := by rw [hW]; simp
  have hr : W.heap[w.heap.size]? = some (.cells cs T (0, 0)) := by
    rw [hb.block _ (by omega), hW]
    exact heap_alloc_new w _
  have h0 : Below w.heap.size w W0 := by rw [hW]; exact al1 w _
  exact ⟨h0.trans (hb.mono h0.size), fun j => by simp [World.frozen?, hr], hr⟩

/-- A store into another block leaves a cell alone. -/
theorem cell_past (W : World) (b b' j : Nat) (v : Value) (h : b ≠ b') : (W.setCell ⟨b, j, none⟩ v).cell? ⟨b', 0, none⟩ = W.cell? ⟨b', 0, none⟩ := by
  unfold World.cell?
  rw [Below.heap_setCell W ⟨b, j, none⟩ v b' (by simp; exact fun e => h e.symm)]

set_option maxRecDepth 100000 in
set_option maxHeartbeats 4000000 in
theorem spotAt_any (s : ByteArray) (hs : s.size ≤ 1048576) (p : Nat) (hp : p ≤ s.size) (A B : Addr) (w : World) (ht : STab w) (he : ErrIn w A B) :
    Calls Tryz.prog 110 #[.string s, .int .i64 p] w fun e w' => e = .returned (.tuple #[.agg (spC s p), spE A B s p]) ∧ Below w.heap.size w w' := by
  have hsz : (s.extract p s.size).size = s.size - p := ba_len _ _ _ (by omega) (Nat.le_refl _)
  have HU := hide (implUnframe_any (s.extract p s.size) (by omega))
  have hub := uf_bd (s.extract p s.size)
  have HRR := hide (implRR_any (uf (s.extract p s.size)).1 (by omega))
  have HSC : Hid (spC s p = _) := hide (by unfold spC; rfl)
  have HSE : Hid (spE A B s p = _) := hide (by unfold spE; rfl)
  obtain ⟨W0, hW⟩ : ∃ W0, W0 = w.alloc (.cells #[.int .i64 0, .int .i64 0, .int .i64 0, .int .i64 0, .string ⟨#[]⟩, .string ⟨#[]⟩, .int .i64 0, .int .i64 0] 43) := ⟨_, rfl⟩
  have HRC := hide (fun W h => res_gen w W0 W _ _ hW h)
  have n0 : w.heap.size ≠ 0 := by have := cell_lt he.cTorn; simp only at this; omega
  have n1 : w.heap.size ≠ 1 := by have := cell_lt he.cNoRec; simp only at this; omega
  have HP0 := hide (fun (W : World) j v => cell_past W w.heap.size 0 j v n0)
  have HP1 := hide (fun (W : World) j v => cell_past W w.heap.size 1 j v n1)
  clear n0 n1
  have hb0 : Below w.heap.size w W0 := by rw [hW]; exact al1 w _
  have HTB := hide (ht.later hb0)
  have HER := hide (he.later hb0 (Nat.le_refl _))
  clear ht he hub hsz hb0
  have b1 : (0 : Int) ≤ (p : Int) := by omega
  have b2 : (p : Int) ≤ (s.size : Int) := by omega
  generalize (uf (s.extract p s.size)).2 = m at *
  generalize (uf (s.extract p s.size)).1 = t at *
  generalize (rr t).2 = ok at *
  generalize (rr t).1 = r at *
  obtain ⟨X, HX⟩ : ∃ X, Hid (s.extract p s.size = X) := ⟨_, hide rfl⟩
  rw [HX.out] at HU
  go_enter Tryz.func110, Tryz.ntmps110
  go_wp2_with fail
  rw [← hW]
  try rw [HX.out]
  clear hW HX
  refine (HU.out _ HTB.out).mono ?_
  rintro e w1 ⟨rfl, hb1⟩
  have HB1 := hide hb1
  have HE1 := hide (HER.out.later hb1 (Nat.le_refl _))
  have ct := HE1.out.cTorn
  clear hb1 HU HER HTB
  by_cases hm0 : m = 0
  · have t0 : ((m : Int) == 0) = true := by simpa using hm0
    have HSC2 : Hid (spC s p = #[.int .i64 0, .int .i64 0, .int .i64 0, .int .i64 0, .string ⟨#[]⟩, .string ⟨#[]⟩, .int .i64 0, .int .i64 0]) := hide (by rw [HSC.out, if_pos (Or.inl hm0)])
    have HSE2 : Hid (spE A B s p = .iface 167 (.agg #[.int .i64 p, .iface 231 (.pointer (some A))])) := hide (by rw [HSE.out, if_pos hm0])
    clear HSC HSE hm0
    obtain ⟨hb6, hf6, hrow⟩ := HRC.out w1 HB1.out
    have HB6 := hide hb6
    have g0 := hf6 0
    have g1 := hf6 1
    have g2 := hf6 2
    have g3 := hf6 3
    have g4 := hf6 4
    have g5 := hf6 5
    have g6 := hf6 6
    have g7 := hf6 7
    have y0 : w1.cell? ⟨w.heap.size, 0, none⟩ = _ := cell_of_row w1 _ 0 _ _ _ hrow
    have y1 : w1.cell? ⟨w.heap.size, 1, none⟩ = _ := cell_of_row w1 _ 1 _ _ _ hrow
    have y2 : w1.cell? ⟨w.heap.size, 2, none⟩ = _ := cell_of_row w1 _ 2 _ _ _ hrow
    have y3 : w1.cell? ⟨w.heap.size, 3, none⟩ = _ := cell_of_row w1 _ 3 _ _ _ hrow
    have y4 : w1.cell? ⟨w.heap.size, 4, none⟩ = _ := cell_of_row w1 _ 4 _ _ _ hrow
    have y5 : w1.cell? ⟨w.heap.size, 5, none⟩ = _ := cell_of_row w1 _ 5 _ _ _ hrow
    have y6 : w1.cell? ⟨w.heap.size, 6, none⟩ = _ := cell_of_row w1 _ 6 _ _ _ hrow
    have y7 : w1.cell? ⟨w.heap.size, 7, none⟩ = _ := cell_of_row w1 _ 7 _ _ _ hrow
    clear hb6 hf6 hrow HRC HB1
    have hp := HP0.out
    clear HRR HP1 HP0 HE1
    go_wp2
    go_region_held3 (fun w' => w'.cell? ⟨0, 0, none⟩ = some (.iface 231 (.pointer (some A)))) (first | (simp only [World.cell?_drew, ct]; done) | (simp [ct, hp]; done)) (fail)
    go_wp2
    refine bodyPost_ret (v := .tuple #[.agg #[.int .i64 0, .int .i64 0, .int .i64 0, .int .i64 0, .string ⟨#[]⟩, .string ⟨#[]⟩, .int .i64 0, .int .i64 0], .iface 167 (.agg #[.int .i64 p, .iface 231 (.pointer (some A))])]) (by simp [results, Tryz.results110, go_sem, *]) rfl ⟨by rw [HSC2.out, HSE2.out], ?_⟩
    refine Below.drew ?_
    iterate 8 (refine Below.setCell ?_ (by exact Nat.le_refl _) _)
    exact HB6.out
  have t0 : ((m : Int) == 0) = false := by simpa using hm0
  go_wp2_with fail
  refine (HRR.out _).mono ?_
  rintro e w2 ⟨rfl, hb2⟩
  have HB2 := hide (HB1.out.trans (hb2.mono HB1.out.size))
  have HE2 := hide (HE1.out.later hb2 (Nat.le_refl _))
  clear hb2 HRR HB1 ct
  obtain ⟨w5, hw5⟩ : ∃ w5, w5 = w2.alloc (.cells #[.int .i64 r.kind, .int .i64 r.batch, .string r.key, .string r.val, .int .i64 r.cnt, .int .i64 r.sum] 41) := ⟨_, rfl⟩
  have hrow2 : w5.heap[w2.heap.size]? = some (.cells #[.int .i64 r.kind, .int .i64 r.batch, .string r.key, .string r.val, .int .i64 r.cnt, .int .i64 r.sum] 41 (0, 0)) := by rw [hw5]; exact heap_alloc_new w2 _
  have hb5 : Below W0.heap.size W0 w5 := by rw [hw5]; exact HB2.out.alloc HB2.out.size _
  have ct : w5.cell? ⟨1, 0, none⟩ = _ := (HE2.out.later (w' := w5) (by rw [hw5]; exact al1 _ _) (Nat.le_refl _)).cNoRec
  obtain ⟨hb6, hf6, hrow⟩ := HRC.out w5 hb5
  have HB6 := hide hb6
  obtain ⟨D, hD⟩ : ∃ D, w2.heap.size = D := ⟨_, rfl⟩
  rw [hD] at hrow2
  have g0 := hf6 0
  have g1 := hf6 1
  have g2 := hf6 2
  have g3 := hf6 3
  have g4 := hf6 4
  have g5 := hf6 5
  have g6 := hf6 6
  have g7 := hf6 7
  have y0 : w5.cell? ⟨w.heap.size, 0, none⟩ = _ := cell_of_row w5 _ 0 _ _ _ hrow
  have y1 : w5.cell? ⟨w.heap.size, 1, none⟩ = _ := cell_of_row w5 _ 1 _ _ _ hrow
  have y2 : w5.cell? ⟨w.heap.size, 2, none⟩ = _ := cell_of_row w5 _ 2 _ _ _ hrow
  have y3 : w5.cell? ⟨w.heap.size, 3, none⟩ = _ := cell_of_row w5 _ 3 _ _ _ hrow
  have y4 : w5.cell? ⟨w.heap.size, 4, none⟩ = _ := cell_of_row w5 _ 4 _ _ _ hrow
  have y5 : w5.cell? ⟨w.heap.size, 5, none⟩ = _ := cell_of_row w5 _ 5 _ _ _ hrow
  have y6 : w5.cell? ⟨w.heap.size, 6, none⟩ = _ := cell_of_row w5 _ 6 _ _ _ hrow
  have y7 : w5.cell? ⟨w.heap.size, 7, none⟩ = _ := cell_of_row w5 _ 7 _ _ _ hrow
  have x0 : w5.cell? ⟨D, 0, none⟩ = _ := cell_of_row w5 _ 0 _ _ _ hrow2
  have x1 : w5.cell? ⟨D, 1, none⟩ = _ := cell_of_row w5 _ 1 _ _ _ hrow2
  have x2 : w5.cell? ⟨D, 2, none⟩ = _ := cell_of_row w5 _ 2 _ _ _ hrow2
  have x3 : w5.cell? ⟨D, 3, none⟩ = _ := cell_of_row w5 _ 3 _ _ _ hrow2
  have x4 : w5.cell? ⟨D, 4, none⟩ = _ := cell_of_row w5 _ 4 _ _ _ hrow2
  have x5 : w5.cell? ⟨D, 5, none⟩ = _ := cell_of_row w5 _ 5 _ _ _ hrow2
  clear hb6 hf6 hrow hrow2 hb5 HRC HB2
  rw [hw5] at g0 g1 g2 g3 g4 g5 g6 g7 y0 y1 y2 y3 y4 y5 y6 y7 x0 x1 x2 x3 x4 x5 ct HB6
  clear hw5
  cases ok
  · have HSC2 : Hid (spC s p = #[.int .i64 0, .int .i64 0, .int .i64 0, .int .i64 0, .string ⟨#[]⟩, .string ⟨#[]⟩, .int .i64 0, .int .i64 0]) := hide (by rw [HSC.out, if_pos (Or.inr rfl)])
    have HSE2 : Hid (spE A B s p = .iface 167 (.agg #[.int .i64 p, .iface 231 (.pointer (some B))])) := hide (by rw [HSE.out, if_neg hm0, if_pos rfl])
    clear HSC HSE hm0
    have hp := HP1.out
    clear HP1 HP0 HE1 HE2
    go_wp2
    go_region_held3 (fun w' => w'.cell? ⟨1, 0, none⟩ = some (.iface 231 (.pointer (some B)))) (first | (simp only [World.cell?_drew, ct]; done) | (simp [ct, hp]; done)) (fail)
    go_wp2
    refine bodyPost_ret (v := .tuple #[.agg #[.int .i64 0, .int .i64 0, .int .i64 0, .int .i64 0, .string ⟨#[]⟩, .string ⟨#[]⟩, .int .i64 0, .int .i64 0], .iface 167 (.agg #[.int .i64 p, .iface 231 (.pointer (some B))])]) (by simp [results, Tryz.results110, go_sem, *]) rfl ⟨by rw [HSC2.out, HSE2.out], ?_⟩
    refine Below.drew ?_
    iterate 8 (refine Below.setCell ?_ (by exact Nat.le_refl _) _)
    exact HB6.out
  · have HSC2 : Hid (spC s p = #[.int .i64 p, .int .i64 m, .int .i64 r.kind, .int .i64 r.batch, .string r.key, .string r.val, .int .i64 r.cnt, .int .i64 r.sum]) := hide (by rw [HSC.out, if_neg (by simp [hm0])])
    have HSE2 : Hid (spE A B s p = .nilIface) := hide (by rw [HSE.out, if_neg hm0, if_neg (by simp)])
    clear HSC HSE hm0
    go_wp2
    refine bodyPost_ret (v := .tuple #[.agg #[.int .i64 p, .int .i64 m, .int .i64 r.kind, .int .i64 r.batch, .string r.key, .string r.val, .int .i64 r.cnt, .int .i64 r.sum], .nilIface]) (by simp [results, Tryz.results110, go_sem, *]) rfl ⟨by rw [HSC2.out, HSE2.out], ?_⟩
    iterate 8 (refine Below.setCell ?_ (by exact Nat.le_refl _) _)
    exact HB6.out

end Go.Proofs.YtimpokbcfjgdaaaGreatDoor
namespace Go.Proofs.YtimpokbcfjgdaaaGreatDoor
open Go.RowKit
open Plain

/-- A spot, or (where, torn or not) an error. -/
abbrev Item := SpotV ⊕ (Nat × Bool)
def badOf (A B : Addr) (q : Nat) (k : Bool) : Value := .iface 167 (.agg #[.int .i64 q, .iface 231 (.pointer (some (if k then A else B)))])
def encI (A B : Addr) : Item → Array Value
  | .inl p => #[.agg #[.int .i64 (p.pos : Nat), .int .i64 (p.len : Nat), .int .i64 p.r.kind, .int .i64 p.r.batch, .string p.r.key, .string p.r.val, .int .i64 p.r.cnt, .int .i64 p.r.sum], .nilIface]
  | .inr (q, k) => #[.agg #[.int .i64 0, .int .i64 0, .int .i64 0, .int .i64 0, .string ⟨#[]⟩, .string ⟨#[]⟩, .int .i64 0, .int .i64 0], badOf A B q k]
/-- What comes from place p on. -/
def itemF (s : ByteArray) : Nat → Nat → List Item
  | 0, _ => []
  | f + 1, p =>
    if p < s.size then
      if (uf (s.extract p s.size)).2 = 0 then [.inr (p, true)]
      else if (rr (uf (s.extract p s.size)).1).2 = false then [.inr (p, false)]
      else .inl ⟨p, (uf (s.extract p s.size)).2, (rr (uf (s.extract p s.size)).1).1⟩ :: itemF s f (p + (uf (s.extract p s.size)).2)
    else []
def items (s : ByteArray) : List Item := itemF s s.size 0
theorem itemF_end (s : ByteArray) (f p : Nat) (h : ¬ p < s.size) : itemF s f p = [] := by
  cases f with
  | zero => rfl
  | succ f => rw [itemF, if_neg h]
theorem itemF_torn (s : ByteArray) (f p : Nat) (h : p < s.size) (h1 : (uf (s.extract p s.size)).2 = 0) : itemF s (f + 1) p = [.inr (p, true)] := by
  rw [itemF, if_pos h, if_pos h1]
theorem itemF_none (s : ByteArray) (f p : Nat) (h : p < s.size) (h1 : ¬ (uf (s.extract p s.size)).2 = 0) (h2 : (rr (uf (s.extract p s.size)).1).2 = false) : itemF s (f + 1) p = [.inr (p, false)] := by
  rw [itemF, if_pos h, if_neg h1, if_pos h2]
theorem itemF_go (s : ByteArray) (f p : Nat) (h : p < s.size) (h1 : ¬ (uf (s.extract p s.size)).2 = 0) (h2 : (rr (uf (s.extract p s.size)).1).2 = true) :
    itemF s (f + 1) p = .inl ⟨p, (uf (s.extract p s.size)).2, (rr (uf (s.extract p s.size)).1).1⟩ :: itemF s f (p + (uf (s.extract p s.size)).2) := by
  rw [itemF, if_pos h, if_neg h1, if_neg (by rw [h2]; simp)]
theorem itemF_len (s : ByteArray) (f : Nat) : ∀ p, (itemF s f p).length ≤ f := by
  induction f with
  | zero => intro p; exact Nat.le_refl _
  | succ f ih =>
    intro p
    rw [itemF]
    split
    · split
      · simp
      · split
        · simp
        · have := ih (p + (uf (s.extract p s.size)).2)
          simp only [List.length_cons]
          omega
    · simp
/-- It is what ScanRecs tells, and at most one error behind. -/
theorem itemF_scan (s : ByteArray) (f : Nat) : ∀ p, ∃ t, (t = [] ∨ ∃ e, t = [Sum.inr e]) ∧ itemF s f p = (scanF s f p).1.map Sum.inl ++ t := by
  induction f with
  | zero => intro p; exact ⟨[], .inl rfl, rfl⟩
  | succ f ih =>
    intro p
    by_cases h : p < s.size
    · by_cases h1 : (uf (s.extract p s.size)).2 = 0
      · rw [itemF_torn s f p h h1, scanF_stop s (f + 1) p (Or.inl h1)]
        exact ⟨_, .inr ⟨_, rfl⟩, rfl⟩
      · cases h2 : (rr (uf (s.extract p s.size)).1).2 with
        | false =>
          rw [itemF_none s f p h h1 h2, scanF_stop s (f + 1) p (Or.inr h2)]
          exact ⟨_, .inr ⟨_, rfl⟩, rfl⟩
        | true =>
          obtain ⟨t, ht, e⟩ := ih (p + (uf (s.extract p s.size)).2)
          refine ⟨t, ht, ?_⟩
          rw [itemF_go s f p h h1 h2, scanF_go s f p h h1 h2, e]
          rfl
    · rw [itemF_end s _ p h, scanF_end s _ p h]
      exact ⟨[], .inl rfl, rfl⟩
theorem only_spots {ps qs : List SpotV} {t : List Item} (ht : t = [] ∨ ∃ e, t = [Sum.inr e]) (h : ps.map Sum.inl = qs.map Sum.inl ++ t) : ps = qs := by
  rcases ht with rfl | ⟨e, rfl⟩
  · rw [List.append_nil] at h
    exact (List.map_inj_right (fun a b e => by injection e)).1 h
  · exfalso
    have : (Sum.inr e : Item) ∈ ps.map Sum.inl := by rw [h]; simp
    simp at this
theorem spots_stop {e : Nat × Bool} {t : List Item} (ht : t = [] ∨ ∃ e, t = [Sum.inr e]) : ∀ {ps qs : List SpotV}, (ps.map Sum.inl ++ [Sum.inr e] <+: qs.map Sum.inl ++ t) → ps = qs
  | [], [], _ => rfl
  | [], q :: qs, h => by
    obtain ⟨r, hr⟩ := h
    simp at hr
  | p :: ps, [], h => by
    obtain ⟨r, hr⟩ := h
    rcases ht with rfl | ⟨e', rfl⟩ <;> simp at hr
  | p :: ps, q :: qs, h => by
    obtain ⟨r, hr⟩ := h
    simp only [List.map_cons, List.cons_append, List.cons.injEq, Sum.inl.injEq] at hr
    rw [hr.1, spots_stop ht (ps := ps) (qs := qs) ⟨r, by simpa using hr.2⟩]
theorem wrap_in {n : Int} (h0 : -9223372036854775808 ≤ n) (h1 : n ≤ 9223372036854775807) : wrap64 n = n := by
  unfold wrap64
  omega
/-- Where the last spot ends. -/
def endW (ps : List SpotV) : Int := ps.foldl (fun _ x => wrap64 ((x.pos : Int) + (x.len : Int))) 0
theorem endW_snoc (ps : List SpotV) (x : SpotV) : endW (ps ++ [x]) = wrap64 ((x.pos : Int) + (x.len : Int)) := by
  unfold endW
  rw [List.foldl_append, List.foldl_cons, List.foldl_nil]
theorem scanF_endW (s : ByteArray) (hs : s.size ≤ 1048576) (f : Nat) : ∀ p, p ≤ s.size → (scanF s f p).1.foldl (fun _ x => wrap64 ((x.pos : Int) + (x.len : Int))) (p : Int) = ((scanF s f p).2 : Nat) := by
  induction f with
  | zero => intro p _; rfl
  | succ f ih =>
    intro p hp
    by_cases h : p < s.size
    · by_cases h1 : (uf (s.extract p s.size)).2 = 0
      · rw [scanF_stop s (f + 1) p (Or.inl h1)]; rfl
      · cases h2 : (rr (uf (s.extract p s.size)).1).2 with
        | false => rw [scanF_stop s (f + 1) p (Or.inr h2)]; rfl
        | true =>
          have hb := uf_bd (s.extract p s.size)
          rw [ba_len _ _ _ (by omega) (Nat.le_refl _)] at hb
          have e := ih (p + (uf (s.extract p s.size)).2) (by omega)
          rw [scanF_go s f p h h1 h2]
          simp only [List.foldl_cons]
          rw [← e]
          congr 1
          rw [show ((p : Int) + ((uf (s.extract p s.size)).2 : Int)) = ((p + (uf (s.extract p s.size)).2 : Nat) : Int) from by omega]
          exact wrap_in (by omega) (by omega)
    · rw [scanF_end s _ p h]; rfl
theorem items_done (s : ByteArray) (hs : s.size ≤ 1048576) (ps : List SpotV) (h : ps.map Sum.inl = items s) : ps = (scanS s).1 ∧ endW ps = ((scanS s).2 : Nat) := by
  obtain ⟨t, ht, e⟩ := itemF_scan s s.size 0
  have e1 : ps = (scanS s).1 := only_spots ht (h.trans e)
  rw [e1]
  exact ⟨rfl, scanF_endW s hs s.size 0 (by omega)⟩
theorem items_stop (s : ByteArray) (hs : s.size ≤ 1048576) (ps : List SpotV) (x : Nat × Bool) (h : ps.map Sum.inl ++ [Sum.inr x] <+: items s) : ps = (scanS s).1 ∧ endW ps = ((scanS s).2 : Nat) := by
  obtain ⟨t, ht, e⟩ := itemF_scan s s.size 0
  unfold items at h
  rw [e] at h
  have e1 : ps = (scanS s).1 := spots_stop ht h
  rw [e1]
  exact ⟨rfl, scanF_endW s hs s.size 0 (by omega)⟩

end Go.Proofs.YtimpokbcfjgdaaaGreatDoor
