/-
  What spec.Unhex and impl.Unhex answer at every text of at most 1048576 bytes; they make new memory only.
-/
import Derived.Test.YtelfhodaahpggakLib
import Derived.Lib.Bytealg
import Derived.Laws.Externs
namespace Go.Proofs.Ytelfhodaahpggak
open Go.RowKit
open Plain

/-- The number of a digit's byte; -1 of any other. -/
def fh (b : Nat) : Int := if 48 ≤ b ∧ b ≤ 57 then (b : Int) - 48 else if 97 ≤ b ∧ b ≤ 102 then (b : Int) - 87 else -1
theorem fh_bd (b : Nat) : -1 ≤ fh b ∧ fh b ≤ 15 := by
  unfold fh
  split
  · omega
  · split <;> omega
theorem fh_hit (b k : Nat) (hk : k < 16) (h : dg k = (b : Int)) : fh b = (k : Int) := by
  unfold dg at h
  unfold fh
  split at h
  · rw [if_pos (by omega)]; omega
  · rw [if_neg (by omega), if_pos (by omega)]; omega
theorem fh_miss (b : Nat) (h : ∀ j, j < 16 → dg j ≠ (b : Int)) : fh b = -1 := by
  unfold fh
  split
  · rename_i hb
    have := h (b - 48) (by omega)
    unfold dg at this
    rw [if_pos (by omega)] at this
    omega
  · split
    · rename_i _ hb
      have := h (b - 87) (by omega)
      unfold dg at this
      rw [if_neg (by omega)] at this
      omega
    · rfl
theorem index_hex : ∀ b : Nat, b < 256 → Lib.indexByte [48, 49, 50, 51, 52, 53, 54, 55, 56, 57, 97, 98, 99, 100, 101, 102] b.toUInt8 = fh b := by
  decide +kernel
theorem or16 (a b : Int) (h0 : 0 ≤ a) (h1 : a < 16) (h2 : 0 ≤ b) (h3 : b < 16) : bits .or .i64 (a * 16) b = 16 * a + b := by
  obtain ⟨A, rfl⟩ := Int.eq_ofNat_of_zero_le h0
  obtain ⟨B, rfl⟩ := Int.eq_ofNat_of_zero_le h2
  have e : ((A : Int) * 16) = ((A * 16 : Nat) : Int) := by omega
  rw [e, i64_or_nat _ _ (by omega) (by omega), nat_join 4 (A * 16) B (by omega) (by omega)]
  omega

/-- The bytes that the first k pairs of digits say. -/
def uo (s : ByteArray) (k : Nat) : List Int := (List.range k).map fun i => 16 * fh ((bl s).getD (2 * i) 0) + fh ((bl s).getD (2 * i + 1) 0)
theorem uo_succ (s : ByteArray) (k : Nat) : uo s (k + 1) = uo s k ++ [16 * fh ((bl s).getD (2 * k) 0) + fh ((bl s).getD (2 * k + 1) 0)] := by simp [uo, List.range_succ]
theorem uo_length (s : ByteArray) (k : Nat) : (uo s k).length = k := by simp [uo]
def AllHex (s : ByteArray) : Prop := s.size % 2 = 0 ∧ ∀ j, j < s.size → 0 ≤ fh ((bl s).getD j 0)
/-- What Unhex answers. -/
def UX (s r : ByteArray) (ok : Bool) : Prop := (ok = false ∧ r = ⟨#[]⟩ ∧ ¬ AllHex s) ∨ (ok = true ∧ r = strOfNums (uo s (s.size / 2)) ∧ AllHex s)
theorem UX_one {s r r' : ByteArray} {o o' : Bool} (h : UX s r o) (h' : UX s r' o') : r = r' ∧ o = o' := by
  rcases h with ⟨a, b, c⟩ | ⟨a, b, c⟩
  · rcases h' with ⟨a', b', c'⟩ | ⟨a', b', c'⟩
    · exact ⟨by rw [b, b'], by rw [a, a']⟩
    · exact absurd c' c
  · rcases h' with ⟨a', b', c'⟩ | ⟨a', b', c'⟩
    · exact absurd c c'
    · exact ⟨by rw [b, b'], by rw [a, a']⟩

set_option maxRecDepth 100000 in
set_option maxHeartbeats 400000 in
theorem slIndexByte (s : ByteArray) (c : Int) (w : World) :
    Calls Try.prog 10 #[.string s, .int .u8 c] w fun e w' => e = .returned (.int .i64 (Lib.indexByte s.data.toList c.toNat.toUInt8)) ∧ w = w' := by
  go_enter Try.func10, Try.ntmps10
  go_wp2
  rw [run_callFunc_extern Try.func11 (by kernel_rfl) (by kernel_rfl) (by kernel_rfl) (e := Extern.BytealgIndexByte.indexByte) (by kernel_rfl), Lib.run_indexByteString]
  simp only [Result.andThen]
  rw [Oper.upon_value]
  go_wp2
  go_ret
  exact ⟨rfl, rfl⟩
set_option maxHeartbeats 400000 in
theorem hexIndex (b : Nat) (hb : b < 256) (w : World) :
    Calls Try.prog 7 #[.string ⟨#[48, 49, 50, 51, 52, 53, 54, 55, 56, 57, 97, 98, 99, 100, 101, 102]⟩, .int .u8 b] w fun e w' => e = .returned (.int .i64 (fh b)) ∧ w = w' := by
  have HI := hide (index_hex b hb)
  go_enter Try.func7, Try.ntmps7
  go_wp2_with fail
  refine (slIndexByte _ _ _).mono ?_
  rintro e w' ⟨rfl, rfl⟩
  go_wp2
  go_ret
  exact ⟨congrArg (fun x => Ending.returned (.int .i64 x)) HI.out, rfl⟩

set_option maxRecDepth 100000 in
set_option maxHeartbeats 400000 in
theorem fromHex (b : Nat) (w : World) :
    Calls Try.prog 6 #[.int .u8 b] w fun e w' => e = .returned (.int .i64 (fh b)) ∧ w = w' := by
  go_enter Try.func6, Try.ntmps6
  go_wp2
  go_loop [3] (fun i => ∃ k : Nat, k ≤ 16 ∧ i = .int .i64 k ∧ Hid (∀ j, j < k → dg j ≠ (b : Int))) (fun i => 16 - (intOf i).toNat)
  case atStart => exact ⟨0, by omega, rfl, hide (by intro j hj; omega)⟩
  case round =>
    obtain ⟨k, hk, rfl, HA⟩ := hrel
    by_cases hlt : k < 16
    · by_cases hd : dg k = (b : Int)
      · have hq : (dg k == (b : Int)) = true := by simpa using hd
        have HD := hide hd
        clear hd
        go_wp2_with fail
        refine (digit_any (k : Int) _ (by omega) (by omega)).mono ?_
        rintro e w' ⟨rfl, rfl⟩
        rw [Int.toNat_natCast]
        go_wp2
        go_ret
        exact ⟨by rw [fh_hit b k hlt HD.out]; rfl, rfl⟩
      · have hq : (dg k == (b : Int)) = false := by simpa using hd
        have HD := hide hd
        clear hd
        go_wp2_with fail
        refine (digit_any (k : Int) _ (by omega) (by omega)).mono ?_
        rintro e w' ⟨rfl, rfl⟩
        rw [Int.toNat_natCast]
        go_wp2
        go_round
        case rel => exact ⟨k + 1, by omega, by go_num, hide (by
          intro j hj
          by_cases hjk : j < k
          · exact HA.out j hjk
          · obtain rfl : j = k := by omega
            exact HD.out)⟩
        case measure => simp [intOf]; omega
    · obtain rfl : k = 16 := by omega
      go_wp2
      go_ret
      exact ⟨by rw [fh_miss b HA.out]; rfl, rfl⟩

theorem getD_pair (s : ByteArray) (k : Nat) (h : 2 * k + 1 < s.size) : (bl s).getD (2 * k) 0 = (s[2 * k]'(by omega)).toNat ∧ (bl s).getD (2 * k + 1) 0 = s[2 * k + 1].toNat := ⟨getD_bl s _ (by omega), getD_bl s _ h⟩

set_option maxRecDepth 100000 in
set_option maxHeartbeats 1000000 in
theorem specUnhex_any (s : ByteArray) (w : World) (hs : s.size ≤ 1048576) :
    Calls Try.prog 4 #[.string s] w fun e w' => (∃ r ok, e = .returned (.tuple #[.string r, .bool ok]) ∧ UX s r ok) ∧ Below w.heap.size w w' := by
  by_cases hodd : s.size % 2 = 0
  · have ho : ((s.size : Int) % 2 == 1) = false := by simp; omega
    have HO := hide hodd
    obtain ⟨m, hm⟩ : ∃ m, s.size = 2 * m := ⟨s.size / 2, by omega⟩
    have hm1 : s.size ≤ 2 * m := by omega
    have hm2 : 2 * m ≤ s.size := by omega
    clear hm
    go_enter Try.func4, Try.ntmps4
    go_wp2
    go_loopw [4, 5] (fun v i wr => ∃ k : Nat, k ≤ m ∧ i = .int .i64 (2 * (k : Int)) ∧ wr.ownsRow w.heap.size 5 1 v k ((uo s k).map (Value.int .u8)) ∧ Hid (∀ j, j < 2 * k → 0 ≤ fh ((bl s).getD j 0)) ∧ Below w.heap.size w wr) (fun _ i _ => s.size - (intOf i).toNat)
    case atStart => exact ⟨0, by omega, rfl, World.ownsRow_lit w #[] 0 (Nat.le_refl _) (by unfold maxLen; omega) rfl, hide (by intro j hj; omega), (Below.refl _ _).alloc (Nat.le_refl _) _⟩
    case round =>
      obtain ⟨k, hk, rfl, hown, HA, hB⟩ := hrel
      by_cases hlt : k < m
      · have hp := getD_pair s k (by omega)
        have HX : Hid (fh ((bl s).getD (2 * k) 0) = fh (s[2 * k]'(by omega)).toNat) := hide (by rw [hp.1])
        have HY : Hid (fh ((bl s).getD (2 * k + 1) 0) = fh (s[2 * k + 1]'(by omega)).toNat) := hide (by rw [hp.2])
        have hx := fh_bd (s[2 * k]'(by omega)).toNat
        have hy := fh_bd (s[2 * k + 1]'(by omega)).toNat
        have HS := hide (uo_succ s k)
        clear hp
        by_cases hxn : fh (s[2 * k]'(by omega)).toNat < 0
        · go_wp2_with fail
          refine (fromHex (s[2 * k]'(by omega)).toNat _).mono ?_
          rintro e w' ⟨rfl, rfl⟩
          go_wp2_with fail
          refine (fromHex (s[2 * k + 1]'(by omega)).toNat _).mono ?_
          rintro e w' ⟨rfl, rfl⟩
          generalize fh (s[2 * k]'(by omega)).toNat = x at *
          generalize fh (s[2 * k + 1]'(by omega)).toNat = y at *
          go_wp2
          go_ret2
          exact ⟨⟨_, _, rfl, Or.inl ⟨rfl, rfl, fun h => by have := h.2 (2 * k) (by omega); rw [HX.out] at this; omega⟩⟩, hB⟩
        · by_cases hyn : fh (s[2 * k + 1]'(by omega)).toNat < 0
          · go_wp2_with fail
            refine (fromHex (s[2 * k]'(by omega)).toNat _).mono ?_
            rintro e w' ⟨rfl, rfl⟩
            go_wp2_with fail
            refine (fromHex (s[2 * k + 1]'(by omega)).toNat _).mono ?_
            rintro e w' ⟨rfl, rfl⟩
            generalize fh (s[2 * k]'(by omega)).toNat = x at *
            generalize fh (s[2 * k + 1]'(by omega)).toNat = y at *
            go_wp2
            go_ret2
            exact ⟨⟨_, _, rfl, Or.inl ⟨rfl, rfl, fun h => by have := h.2 (2 * k + 1) (by omega); rw [HY.out] at this; omega⟩⟩, hB⟩
          · go_wp2_with fail
            refine (fromHex (s[2 * k]'(by omega)).toNat _).mono ?_
            rintro e w' ⟨rfl, rfl⟩
            go_wp2_with fail
            refine (fromHex (s[2 * k + 1]'(by omega)).toNat _).mono ?_
            rintro e w' ⟨rfl, rfl⟩
            generalize fh (s[2 * k]'(by omega)).toNat = x at *
            generalize fh (s[2 * k + 1]'(by omega)).toNat = y at *
            go_wp2_with (at_builtin; refine wpList_app_byte rfl (.tmp 34) (.tmp 40) rfl hown hB.size _ (by omega) rfl rfl ?_; intro v' w2 hown2 hB2)
            rename_i v' w2 hown2 hB2
            go_roundw
            case rel => exact ⟨k + 1, by omega, by go_num, by rw [HS.out, HX.out, HY.out, List.map_append]; exact hown2, hide (by
              intro j hj
              by_cases h1 : j < 2 * k
              · exact HA.out j h1
              · by_cases h2 : j = 2 * k
                · rw [h2, HX.out]; omega
                · obtain rfl : j = 2 * k + 1 := by omega
                  rw [HY.out]; omega), hB.trans hB2⟩
            case measure => simp [intOf]; omega
      · obtain rfl : k = m := by omega
        have HU : Hid (UX s (strOfNums (uo s k)) true) := hide (Or.inr ⟨rfl, by rw [show s.size / 2 = k from by omega], HO.out, fun j hj => HA.out j (by omega)⟩)
        have hcv := cv_own hown
        clear hown HO
        go_wp2
        go_ret2
        exact ⟨⟨_, _, rfl, HU.out⟩, hB⟩
  · have ho : ((s.size : Int) % 2 == 1) = true := by simp; omega
    have HN : Hid (¬ AllHex s) := hide (by rintro ⟨h, _⟩; omega)
    clear hodd
    go_enter Try.func4, Try.ntmps4
    go_wp2
    go_ret2
    exact ⟨⟨_, _, rfl, Or.inl ⟨rfl, rfl, HN.out⟩⟩, (Below.refl _ _).alloc (Nat.le_refl _) _⟩

set_option maxRecDepth 100000 in
set_option maxHeartbeats 1000000 in
theorem implUnhex_any (s : ByteArray) (w : World) (hs : s.size ≤ 1048576) :
    Calls Try.prog 5 #[.string s] w fun e w' => (∃ r ok, e = .returned (.tuple #[.string r, .bool ok]) ∧ UX s r ok) ∧ Below w.heap.size w w' := by
  by_cases hodd : s.size % 2 = 0
  · have ho : ((s.size : Int) % 2 != 0) = false := by simp; omega
    have HO := hide hodd
    obtain ⟨m, hm⟩ : ∃ m, s.size = 2 * m := ⟨s.size / 2, by omega⟩
    have hm1 : s.size ≤ 2 * m := by omega
    have hm2 : 2 * m ≤ s.size := by omega
    obtain ⟨i0, hi, hz0, hz1, hz2⟩ := info_parts Try.info5
    obtain ⟨w1, hmk0, hown, hgrow⟩ := run_make_full (P := Try.prog) w w.heap.size 25 5 i0 (.int .u8 0) 1 Try.underlying25 hi hz0 hz1 .i64 .i64 m (by rw [hz2]; omega) (by unfold maxLen; omega) (Nat.le_refl _)
    have hmk : (Instr.makeSlice 25 (.int .i64 ((s.size : Int) / 2)) (.int .i64 ((s.size : Int) / 2))).run Try.prog w = .ok (.slice (some ⟨w.heap.size, 0, none⟩) m m) w1 := by
      have e : (s.size : Int) / 2 = (m : Int) := by omega
      rw [e]; exact hmk0
    have hB1 : Below w.heap.size w w1 := (Below.refl _ _).grown hgrow (Nat.le_refl _) (by intro k h; cases h)
    have HR : Hid (w1.heap[w.heap.size]? = some (.cells (rowOf m (uo s 0)).toArray 5 (0, 0))) := hide (by rw [made_row hown]; rw [show uo s 0 = [] from rfl, rowOf_nil])
    clear hown hgrow hi hz0 hz1 hz2 hmk0 hm hodd
    go_enter Try.func5, Try.ntmps5
    go_wp2
    go_loopw [5, 6] (fun a i wr => ∃ k : Nat, k ≤ m ∧ i = .int .i64 (2 * (k : Int)) ∧ a = .int .i64 ((uo s k).length) ∧ Hid (wr.heap[w.heap.size]? = some (.cells (rowOf m (uo s k)).toArray 5 (0, 0))) ∧ Hid (∀ j, j < 2 * k → 0 ≤ fh ((bl s).getD j 0)) ∧ Below w.heap.size w wr) (fun _ i _ => s.size - (intOf i).toNat)
    case atStart => exact ⟨0, by omega, rfl, rfl, HR, hide (by intro j hj; omega), hB1⟩
    case round =>
      clear HR hB1 hmk
      obtain ⟨k, hk, rfl, rfl, HR, HA, hB⟩ := hrel
      have HL := hide (uo_length s k)
      by_cases hlt : k < m
      · have hp := getD_pair s k (by omega)
        have HX : Hid (fh ((bl s).getD (2 * k) 0) = fh (s[2 * k]'(by omega)).toNat) := hide (by rw [hp.1])
        have HY : Hid (fh ((bl s).getD (2 * k + 1) 0) = fh (s[2 * k + 1]'(by omega)).toNat) := hide (by rw [hp.2])
        have hx := fh_bd (s[2 * k]'(by omega)).toNat
        have hy := fh_bd (s[2 * k + 1]'(by omega)).toNat
        have hc1 := UInt8.toNat_lt (s[2 * k]'(by omega))
        have hc2 := UInt8.toNat_lt (s[2 * k + 1]'(by omega))
        have HS := hide (uo_succ s k)
        have hl2 : (uo s k).length + 1 ≤ m := by rw [HL.out]; omega
        clear hp
        by_cases hxn : fh (s[2 * k]'(by omega)).toNat < 0
        · go_wp2_with fail
          refine (hexIndex (s[2 * k]'(by omega)).toNat hc1 _).mono ?_
          rintro e w' ⟨rfl, rfl⟩
          go_wp2_with fail
          refine (hexIndex (s[2 * k + 1]'(by omega)).toNat hc2 _).mono ?_
          rintro e w' ⟨rfl, rfl⟩
          generalize fh (s[2 * k]'(by omega)).toNat = x at *
          generalize fh (s[2 * k + 1]'(by omega)).toNat = y at *
          go_wp2
          go_ret2
          exact ⟨⟨_, _, rfl, Or.inl ⟨rfl, rfl, fun h => by have := h.2 (2 * k) (by omega); rw [HX.out] at this; omega⟩⟩, hB⟩
        · by_cases hyn : fh (s[2 * k + 1]'(by omega)).toNat < 0
          · go_wp2_with fail
            refine (hexIndex (s[2 * k]'(by omega)).toNat hc1 _).mono ?_
            rintro e w' ⟨rfl, rfl⟩
            go_wp2_with fail
            refine (hexIndex (s[2 * k + 1]'(by omega)).toNat hc2 _).mono ?_
            rintro e w' ⟨rfl, rfl⟩
            generalize fh (s[2 * k]'(by omega)).toNat = x at *
            generalize fh (s[2 * k + 1]'(by omega)).toNat = y at *
            go_wp2
            go_ret2
            exact ⟨⟨_, _, rfl, Or.inl ⟨rfl, rfl, fun h => by have := h.2 (2 * k + 1) (by omega); rw [HY.out] at this; omega⟩⟩, hB⟩
          · have e16 := or16 _ _ (show 0 ≤ fh (s[2 * k]'(by omega)).toNat by omega) (by omega) (show 0 ≤ fh (s[2 * k + 1]'(by omega)).toNat by omega) (by omega)
            go_wp2_with fail
            refine (hexIndex (s[2 * k]'(by omega)).toNat hc1 _).mono ?_
            rintro e w' ⟨rfl, rfl⟩
            go_wp2_with fail
            refine (hexIndex (s[2 * k + 1]'(by omega)).toNat hc2 _).mono ?_
            rintro e w' ⟨rfl, rfl⟩
            generalize fh (s[2 * k]'(by omega)).toNat = x at *
            generalize fh (s[2 * k + 1]'(by omega)).toNat = y at *
            go_wp2_with fail
            refine (put1 w.heap.size m w.heap.size (uo s k) (16 * x + y) w wr hl2 (by omega) HR hB hB.size (Nat.le_refl _)).mono ?_
            rintro e w2 ⟨rfl, HR2, hB2⟩
            have HR3 : Hid (w2.heap[w.heap.size]? = some (.cells (rowOf m (uo s (k + 1))).toArray 5 (0, 0))) := hide (by rw [HS.out, HX.out, HY.out]; exact HR2.out)
            have HL3 : Hid ((((uo s k).length : Nat) : Int) + 1 = ((uo s (k + 1)).length : Nat)) := hide (by rw [HS.out]; simp)
            clear HR HR2 hB e16 HS
            go_wp2
            go_roundw
            case rel => exact ⟨k + 1, by omega, by go_num, val_int HL3.out, HR3, hide (by
              intro j hj
              by_cases h1 : j < 2 * k
              · exact HA.out j h1
              · by_cases h2 : j = 2 * k
                · rw [h2, HX.out]; omega
                · obtain rfl : j = 2 * k + 1 := by omega
                  rw [HY.out]; omega), hB2⟩
            case measure => simp [intOf]; omega
      · obtain rfl : k = m := by omega
        have HU : Hid (UX s (strOfNums (uo s k)) true) := hide (Or.inr ⟨rfl, by rw [show s.size / 2 = k from by omega], HO.out, fun j hj => HA.out j (by omega)⟩)
        have hcv : (convert 25 9 (.slice (some ⟨w.heap.size, 0, none⟩) k k)).run Try.prog wr = .ok (.string (strOfNums (uo s k))) wr := cv_pre HR.out HL.out
        clear HR HO
        go_wp2
        go_ret2
        exact ⟨⟨_, _, rfl, HU.out⟩, hB⟩
  · have ho : ((s.size : Int) % 2 != 0) = true := by simp; omega
    have HN : Hid (¬ AllHex s) := hide (by rintro ⟨h, _⟩; omega)
    clear hodd
    go_enter Try.func5, Try.ntmps5
    go_wp2
    go_ret2
    exact ⟨⟨_, _, rfl, Or.inl ⟨rfl, rfl, HN.out⟩⟩, Below.refl _ _⟩

end Go.Proofs.Ytelfhodaahpggak
