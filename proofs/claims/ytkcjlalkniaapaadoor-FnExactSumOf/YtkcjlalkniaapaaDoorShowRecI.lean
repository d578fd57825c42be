/-
  impl.ShowRec: the text of a record, of every kind.
-/
import Derived.Test.YtkcjlalkniaapaaDoorShowImpl
namespace Go.Proofs.YtkcjlalkniaapaaDoor
open Go.RowKit
open Plain

set_option maxRecDepth 100000 in
set_option maxHeartbeats 4000000 in
theorem show_right (k b : Int) (key val : ByteArray) (c s : Int) (t : TypeId) (v : Value) (body : ByteArray) (hz : body.size ≤ 1048576) (w : World)
    (hO : Ans 73 #[.agg #[.int .i64 k, .int .i64 b, .string key, .string val, .int .i64 c, .int .i64 s]] (.bool true))
    (hB : Ans 75 #[.agg #[.int .i64 k, .int .i64 b, .string key, .string val, .int .i64 c, .int .i64 s]] (.iface t v)) (hS : Ans 74 #[.iface t v] (.string body)) :
    Calls Tryd.prog 55 #[.agg #[.int .i64 k, .int .i64 b, .string key, .string val, .int .i64 c, .int .i64 s]] w fun e w' => e = .returned (.string (varS k ++ varS b ++ body)) ∧ Below w.heap.size w w' := by
  have HA := hide (RecAt.new w k b key val c s)
  have HK := hide (implVar_any k)
  have HBt := hide (implVar_any b)
  have HO := hide hO
  have HB := hide hB
  have HS := hide hS
  have z1 := varS_size k
  have z2 := varS_size b
  have z3 : ¬ 9223372036854775807 < (varS k).size + (varS b).size := by omega
  have z4 : ¬ 9223372036854775807 < (varS k).size + (varS b).size + body.size := by omega
  have z5 : ¬ 9223372036854775807 < (varS k ++ varS b).size + body.size := by rw [ByteArray.size_append]; omega
  clear hO hB hS z1 z2 hz
  generalize varS k = vk at *
  generalize varS b = vb at *
  go_enter Tryd.func55, Tryd.ntmps55
  go_wp2_with fail
  refine (HO.out _).mono ?_
  rintro e w1 ⟨rfl, hb1⟩
  have hS1 := (HA.out.later hb1.drew).cells
  clear HA hb1
  go_wp2
  go_region_held3 (fun w' => w'.cell? ⟨w.heap.size, 0, none⟩ = some (.int .i64 k) ∧ w'.cell? ⟨w.heap.size, 1, none⟩ = some (.int .i64 b) ∧ w'.cell? ⟨w.heap.size, 2, none⟩ = some (.string key) ∧ w'.cell? ⟨w.heap.size, 3, none⟩ = some (.string val) ∧ w'.cell? ⟨w.heap.size, 4, none⟩ = some (.int .i64 c) ∧ w'.cell? ⟨w.heap.size, 5, none⟩ = some (.int .i64 s) ∧ Hid (RecAt w w.heap.size k b key val c s w')) (assumption) (first
    | (go_at_call_of 58 (Value.int IntKind.i64 k); refine (RecAt.keep HK.out _ hS1.2.2.2.2.2.2).mono ?_; rintro e w2 ⟨rfl, hk2⟩; have hS2 := hk2.cells)
    | (go_at_call_of 58 (Value.int IntKind.i64 b); refine (RecAt.keep HBt.out _ hS2.2.2.2.2.2.2).mono ?_; rintro e w3 ⟨rfl, hk3⟩; have hS3 := hk3.cells)
    | (go_at_call 75; refine (RecAt.keep HB.out _ hS3.2.2.2.2.2.2).mono ?_; rintro e w4 ⟨rfl, hk4⟩; have hS4 := hk4.cells)
    | (go_at_call 74; refine (RecAt.keep HS.out _ hS4.2.2.2.2.2.2).mono ?_; rintro e w5 ⟨rfl, hk5⟩; have hS5 := hk5.cells))
  have HBl := hide hk5.bel
  clear hS5 hk5 hS4 hk4 hS3 hk3 hS2 hk2 hS1 HK HBt HO HB HS
  go_wp2
  go_ret
  exact ⟨rfl, HBl.out⟩

set_option maxRecDepth 100000 in
set_option maxHeartbeats 4000000 in
theorem show_wrong (k b : Int) (key val : ByteArray) (c s : Int) (w : World)
    (hO : Ans 73 #[.agg #[.int .i64 k, .int .i64 b, .string key, .string val, .int .i64 c, .int .i64 s]] (.bool false)) :
    Calls Tryd.prog 55 #[.agg #[.int .i64 k, .int .i64 b, .string key, .string val, .int .i64 c, .int .i64 s]] w fun e w' => e = .returned (.string ⟨#[]⟩) ∧ Below w.heap.size w w' := by
  have HA := hide (RecAt.new w k b key val c s)
  have HO := hide hO
  clear hO
  go_enter Tryd.func55, Tryd.ntmps55
  go_wp2_with fail
  refine (HO.out _).mono ?_
  rintro e w1 ⟨rfl, hb1⟩
  have HB := hide (HA.out.later hb1).bel
  clear HA hb1 HO
  go_wp2
  go_ret
  exact ⟨rfl, HB.out⟩

theorem implShow_any (r : RecV) : Ans 55 #[.agg #[.int .i64 r.kind, .int .i64 r.batch, .string r.key, .string r.val, .int .i64 r.cnt, .int .i64 r.sum]] (.string (showS r)) := by
  intro w
  have hO := implRecOk_any r
  cases h : recOkB r with
  | false =>
    rw [h] at hO
    rw [show_none r h]
    exact show_wrong _ _ _ _ _ _ w hO
  | true =>
    rw [h] at hO
    obtain ⟨k, b, key, val, c, s⟩ := r
    have hok : RecOkP k b key.size val.size c s := okN_iff.1 h
    have e : showS ⟨k, b, key, val, c, s⟩ = varS k ++ varS b ++ bodyS k key val c s := if_pos h
    rw [e]
    simp only
    unfold RecOkP at hok
    by_cases k1 : k = 1
    · subst k1
      have e1 : bodyS 1 key val c s = textS key ++ textS val := if_pos (Or.inl rfl)
      rw [e1]
      have z1 := textS_size key
      have z2 := textS_size val
      exact show_right 1 b key val c s _ _ _ (by rw [ByteArray.size_append]; omega) w hO (fun W => bodyOf_1 b key val c s W) (showBody_1 key val (by omega) (by omega))
    by_cases k4 : k = 4
    · subst k4
      have e1 : bodyS 4 key val c s = textS key ++ textS val := if_pos (Or.inr rfl)
      rw [e1]
      have z1 := textS_size key
      have z2 := textS_size val
      exact show_right 4 b key val c s _ _ _ (by rw [ByteArray.size_append]; omega) w hO (fun W => bodyOf_4 b key val c s W) (showBody_4 key val (by omega) (by omega))
    by_cases k2 : k = 2
    · subst k2
      have e1 : bodyS 2 key val c s = textS key := by unfold bodyS; rw [if_neg (by omega), if_pos rfl]
      rw [e1]
      have z1 := textS_size key
      exact show_right 2 b key val c s _ _ _ (by omega) w hO (fun W => bodyOf_2 b key val c s W) (showBody_2 key (by omega))
    have e1 : bodyS k key val c s = totS c s := by unfold bodyS; rw [if_neg (by omega), if_neg k2]
    rw [e1]
    have z1 := totS_size c s
    by_cases k3 : k = 3
    · subst k3
      exact show_right 3 b key val c s _ _ _ (by omega) w hO (fun W => bodyOf_3 b key val c s W) (showBody_3 c s (by omega))
    · obtain rfl : k = 5 := by omega
      exact show_right 5 b key val c s _ _ _ (by omega) w hO (fun W => bodyOf_5 b key val c s W) (showBody_5 c s (by omega))

end Go.Proofs.YtkcjlalkniaapaaDoor
