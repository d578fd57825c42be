/-
  What the laws' szEntry, toEntry and eqEntry answer; an entry that comes in as an argument.
-/
import Derived.Test.YtnckdfidehbcaaaEntBase
import Derived.Deep.Slices
import Derived.Deep.Strs
namespace Go.Proofs.Ytnckdfidehbcaaa
open Go.RowKit Go.Deep
open Plain

/-- l less n, or -1. -/
def lessR (l n : Int) : Int := if n ≤ l then l - n else -1
theorem lessR_yes {l n : Int} (h : n ≤ l) : lessR l n = l - n := by unfold lessR; rw [if_pos h]
theorem lessR_no {l n : Int} (h : l < n) : lessR l n = -1 := by unfold lessR; rw [if_neg (by omega)]

set_option maxHeartbeats 400000 in
theorem szEnt_any (r : EntV) (l : Int) (h0 : 0 ≤ l) (h1 : l ≤ 1048576) (hn : r.key.size ≤ maxLen) (w : World) :
    Calls Try.prog 39 #[.agg #[.string r.key, .int .i64 r.seg, .int .i64 r.pos, .int .i64 r.len, .int .i64 r.bat], .int .i64 l] w fun e w' => e = .returned (.int .i64 (lessR l (r.key.size : Int))) ∧ Below w.heap.size w w' := by
  unfold maxLen at hn
  by_cases c1 : l - (r.key.size : Int) < 0
  · have HR := hide (lessR_no (l := l) (n := (r.key.size : Int)) (by omega))
    go_enter Try.func39, Try.ntmps39
    go_wp2
    go_ret
    exact ⟨by rw [HR.out]; rfl, (Below.refl _ _).alloc (Nat.le_refl _) _⟩
  · have HR : Hid (lessR l (r.key.size : Int) = l - (r.key.size : Int)) := hide (by rw [lessR_yes (by omega)])
    go_enter Try.func39, Try.ntmps39
    go_wp2
    go_ret
    exact ⟨by rw [HR.out]; rfl, (Below.refl _ _).alloc (Nat.le_refl _) _⟩

theorem al3 (w : World) (a b c : Obj) : Below w.heap.size w (((w.alloc a).alloc b).alloc c) := (al2 w a b).alloc (by simp; omega) c

set_option maxHeartbeats 400000 in
theorem toEnt_any (r : EntV) : Ans 40 #[.agg #[.string r.key, .int .i64 r.seg, .int .i64 r.pos, .int .i64 r.len, .int .i64 r.bat]] (.agg #[.string r.key, .int .i64 r.seg, .int .i64 r.pos, .int .i64 r.len, .int .i64 r.bat]) := by
  intro w
  go_enter Try.func40, Try.ntmps40
  go_wp2
  refine bodyPost_ret (v := .agg #[.string r.key, .int .i64 r.seg, .int .i64 r.pos, .int .i64 r.len, .int .i64 r.bat]) (by simp [results, Try.results40, go_sem]) rfl ⟨rfl, ?_⟩
  exact al3 _ _ _ _

set_option maxRecDepth 100000 in
set_option maxHeartbeats 4000000 in
theorem eqEnt_any (p q : EntV) : Ans 41 #[.agg #[.string p.key, .int .i64 p.seg, .int .i64 p.pos, .int .i64 p.len, .int .i64 p.bat], .agg #[.string q.key, .int .i64 q.seg, .int .i64 q.pos, .int .i64 q.len, .int .i64 q.bat]] (.bool (eqE p q)) := by
  intro w
  by_cases h1 : p.key = q.key
  · have t1 := str_eq _ _ h1
    by_cases h2 : p.seg = q.seg
    · have t2 : (p.seg != q.seg) = false := by simpa using h2
      by_cases h3 : p.pos = q.pos
      · have t3 : (p.pos != q.pos) = false := by simpa using h3
        by_cases h4 : p.len = q.len
        · have t4 : (p.len != q.len) = false := by simpa using h4
          by_cases h5 : p.bat = q.bat
          · have t5 : (p.bat != q.bat) = false := by simpa using h5
            have HV : Hid (eqE p q = true) := hide ((eqE_iff _ _).2 (EntV.ext' h1 h2 h3 h4 h5))
            clear h1 h2 h3 h4 h5
            go_enter Try.func41, Try.ntmps41
            go_wp2
            go_ret
            exact ⟨by rw [HV.out]; rfl, al2 _ _ _⟩
          · have t5 : (p.bat != q.bat) = true := by simpa using h5
            have HV : Hid (eqE p q = false) := hide (eqE_no (fun h => h5 (by rw [h])))
            clear h1 h2 h3 h4 h5
            go_enter Try.func41, Try.ntmps41
            go_wp2
            go_ret
            exact ⟨by rw [HV.out]; rfl, al2 _ _ _⟩
        · have t4 : (p.len != q.len) = true := by simpa using h4
          have HV : Hid (eqE p q = false) := hide (eqE_no (fun h => h4 (by rw [h])))
          clear h1 h2 h3 h4
          go_enter Try.func41, Try.ntmps41
          go_wp2
          go_ret
          exact ⟨by rw [HV.out]; rfl, al2 _ _ _⟩
      · have t3 : (p.pos != q.pos) = true := by simpa using h3
        have HV : Hid (eqE p q = false) := hide (eqE_no (fun h => h3 (by rw [h])))
        clear h1 h2 h3
        go_enter Try.func41, Try.ntmps41
        go_wp2
        go_ret
        exact ⟨by rw [HV.out]; rfl, al2 _ _ _⟩
    · have t2 : (p.seg != q.seg) = true := by simpa using h2
      have HV : Hid (eqE p q = false) := hide (eqE_no (fun h => h2 (by rw [h])))
      clear h1 h2
      go_enter Try.func41, Try.ntmps41
      go_wp2
      go_ret
      exact ⟨by rw [HV.out]; rfl, al2 _ _ _⟩
  · have t1 := str_ne _ _ h1
    have HV : Hid (eqE p q = false) := hide (eqE_no (fun h => h1 (by rw [h])))
    clear h1
    go_enter Try.func41, Try.ntmps41
    go_wp2
    go_ret
    exact ⟨by rw [HV.out]; rfl, al2 _ _ _⟩

theorem cells9' : Try.prog.cellsOf 9 = 1 := by kernel_rfl
theorem cells3' : Try.prog.cellsOf 3 = 1 := by kernel_rfl
theorem cellsLE : Try.prog.cellsOf 69 = 5 := by kernel_rfl

section
variable {H : Type} {enc : TypeId × Value → H} {w : World} {base : Nat} {spare : Nat → Bool} {held : Bool}
set_option maxRecDepth 100000 in
/-- The entry itself. -/
theorem open_ent {fuel : Nat} {cs : List Value} {x : DataW H × List MemPlace} (h : DataW.trod enc Try.prog w base spare held fuel 69 cs = some x) :
    ∃ r : EntV, cs = entSh.cells r ∧ r.key.size ≤ maxLen := by
  obtain ⟨xs, n, _, _, hl, hlen, hf⟩ := DataW.trod_struct Try.underlying69 h
  rw [cellsLE] at hl
  match xs, hlen, cs, hl with
  | [y0, y1, y2, y3, y4], _, [v0, v1, v2, v3, v4], _ =>
    obtain ⟨key, e0, _, z0⟩ := DataW.trod_string Try.underlying9 (by simpa using hf 0 _ rfl)
    obtain ⟨k, e1, _, z1⟩ := DataW.trod_int Try.underlying3 (by simpa using hf 1 _ rfl)
    obtain ⟨b, e2, _, z2⟩ := DataW.trod_int Try.underlying3 (by simpa using hf 2 _ rfl)
    obtain ⟨c, e3, _, z3⟩ := DataW.trod_int Try.underlying3 (by simpa using hf 3 _ rfl)
    obtain ⟨s, e4, _, z4⟩ := DataW.trod_int Try.underlying3 (by simpa using hf 4 _ rfl)
    simp [cells9', cells3'] at e0 e1 e2 e3 e4
    subst e0; subst e1; subst e2; subst e3; subst e4
    exact ⟨⟨key, k, b, c, s⟩, rfl, z0⟩
end

end Go.Proofs.Ytnckdfidehbcaaa
