/-
  What the laws' szRec, toRec and eqRec answer; a record that comes in as an argument.
-/
import Derived.Test.YtphbinkkgmlnmaaGreatDoorG02
import Derived.Test.YtphbinkkgmlnmaaGreatDoorMRecOkI
import Derived.Deep.Slices
import Derived.Deep.Strs
namespace Go.Proofs.YtphbinkkgmlnmaaGreatDoor
open Go.RowKit Go.Deep
open Plain

/-- l less n, or -1. -/
def lessR (l n : Int) : Int := if n ≤ l then l - n else -1
theorem lessR_yes {l n : Int} (h : n ≤ l) : lessR l n = l - n := by unfold lessR; rw [if_pos h]
theorem lessR_no {l n : Int} (h : l < n) : lessR l n = -1 := by unfold lessR; rw [if_neg (by omega)]

/-- How many bytes a record has. -/
def szR (r : RecV) : Nat := r.key.size + r.val.size

set_option maxHeartbeats 400000 in
theorem szRec_any (r : RecV) (l : Int) (h0 : 0 ≤ l) (h1 : l ≤ 1048576) (hn : r.key.size ≤ maxLen) (ht : r.val.size ≤ maxLen) (w : World) :
    Calls Tryz.prog 54 #[.agg #[.int .i64 r.kind, .int .i64 r.batch, .string r.key, .string r.val, .int .i64 r.cnt, .int .i64 r.sum], .int .i64 l] w fun e w' => e = .returned (.int .i64 (lessR l (szR r : Int))) ∧ Below w.heap.size w w' := by
  unfold maxLen at hn ht
  have hsz : (szR r : Int) = (r.key.size : Int) + (r.val.size : Int) := by unfold szR; omega
  by_cases c1 : l - (r.key.size : Int) < 0
  · have HR := hide (lessR_no (l := l) (n := (szR r : Int)) (by omega))
    clear hsz
    go_enter Tryz.func54, Tryz.ntmps54
    go_wp2
    go_ret
    exact ⟨by rw [HR.out]; rfl, (Below.refl _ _).alloc (Nat.le_refl _) _⟩
  · by_cases c2 : l - (r.key.size : Int) - (r.val.size : Int) < 0
    · have HR := hide (lessR_no (l := l) (n := (szR r : Int)) (by omega))
      clear hsz
      go_enter Tryz.func54, Tryz.ntmps54
      go_wp2
      go_ret
      exact ⟨by rw [HR.out]; rfl, (Below.refl _ _).alloc (Nat.le_refl _) _⟩
    · have HR : Hid (lessR l (szR r : Int) = l - (r.key.size : Int) - (r.val.size : Int)) := hide (by rw [lessR_yes (by omega)]; omega)
      clear hsz
      go_enter Tryz.func54, Tryz.ntmps54
      go_wp2
      go_ret
      exact ⟨by rw [HR.out]; rfl, (Below.refl _ _).alloc (Nat.le_refl _) _⟩

set_option maxHeartbeats 400000 in
theorem toRec_any (r : RecV) : Ans 56 #[.agg #[.int .i64 r.kind, .int .i64 r.batch, .string r.key, .string r.val, .int .i64 r.cnt, .int .i64 r.sum]] (.agg #[.int .i64 r.kind, .int .i64 r.batch, .string r.key, .string r.val, .int .i64 r.cnt, .int .i64 r.sum]) := by
  intro w
  go_enter Tryz.func56, Tryz.ntmps56
  go_wp2
  refine bodyPost_ret (v := .agg #[.int .i64 r.kind, .int .i64 r.batch, .string r.key, .string r.val, .int .i64 r.cnt, .int .i64 r.sum]) (by simp [results, Tryz.results56, go_sem]) rfl ⟨rfl, ?_⟩
  exact al3 _ _ _ _

set_option maxRecDepth 100000 in
set_option maxHeartbeats 4000000 in
theorem eqRec_any (k b : Int) (key val : ByteArray) (c s k' b' : Int) (key' val' : ByteArray) (c' s' : Int) : Ans 58 #[.agg #[.int .i64 k, .int .i64 b, .string key, .string val, .int .i64 c, .int .i64 s], .agg #[.int .i64 k', .int .i64 b', .string key', .string val', .int .i64 c', .int .i64 s']] (.bool (eqN k b key val c s k' b' key' val' c' s')) := by
  intro w
  by_cases h1 : k = k'
  · have t1 : (k != k') = false := by simpa using h1
    by_cases h2 : b = b'
    · have t2 : (b != b') = false := by simpa using h2
      by_cases h3 : key = key'
      · have t3 := str_eq _ _ h3
        by_cases h4 : val = val'
        · have t4 := str_eq _ _ h4
          by_cases h5 : c = c'
          · have t5 : (c != c') = false := by simpa using h5
            by_cases h6 : s = s'
            · have t6 : (s != s') = false := by simpa using h6
              rw [eqN_yes ⟨h1, h2, h3, h4, h5, h6⟩]
              clear h1 h2 h3 h4 h5 h6
              go_enter Tryz.func58, Tryz.ntmps58
              go_wp2
              go_ret
              exact ⟨rfl, al2 _ _ _⟩
            · have t6 : (s != s') = true := by simpa using h6
              rw [eqN_no (fun h => h6 h.2.2.2.2.2)]
              clear h1 h2 h3 h4 h5 h6
              go_enter Tryz.func58, Tryz.ntmps58
              go_wp2
              go_ret
              exact ⟨rfl, al2 _ _ _⟩
          · have t5 : (c != c') = true := by simpa using h5
            rw [eqN_no (fun h => h5 h.2.2.2.2.1)]
            clear h1 h2 h3 h4 h5
            go_enter Tryz.func58, Tryz.ntmps58
            go_wp2
            go_ret
            exact ⟨rfl, al2 _ _ _⟩
        · have t4 := str_ne _ _ h4
          rw [eqN_no (fun h => h4 h.2.2.2.1)]
          clear h1 h2 h3 h4
          go_enter Tryz.func58, Tryz.ntmps58
          go_wp2
          go_ret
          exact ⟨rfl, al2 _ _ _⟩
      · have t3 := str_ne _ _ h3
        rw [eqN_no (fun h => h3 h.2.2.1)]
        clear h1 h2 h3
        go_enter Tryz.func58, Tryz.ntmps58
        go_wp2
        go_ret
        exact ⟨rfl, al2 _ _ _⟩
    · have t2 : (b != b') = true := by simpa using h2
      rw [eqN_no (fun h => h2 h.2.1)]
      clear h1 h2
      go_enter Tryz.func58, Tryz.ntmps58
      go_wp2
      go_ret
      exact ⟨rfl, al2 _ _ _⟩
  · have t1 : (k != k') = true := by simpa using h1
    rw [eqN_no (fun h => h1 h.1)]
    clear h1
    go_enter Tryz.func58, Tryz.ntmps58
    go_wp2
    go_ret
    exact ⟨rfl, al2 _ _ _⟩

/-- Block B holds the law's own record; what was there in w is untouched. -/
structure LRecAt (w : World) (B : Nat) (r : RecV) (W : World) : Prop where
  row : W.heap[B]? = some (.cells #[.int .i64 r.kind, .int .i64 r.batch, .string r.key, .string r.val, .int .i64 r.cnt, .int .i64 r.sum] 72 (0, 0))
  bel : Below w.heap.size w W
theorem LRecAt.later {w : World} {B : Nat} {r : RecV} {W W' : World} (h : LRecAt w B r W) (hb : Below W.heap.size W W') : LRecAt w B r W' :=
  ⟨(hb.block _ (lt_of_block h.row)).trans h.row, h.bel.trans (hb.mono h.bel.size)⟩
theorem LRecAt.cells {w : World} {B : Nat} {r : RecV} {W : World} (h : LRecAt w B r W) :
    W.cell? ⟨B, 0, none⟩ = some (.int .i64 r.kind) ∧ W.cell? ⟨B, 1, none⟩ = some (.int .i64 r.batch) ∧ W.cell? ⟨B, 2, none⟩ = some (.string r.key) ∧ W.cell? ⟨B, 3, none⟩ = some (.string r.val) ∧ W.cell? ⟨B, 4, none⟩ = some (.int .i64 r.cnt) ∧ W.cell? ⟨B, 5, none⟩ = some (.int .i64 r.sum) := by
  refine ⟨?_, ?_, ?_, ?_, ?_, ?_⟩ <;> (rw [cell_of_row W B _ _ _ _ h.row]; rfl)
theorem LRecAt.new (w : World) (r : RecV) : LRecAt w w.heap.size r (w.alloc (.cells #[.int .i64 r.kind, .int .i64 r.batch, .string r.key, .string r.val, .int .i64 r.cnt, .int .i64 r.sum] 72)) :=
  ⟨heap_alloc_new w _, al1 w _⟩

theorem cells9' : Tryz.prog.cellsOf 9 = 1 := by kernel_rfl
theorem cells3' : Tryz.prog.cellsOf 3 = 1 := by kernel_rfl
theorem cellsLR : Tryz.prog.cellsOf 72 = 6 := by kernel_rfl

section
variable {H : Type} {enc : TypeId × Value → H} {w : World} {base : Nat} {spare : Nat → Bool} {held : Bool}
set_option maxRecDepth 100000 in
/-- The record itself. -/
theorem open_rec {fuel : Nat} {cs : List Value} {x : DataW H × List MemPlace} (h : DataW.trod enc Tryz.prog w base spare held fuel 72 cs = some x) :
    ∃ r : RecV, cs = [.int .i64 r.kind, .int .i64 r.batch, .string r.key, .string r.val, .int .i64 r.cnt, .int .i64 r.sum] ∧ r.key.size ≤ maxLen ∧ r.val.size ≤ maxLen ∧ (Lit.int .i64 r.kind).wf = true ∧ (Lit.int .i64 r.batch).wf = true ∧ (Lit.int .i64 r.cnt).wf = true ∧ (Lit.int .i64 r.sum).wf = true := by
  obtain ⟨xs, n, _, _, hl, hlen, hf⟩ := DataW.trod_struct Tryz.underlying72 h
  rw [cellsLR] at hl
  match xs, hlen, cs, hl with
  | [y0, y1, y2, y3, y4, y5], _, [v0, v1, v2, v3, v4, v5], _ =>
    obtain ⟨k, e0, _, z0⟩ := DataW.trod_int Tryz.underlying3 (by simpa using hf 0 _ rfl)
    obtain ⟨b, e1, _, z1⟩ := DataW.trod_int Tryz.underlying3 (by simpa using hf 1 _ rfl)
    obtain ⟨key, e2, _, z2⟩ := DataW.trod_string Tryz.underlying9 (by simpa using hf 2 _ rfl)
    obtain ⟨val, e3, _, z3⟩ := DataW.trod_string Tryz.underlying9 (by simpa using hf 3 _ rfl)
    obtain ⟨c, e4, _, z4⟩ := DataW.trod_int Tryz.underlying3 (by simpa using hf 4 _ rfl)
    obtain ⟨s, e5, _, z5⟩ := DataW.trod_int Tryz.underlying3 (by simpa using hf 5 _ rfl)
    simp [cells9', cells3'] at e0 e1 e2 e3 e4 e5
    subst e0; subst e1; subst e2; subst e3; subst e4; subst e5
    exact ⟨⟨k, b, key, val, c, s⟩, rfl, z2, z3, z0, z1, z4, z5⟩
end

end Go.Proofs.YtphbinkkgmlnmaaGreatDoor
