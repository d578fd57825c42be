/-
  Entries of a directory in plain words, and rows of them. What the laws' szEntry, toEntry and eqEntry answer; an entry that comes in as an argument. What the laws' szEntryS, toEntryS and eqEntryS answer; a slice of entries that comes in as an argument. Rows that stand while others are written, and a place in a block. The decimal numeral of an int, as spec.Dec makes it. What the laws' markText answers: the text of a number. What the laws' markEntryS and heldEntryS do: they number the fields of a row of entries, and look whether the numbers stand. When the text of Var is a beginning of another text. The text of Var. The text of Fixed. The round trips of Var and of Fixed, with no Go in sight: what is made of a number is read as it, whatever stands behind, and only that; what ReadVar tells of a text, as a function. The texts of records, with no Go in sight: what ShowRec makes, and how such a text is read back, piece by piece. What spec.Var answers at every number; it makes new memory only. What impl.putBehind does: it lays the bytes that it is handed behind those that a row of the call's own already bears, and tells the place behind them. What impl.Var answers at every number; it makes new memory only. What spec.Fixed answers at every number and every width; it makes new memory only. What impl.Fixed answers at every number and every width; it makes new memory only. What spec.ReadFixed answers, at every text of at most 1048576 bytes and every width; it leaves the world as it was. What impl.ReadFixed answers, at every text of at most 1048576 bytes and every width; it leaves the world as it was. What spec.ReadVar answers at every text of at most 1048576 bytes; it makes new memory only. What impl.ReadVar answers at every text of at most 1048576 bytes; it leaves the world as it was. Contracts of chapter 1's functions at every number, as records want them: what they answer in whatever world.
-/
import Derived.Test.YtimpokbcfjgdaaaGreatDoorHG00
import Derived.Test.YtimpokbcfjgdaaaGreatDoorHMRecOkI
import Derived.Deep.Slices
import Derived.Deep.Strs
import Derived.Deep.RegionHeld3
import Derived.Below
import Derived.Lib.ItoaNum
import Derived.Deep.RegionHeld
namespace Go.Proofs.YtimpokbcfjgdaaaGreatDoor
open Go.RowKit
open Plain

/-- An entry: a key, and where its record stands. -/
structure EntV where
  key : ByteArray
  seg : Int
  pos : Int
  len : Int
  bat : Int
theorem EntV.ext' {r q : EntV} (h1 : r.key = q.key) (h2 : r.seg = q.seg) (h3 : r.pos = q.pos) (h4 : r.len = q.len) (h5 : r.bat = q.bat) : r = q := by
  cases r; cases q; simp_all
def entSh : Shape EntV where
  cells := fun r => [.string r.key, .int .i64 r.seg, .int .i64 r.pos, .int .i64 r.len, .int .i64 r.bat]
  k := 5
  len := fun _ => rfl
  one := fun r u h => by
    simp only [List.mem_cons, List.not_mem_nil, or_false] at h
    rcases h with rfl | rfl | rfl | rfl | rfl <;> rfl
  pos := by decide
def zeroE : EntV := ⟨⟨#[]⟩, 0, 0, 0, 0⟩
theorem Tryz.infoEnt : (Tryz.prog.info? 71).map (fun i => (i.zero, i.size, i.bytes)) = some (some (.agg #[.string ⟨#[]⟩, .int .i64 0, .int .i64 0, .int .i64 0, .int .i64 0]), 5, 48) := by kernel_rfl

theorem ent_cells {w : World} {a : Option Addr} {n : Nat} {xs : List EntV} (h : entSh.Row w a n xs) (i : Nat) (hi : i < xs.length) : ∃ b off, a = some ⟨b, off, none⟩ ∧ b < w.heap.size ∧
    w.cell? ⟨b, off + i * 5, none⟩ = some (.string (xs[i]).key) ∧ w.cell? ⟨b, off + i * 5 + 1, none⟩ = some (.int .i64 (xs[i]).seg) ∧ w.cell? ⟨b, off + i * 5 + 2, none⟩ = some (.int .i64 (xs[i]).pos) ∧ w.cell? ⟨b, off + i * 5 + 3, none⟩ = some (.int .i64 (xs[i]).len) ∧ w.cell? ⟨b, off + i * 5 + 4, none⟩ = some (.int .i64 (xs[i]).bat) := by
  obtain ⟨b, off, h1, h2, h3⟩ := h.cells i hi
  exact ⟨b, off, h1, h2, h3 0 (by decide), h3 1 (by decide), h3 2 (by decide), h3 3 (by decide), h3 4 (by decide)⟩

/-- 'out = append(out, e)', out a row of entries of the call's own, e in a new block. -/
theorem wpList_app_ent {ops : Array Oper} {rest : List Oper} {o : Oper} {act : Act} {Q : Exit → Act → World → Prop} (hgd : o.guard = none) (s x : Operand)
    (ho : o.op = .call { callee := .builtin .append, args := #[s, x], argTypes := #[24, 24] }) {w : World} {base : Nat} {v : Value} {xs : List EntV} (r : EntV) (hown : entSh.Own 71 w base v xs) (hb : base ≤ w.heap.size) (hn : xs.length ≤ 1099511627775)
    {N : Nat} (hs : act.eval s = v) (hx : act.eval x = .slice (some ⟨N, 0, none⟩) 1 1) (hN : w.heap.size = N)
    (h : ∀ a' n' cap' w', n' = xs.length + 1 → entSh.Own 71 w' base (.slice a' n' cap') (xs ++ [r]) → Below base w w' → wpList Tryz.prog ops Q rest (act.put o.dst (.slice a' n' cap')) w') :
    wpList Tryz.prog ops Q (o :: rest) act (w.alloc (.cells #[.string r.key, .int .i64 r.seg, .int .i64 r.pos, .int .i64 r.len, .int .i64 r.bat] 71)) := by
  subst hN
  obtain ⟨i0, hi, hz0, hz1, hz2⟩ := info_parts Tryz.infoEnt
  have hA : Below w.heap.size w (w.alloc (.cells (entSh.cells r).toArray 71)) := (Below.refl _ _).alloc (Nat.le_refl _) _
  refine entSh.wpList_app (P := Tryz.prog) hgd s x 24 71 ho Tryz.underlying24 hi hz0 hz1 hz2 rfl (by decide) (hown.later hA (Nat.le_refl _)) (Nat.le_trans hb hA.size) (Shape.Row.single entSh 71 w r) (by omega) hs hx ?_
  intro a' n' cap' w' hn' ho' hg
  refine h a' n' cap' w' hn' ho' ?_
  refine (hA.mono hb).trans ?_
  exact (Below.refl _ _).grown hg (Nat.le_trans hb hA.size) (fun g hg => (hown.blk g hg).1)

/-- Are two entries the same? -/
def eqE (p q : EntV) : Bool := decide (p.key = q.key ∧ p.seg = q.seg ∧ p.pos = q.pos ∧ p.len = q.len ∧ p.bat = q.bat)
theorem eqE_iff (p q : EntV) : eqE p q = true ↔ p = q := by
  unfold eqE
  rw [decide_eq_true_iff]
  exact ⟨fun h => EntV.ext' h.1 h.2.1 h.2.2.1 h.2.2.2.1 h.2.2.2.2, fun h => by subst h; exact ⟨rfl, rfl, rfl, rfl, rfl⟩⟩
theorem eqE_no {p q : EntV} (h : ¬ p = q) : eqE p q = false := Bool.eq_false_iff.2 (fun e => h ((eqE_iff p q).1 e))

/-- Five cells: an entry. -/
def At5 (w : World) (b o : Nat) (f : EntV) : Prop := w.cell? ⟨b, o, none⟩ = some (.string f.key) ∧ w.cell? ⟨b, o + 1, none⟩ = some (.int .i64 f.seg) ∧ w.cell? ⟨b, o + 2, none⟩ = some (.int .i64 f.pos) ∧ w.cell? ⟨b, o + 3, none⟩ = some (.int .i64 f.len) ∧ w.cell? ⟨b, o + 4, none⟩ = some (.int .i64 f.bat)
theorem At5.later {w w' : World} {b o K : Nat} {f : EntV} (h : At5 w b o f) (hb : Below K w w') (hK : b < K) : At5 w' b o f :=
  ⟨by rw [hb.cell (p := ⟨b, _, none⟩) hK]; exact h.1, by rw [hb.cell (p := ⟨b, _, none⟩) hK]; exact h.2.1, by rw [hb.cell (p := ⟨b, _, none⟩) hK]; exact h.2.2.1, by rw [hb.cell (p := ⟨b, _, none⟩) hK]; exact h.2.2.2.1, by rw [hb.cell (p := ⟨b, _, none⟩) hK]; exact h.2.2.2.2⟩
theorem ent_at {w : World} {a : Option Addr} {n : Nat} {xs : List EntV} (h : entSh.Row w a n xs) (i : Nat) (hi : i < xs.length) : ∃ b off, a = some ⟨b, off, none⟩ ∧ b < w.heap.size ∧ At5 w b (off + i * 5) (xs[i]) := by
  obtain ⟨b, off, h1, h2, h3⟩ := ent_cells h i hi
  exact ⟨b, off, h1, h2, h3⟩
theorem cells5 {w : World} {B : Nat} {x0 x1 x2 x3 x4 : Value} {ty : TypeId} (h : w.heap[B]? = some (.cells #[x0, x1, x2, x3, x4] ty (0, 0))) :
    w.cell? ⟨B, 0, none⟩ = some x0 ∧ w.cell? ⟨B, 1, none⟩ = some x1 ∧ w.cell? ⟨B, 2, none⟩ = some x2 ∧ w.cell? ⟨B, 3, none⟩ = some x3 ∧ w.cell? ⟨B, 4, none⟩ = some x4 ∧ w.frozen? ⟨B, 0, none⟩ = false ∧ w.frozen? ⟨B, 1, none⟩ = false ∧ w.frozen? ⟨B, 2, none⟩ = false ∧ w.frozen? ⟨B, 3, none⟩ = false ∧ w.frozen? ⟨B, 4, none⟩ = false := by
  have hf : ∀ j, w.frozen? ⟨B, j, none⟩ = false := fun j => by simp [World.frozen?, h]
  refine ⟨?_, ?_, ?_, ?_, ?_, hf 0, hf 1, hf 2, hf 3, hf 4⟩ <;> rw [cell_of_row w B _ _ _ _ h] <;> rfl
/-- Block B is an entry of the call's own. -/
def Blk5 (w : World) (B : Nat) (f : EntV) : Prop := w.heap[B]? = some (.cells #[.string f.key, .int .i64 f.seg, .int .i64 f.pos, .int .i64 f.len, .int .i64 f.bat] 71 (0, 0))
theorem Blk5.new (w : World) (f : EntV) : Blk5 (w.alloc (.cells #[.string f.key, .int .i64 f.seg, .int .i64 f.pos, .int .i64 f.len, .int .i64 f.bat] 71)) w.heap.size f := heap_alloc_new w _
theorem Blk5.lt {w : World} {B : Nat} {f : EntV} (h : Blk5 w B f) : B < w.heap.size := (Array.getElem?_eq_some_iff.1 h).1
theorem Blk5.later {w w' : World} {B K : Nat} {f : EntV} (h : Blk5 w B f) (hb : Below K w w') (hK : B < K) : Blk5 w' B f := (hb.block _ hK).trans h
/-- Five cells of a block above are written. -/
theorem below_set5 {n : Nat} {w w' : World} {B : Nat} (h : Below n w w') (hB : n ≤ B) (v0 v1 v2 v3 v4 : Value) : Below n w (((((w'.setCell ⟨B, 0, none⟩ v0).setCell ⟨B, 1, none⟩ v1).setCell ⟨B, 2, none⟩ v2).setCell ⟨B, 3, none⟩ v3).setCell ⟨B, 4, none⟩ v4) :=
  Below.setCell (Below.setCell (Below.setCell (Below.setCell (Below.setCell h (by exact hB) _) (by exact hB) _) (by exact hB) _) (by exact hB) _) (by exact hB) _
theorem at5_new (w : World) (f : EntV) : At5 (w.alloc (.cells #[.string f.key, .int .i64 f.seg, .int .i64 f.pos, .int .i64 f.len, .int .i64 f.bat] 71)) w.heap.size 0 f := by
  refine ⟨?_, ?_, ?_, ?_, ?_⟩ <;> rw [cell_of_row _ _ _ _ _ _ (heap_alloc_new w _)] <;> rfl

end Go.Proofs.YtimpokbcfjgdaaaGreatDoor
namespace Go.Proofs.YtimpokbcfjgdaaaGreatDoor
open Go.RowKit Go.Deep
open Plain

/-- l less n, or -1. -/
def lessR (l n : Int) : Int := if n ≤ l then l - n else -1
theorem lessR_yes {l n : Int} (h : n ≤ l) : lessR l n = l - n := by unfold lessR; rw [if_pos h]
theorem lessR_no {l n : Int} (h : l < n) : lessR l n = -1 := by unfold lessR; rw [if_neg (by omega)]

set_option maxHeartbeats 400000 in
theorem szEnt_any (r : EntV) (l : Int) (h0 : 0 ≤ l) (h1 : l ≤ 1048576) (hn : r.key.size ≤ maxLen) (w : World) :
    Calls Tryz.prog 97 #[.agg #[.string r.key, .int .i64 r.seg, .int .i64 r.pos, .int .i64 r.len, .int .i64 r.bat], .int .i64 l] w fun e w' => e = .returned (.int .i64 (lessR l (r.key.size : Int))) ∧ Below w.heap.size w w' := by
  unfold maxLen at hn
  by_cases c1 : l - (r.key.size : Int) < 0
  · have HR := hide (lessR_no (l := l) (n := (r.key.size : Int)) (by omega))
    go_enter Tryz.func97, Tryz.ntmps97
    go_wp2
    go_ret
    exact ⟨by rw [HR.out]; rfl, (Below.refl _ _).alloc (Nat.le_refl _) _⟩
  · have HR : Hid (lessR l (r.key.size : Int) = l - (r.key.size : Int)) := hide (by rw [lessR_yes (by omega)])
    go_enter Tryz.func97, Tryz.ntmps97
    go_wp2
    go_ret
    exact ⟨by rw [HR.out]; rfl, (Below.refl _ _).alloc (Nat.le_refl _) _⟩

set_option maxHeartbeats 400000 in
theorem toEnt_any (r : EntV) : Ans 98 #[.agg #[.string r.key, .int .i64 r.seg, .int .i64 r.pos, .int .i64 r.len, .int .i64 r.bat]] (.agg #[.string r.key, .int .i64 r.seg, .int .i64 r.pos, .int .i64 r.len, .int .i64 r.bat]) := by
  intro w
  go_enter Tryz.func98, Tryz.ntmps98
  go_wp2
  refine bodyPost_ret (v := .agg #[.string r.key, .int .i64 r.seg, .int .i64 r.pos, .int .i64 r.len, .int .i64 r.bat]) (by simp [results, Tryz.results98, go_sem]) rfl ⟨rfl, ?_⟩
  exact al3 _ _ _ _

set_option maxRecDepth 100000 in
set_option maxHeartbeats 4000000 in
theorem eqEnt_any (p q : EntV) : Ans 95 #[.agg #[.string p.key, .int .i64 p.seg, .int .i64 p.pos, .int .i64 p.len, .int .i64 p.bat], .agg #[.string q.key, .int .i64 q.seg, .int .i64 q.pos, .int .i64 q.len, .int .i64 q.bat]] (.bool (eqE p q)) := by
  intro w
  by_cases h1 : p.key = q.key
  · have t1 := str_eq _ _ h1
    by_cases h2 : p.seg = q.seg
    · have t2 : (p.seg != q.seg) = false := by simpa using h2
      by_cases h3 : p.pos = q.pos
      · have t3 : (p.pos != q.pos) = false := by simpa using h3
        by_cases h4 : p.len = q.len
        · have t4 : (p.len != q.len) = false := by simpa using h4
          by_cases h5 : p.bat = q.bat
          · have t5 : (p.bat != q.bat) = false := by simpa using h5
            have HV : Hid (eqE p q = true) := hide ((eqE_iff _ _).2 (EntV.ext' h1 h2 h3 h4 h5))
            clear h1 h2 h3 h4 h5
            go_enter Tryz.func95, Tryz.ntmps95
            go_wp2
            go_ret
            exact ⟨by rw [HV.out]; rfl, al2 _ _ _⟩
          · have t5 : (p.bat != q.bat) = true := by simpa using h5
            have HV : Hid (eqE p q = false) := hide (eqE_no (fun h => h5 (by rw [h])))
            clear h1 h2 h3 h4 h5
            go_enter Tryz.func95, Tryz.ntmps95
            go_wp2
            go_ret
            exact ⟨by rw [HV.out]; rfl, al2 _ _ _⟩
        · have t4 : (p.len != q.len) = true := by simpa using h4
          have HV : Hid (eqE p q = false) := hide (eqE_no (fun h => h4 (by rw [h])))
          clear h1 h2 h3 h4
          go_enter Tryz.func95, Tryz.ntmps95
          go_wp2
          go_ret
          exact ⟨by rw [HV.out]; rfl, al2 _ _ _⟩
      · have t3 : (p.pos != q.pos) = true := by simpa using h3
        have HV : Hid (eqE p q = false) := hide (eqE_no (fun h => h3 (by rw [h])))
        clear h1 h2 h3
        go_enter Tryz.func95, Tryz.ntmps95
        go_wp2
        go_ret
        exact ⟨by rw [HV.out]; rfl, al2 _ _ _⟩
    · have t2 : (p.seg != q.seg) = true := by simpa using h2
      have HV : Hid (eqE p q = false) := hide (eqE_no (fun h => h2 (by rw [h])))
      clear h1 h2
      go_enter Tryz.func95, Tryz.ntmps95
      go_wp2
      go_ret
      exact ⟨by rw [HV.out]; rfl, al2 _ _ _⟩
  · have t1 := str_ne _ _ h1
    have HV : Hid (eqE p q = false) := hide (eqE_no (fun h => h1 (by rw [h])))
    clear h1
    go_enter Tryz.func95, Tryz.ntmps95
    go_wp2
    go_ret
    exact ⟨by rw [HV.out]; rfl, al2 _ _ _⟩

theorem cells9' : Tryz.prog.cellsOf 9 = 1 := by kernel_rfl
theorem cells3' : Tryz.prog.cellsOf 3 = 1 := by kernel_rfl
theorem cellsLE : Tryz.prog.cellsOf 145 = 5 := by kernel_rfl

section
variable {H : Type} {enc : TypeId × Value → H} {w : World} {base : Nat} {spare : Nat → Bool} {held : Bool}
set_option maxRecDepth 100000 in
/-- The entry itself. -/
theorem open_ent {fuel : Nat} {cs : List Value} {x : DataW H × List MemPlace} (h : DataW.trod enc Tryz.prog w base spare held fuel 145 cs = some x) :
    ∃ r : EntV, cs = entSh.cells r ∧ r.key.size ≤ maxLen := by
  obtain ⟨xs, n, _, _, hl, hlen, hf⟩ := DataW.trod_struct Tryz.underlying145 h
  rw [cellsLE] at hl
  match xs, hlen, cs, hl with
  | [y0, y1, y2, y3, y4], _, [v0, v1, v2, v3, v4], _ =>
    obtain ⟨key, e0, _, z0⟩ := DataW.trod_string Tryz.underlying9 (by simpa using hf 0 _ rfl)
    obtain ⟨k, e1, _, z1⟩ := DataW.trod_int Tryz.underlying3 (by simpa using hf 1 _ rfl)
    obtain ⟨b, e2, _, z2⟩ := DataW.trod_int Tryz.underlying3 (by simpa using hf 2 _ rfl)
    obtain ⟨c, e3, _, z3⟩ := DataW.trod_int Tryz.underlying3 (by simpa using hf 3 _ rfl)
    obtain ⟨s, e4, _, z4⟩ := DataW.trod_int Tryz.underlying3 (by simpa using hf 4 _ rfl)
    simp [cells9', cells3'] at e0 e1 e2 e3 e4
    subst e0; subst e1; subst e2; subst e3; subst e4
    exact ⟨⟨key, k, b, c, s⟩, rfl, z0⟩
end

end Go.Proofs.YtimpokbcfjgdaaaGreatDoor
namespace Go.Proofs.YtimpokbcfjgdaaaGreatDoor
open Go.RowKit Go.Deep
open Plain

def szEs : List EntV → Nat
  | [] => 0
  | r :: l => r.key.size + szEs l
theorem szEs_append (l m : List EntV) : szEs (l ++ m) = szEs l + szEs m := by
  induction l with
  | nil => simp [szEs]
  | cons r l ih => rw [List.cons_append, szEs, szEs, ih]; omega
theorem szEs_take_succ (l : List EntV) (k : Nat) (h : k < l.length) : szEs (l.take (k + 1)) = szEs (l.take k) + (l[k]).key.size := by
  rw [List.take_succ_eq_append_getElem h, szEs_append]
  simp [szEs]
theorem szEs_take_le (l : List EntV) (k : Nat) : szEs (l.take k) ≤ szEs l := by
  have := szEs_append (l.take k) (l.drop k)
  rw [List.take_append_drop] at this
  omega
theorem szEs_mem (l : List EntV) (k : Nat) (h : k < l.length) : (l[k]).key.size ≤ szEs l := by
  have := szEs_take_succ l k h
  have := szEs_take_le l (k + 1)
  omega
/-- Every key of the entries can be. -/
def EFits (l : List EntV) : Prop := ∀ i, (h : i < l.length) → (l[i]).key.size ≤ maxLen

set_option maxRecDepth 100000 in
set_option maxHeartbeats 1000000 in
theorem szEntS_any (w : World) (a : Option Addr) (len cap : Nat) (fs : List EntV) (hr : entSh.Row w a len fs) (hf : EFits fs) (hl : len ≤ maxLen) (l : Int) (h0 : 0 ≤ l) (h1 : l ≤ 1048576) :
    Calls Tryz.prog 61 #[.slice a len cap, .int .i64 l] w fun e w' => e = .returned (.int .i64 (lessR l (len + szEs fs : Nat))) ∧ Below w.heap.size w w' := by
  unfold maxLen at hl
  have HR := hide hr
  have HF := hide hf
  have hlen := hr.len
  clear hr hf
  by_cases c1 : l - (len : Int) < 0
  · have HV := hide (lessR_no (l := l) (n := ((len + szEs fs : Nat) : Int)) (by omega))
    go_enter Tryz.func61, Tryz.ntmps61
    go_wp2
    go_ret
    exact ⟨by rw [HV.out]; rfl, Below.refl _ _⟩
  · go_enter Tryz.func61, Tryz.ntmps61
    go_wp2
    go_loopw [1, 5] (fun v i wr => ∃ k : Nat, k ≤ len ∧ i = .int .i64 k ∧ v = .int .i64 (l - (len : Int) - (szEs (fs.take k) : Int)) ∧ (szEs (fs.take k) : Int) ≤ l - (len : Int) ∧ Hid (Below w.heap.size w wr)) (fun _ i _ => len - (intOf i).toNat)
    case atStart => exact ⟨0, by omega, rfl, by simp [szEs], by simp [szEs]; omega, hide (Below.refl _ _)⟩
    case round =>
      obtain ⟨k, hk, rfl, rfl, hle, HB⟩ := hrel
      by_cases hlt : k < len
      · have hkf : k < fs.length := by omega
        obtain ⟨b, off, rfl, hbw, e1, e2, e3, e4, e5⟩ := ent_cells (HR.out.later HB.out) k hkf
        have hfit := HF.out k hkf
        have hst := szEs_take_succ fs k hkf
        have HLE := hide (szEs_take_le fs (k + 1))
        generalize szEs (fs.take k) = S at *
        go_wp2_with fail
        refine (szEnt_any (fs[k]) (l - (len : Int) - (S : Int)) (by omega) (by omega) hfit wr).mono ?_
        rintro e w2 ⟨rfl, hb2⟩
        have HB2 := hide (HB.out.trans (hb2.mono HB.out.size))
        clear hb2 e1 e2 e3 e4 e5 HB
        by_cases c2 : ((fs[k]).key.size : Int) ≤ l - (len : Int) - (S : Int)
        · rw [lessR_yes c2]
          have HS2 : Hid (l - (len : Int) - (S : Int) - ((fs[k]).key.size : Int) = l - (len : Int) - (szEs (fs.take (k + 1)) : Int)) := hide (by omega)
          have hle2 : (szEs (fs.take (k + 1)) : Int) ≤ l - (len : Int) := by omega
          clear hst HLE
          generalize (fs[k]).key.size = sf at *
          go_wp2
          go_roundw
          case rel => exact ⟨k + 1, by omega, by go_num, by rw [HS2.out], by omega, HB2⟩
          case measure => first | (simp [intOf]; done) | (simp [intOf]; omega)
        · rw [lessR_no (by omega)]
          have HV := hide (lessR_no (l := l) (n := ((len + szEs fs : Nat) : Int)) (by have := HLE.out; omega))
          clear hst HLE
          go_wp2
          go_ret
          exact ⟨by rw [HV.out]; rfl, HB2.out⟩
      · obtain rfl : k = len := by omega
        rw [List.take_of_length_le (by omega)] at hle ⊢
        have HV : Hid (lessR l ((k + szEs fs : Nat) : Int) = l - (k : Int) - (szEs fs : Int)) := hide (by rw [lessR_yes (by omega)]; omega)
        go_wp2
        go_ret
        exact ⟨by rw [HV.out]; rfl, HB.out⟩

set_option maxRecDepth 100000 in
set_option maxHeartbeats 1000000 in
theorem toEntS_any (w : World) (a : Option Addr) (len cap : Nat) (fs : List EntV) (hr : entSh.Row w a len fs) (hl : len ≤ 1048576) :
    Calls Tryz.prog 62 #[.slice a len cap] w fun e w' => e = .returned (.slice (some ⟨w.heap.size, 0, none⟩) len len) ∧ entSh.Own 71 w' w.heap.size (.slice (some ⟨w.heap.size, 0, none⟩) len len) fs ∧ Below w.heap.size w w' := by
  have HR := hide hr
  have hlen := hr.len
  clear hr
  obtain ⟨i0, hi, hz0, hz1, hz2⟩ := info_parts Tryz.infoEnt
  obtain ⟨w1, hmk, hown, hgrow⟩ := run_make_full (P := Tryz.prog) w w.heap.size 24 71 i0 _ 5 Tryz.underlying24 hi hz0 hz1 .i64 .i64 len (by rw [hz2]; omega) (by unfold maxLen; omega) (Nat.le_refl _)
  have HB1 := hide ((Below.refl w.heap.size w).grown hgrow (Nat.le_refl _) (by intro k h; cases h))
  have HO1 : Hid (entSh.Own 71 w1 w.heap.size (.slice (some ⟨w.heap.size, 0, none⟩) len len) (List.replicate len zeroE)) := hide (by
    unfold Shape.Own
    rw [List.length_replicate, entSh.flat_made]
    exact hown)
  clear hown hgrow hi hz0 hz1 hz2
  go_enter Tryz.func62, Tryz.ntmps62
  go_wp2
  go_loopw [4] (fun i wr => ∃ (k : Nat) (gs : List EntV), k ≤ len ∧ i = .int .i64 k ∧ Hid (gs.length = len ∧ gs.take k = fs.take k) ∧ Hid (entSh.Own 71 wr w.heap.size (.slice (some ⟨w.heap.size, 0, none⟩) len len) gs) ∧ Hid (Below w.heap.size w wr)) (fun i _ => len - (intOf i).toNat)
  case atStart => exact ⟨0, _, by omega, rfl, hide (by simp), HO1, HB1⟩
  case round =>
    clear hmk HO1 HB1
    obtain ⟨k, gs, hk, rfl, HG, HO, HB⟩ := hrel
    by_cases hlt : k < len
    · have hkf : k < fs.length := by omega
      obtain ⟨b, off, rfl, hbw, e1, e2, e3, e4, e5⟩ := ent_cells (HR.out.later HB.out) k hkf
      go_wp2_with fail
      refine (toEnt_any (fs[k]) wr).mono ?_
      rintro e w2 ⟨rfl, hb2⟩
      have HO2 := hide (HO.out.later hb2 (Nat.le_refl _))
      have HB2 := hide (HB.out.trans (hb2.mono HB.out.size))
      have HP := hide (HO2.out.put k (fs[k]) hlt)
      have f1 := HO2.out.frz (k * 5)
      have f2 := HO2.out.frz (k * 5 + 1)
      have f3 := HO2.out.frz (k * 5 + 2)
      have f4 := HO2.out.frz (k * 5 + 3)
      have f5 := HO2.out.frz (k * 5 + 4)
      obtain ⟨b', o', q0, -, q1, q2, q3, q4, q5⟩ := ent_cells HO2.out.row k (by rw [HO2.out.len]; omega)
      simp only [Option.some.injEq, Addr.mk.injEq] at q0
      obtain ⟨rfl, rfl, -⟩ := q0
      rw [Nat.zero_add] at q1 q2 q3 q4 q5
      clear hb2 e1 e2 e3 e4 e5 HB HO
      have HG2 : Hid ((gs.set k (fs[k])).length = len ∧ (gs.set k (fs[k])).take (k + 1) = fs.take (k + 1)) := hide ⟨by rw [List.length_set]; exact HG.out.1, take_set_succ' gs fs k hkf (by have := HG.out.1; omega) HG.out.2⟩
      have HB3 := hide (HB2.out.grown HP.out.2 HB2.out.size (by intro j h; injection h with h; omega))
      clear HB2 HG
      go_wp2
      go_roundw
      case rel => exact ⟨k + 1, gs.set k (fs[k]), by omega, by go_num, HG2, hide HP.out.1, HB3⟩
      case measure => first | (simp [intOf]; done) | (simp [intOf]; omega)
    · obtain rfl : k = len := by omega
      have HE : Hid (gs = fs) := hide (by
        have h := HG.out
        rw [List.take_of_length_le (by omega), List.take_of_length_le (by omega)] at h
        exact h.2)
      clear HG
      go_wp2
      go_ret
      exact ⟨rfl, by rw [← HE.out]; exact HO.out, HB.out⟩

set_option maxRecDepth 100000 in
set_option maxHeartbeats 4000000 in
theorem eqEntS_same (w : World) (a b : Option Addr) (n cap cap' : Nat) (xs : List EntV) (ha : entSh.Row w a n xs) (hb : entSh.Row w b n xs) (hn : n ≤ 1099511627776) :
    Calls Tryz.prog 58 #[.slice a n cap, .slice b n cap'] w fun e w' => e = .returned (.bool true) ∧ Below w.heap.size w w' := by
  have HA := hide ha
  have HB := hide hb
  have HLN := hide ha.len
  clear ha hb
  go_enter Tryz.func58, Tryz.ntmps58
  go_wp2
  go_loopw [5] (fun x wr => ∃ k : Nat, k ≤ n ∧ x = .int .i64 k ∧ Hid (Below w.heap.size w wr)) (fun x _ => n - (intOf x).toNat)
  case atStart => exact ⟨0, by omega, rfl, hide (Below.refl _ _)⟩
  case round =>
    obtain ⟨k, hk, rfl, HW⟩ := hrel
    by_cases hlt : k < n
    · have hkx : k < xs.length := by have := HLN.out; omega
      obtain ⟨b1, o1, rfl, hb1, c0, c1, c2, c3, c4⟩ := ent_cells (HA.out.later HW.out) k hkx
      obtain ⟨b2, o2, rfl, hb2, d0, d1, d2, d3, d4⟩ := ent_cells (HB.out.later HW.out) k hkx
      have HE := hide (eqEnt_any (xs[k]) (xs[k]))
      rw [(eqE_iff _ _).2 rfl] at HE
      have hk2 : (k : Int) < (n : Int) := by omega
      go_wp2_with fail
      go_region_with (go_at_call 95; refine (HE.out _).mono ?_; rintro e w1 ⟨rfl, hb1⟩)
      all_goals
        have HW1 := hide (HW.out.trans (((Below.refl _ _).drew.trans hb1).mono HW.out.size))
        clear hb1 HW HE c0 c1 c2 c3 c4 d0 d1 d2 d3 d4
        go_wp2
        go_roundw
        case rel => exact ⟨k + 1, by omega, by go_num, HW1⟩
        case measure => first | (simp [intOf]; done) | (simp [intOf]; omega)
    · obtain rfl : k = n := by omega
      go_wp2
      go_ret
      exact ⟨rfl, HW.out⟩

theorem list_ofE {Q : Nat → EntV → Prop} : ∀ n, (∀ i, i < n → ∃ f, Q i f) → ∃ fs : List EntV, fs.length = n ∧ ∀ i, (h : i < fs.length) → Q i (fs[i])
  | 0, _ => ⟨[], rfl, fun i h => by simp at h⟩
  | n + 1, h => by
    obtain ⟨fs, hl, hq⟩ := list_ofE n (fun i hi => h i (by omega))
    obtain ⟨f, hf⟩ := h n (by omega)
    refine ⟨fs ++ [f], by simp [hl], fun i hi => ?_⟩
    rcases Nat.lt_or_ge i fs.length with h' | h'
    · rw [List.getElem_append_left h']; exact hq i h'
    · have e : i = n := by simp at hi; omega
      subst e
      rw [List.getElem_append_right h']
      simpa using hf

section
variable {H : Type} {enc : TypeId × Value → H} {w : World} {base : Nat} {spare : Nat → Bool} {held : Bool}
set_option maxRecDepth 100000 in
/-- The entries themselves. -/
theorem open_ents {fuel : Nat} {cs : List Value} {x : DataW H × List MemPlace} (h : DataW.trod enc Tryz.prog w base spare held fuel 52 cs = some x) :
    ∃ (a : Option Addr) (n cap : Nat) (fs : List EntV), cs = [.slice a n cap] ∧ entSh.Row w a n fs ∧ EFits fs ∧ n ≤ maxLen := by
  rcases open_slice Tryz.underlying52 h with ⟨rfl, _⟩ | ⟨a, len, cap, m, n, D, Pl, rfl, hb, hl, hm, hmm, _, hx⟩
  · exact ⟨none, 0, 0, [], rfl, ⟨rfl, fun i hi => by simp at hi⟩, fun i hi => by simp at hi, by omega⟩
  · have hlm : len ≤ m := by rw [hmm]; split <;> omega
    rw [cellsLE] at hx
    obtain ⟨fs, hfl, hfs⟩ := list_ofE (Q := fun i f => (∃ b off, a = ⟨b, off, none⟩ ∧ b < w.heap.size ∧ ∀ j, j < 5 → w.cell? ⟨b, off + i * 5 + j, none⟩ = (entSh.cells f)[j]?) ∧ f.key.size ≤ maxLen) len (fun i hi => by
      obtain ⟨cs', h1, h2⟩ := hx i (by omega)
      obtain ⟨f, rfl, f1⟩ := open_ent h2
      obtain ⟨_, _, hcell⟩ := World.cells?_some h1
      refine ⟨f, ?_, f1⟩
      obtain ⟨b, off, spot⟩ := a
      have hs : spot = none := by
        obtain ⟨cs0, h01, h02⟩ := hx 0 (by omega)
        obtain ⟨f0, rfl, -⟩ := open_ent h02
        obtain ⟨_, _, hc0⟩ := World.cells?_some h01
        have hk : w.cell? (((⟨b, off, spot⟩ : Addr).add (0 * 5)).add 0) = some (.string f0.key) := hc0 0 (by omega)
        simpa [Addr.add] using World.cell?_spot hk
      subst hs
      have e : ∀ j k, ((⟨b, off, none⟩ : Addr).add j).add k = ⟨b, off + j + k, none⟩ := fun j k => by
        have e1 : ∀ o q, (⟨b, o, none⟩ : Addr).add q = ⟨b, o + q, none⟩ := fun o q => by unfold Addr.add; split <;> simp_all
        rw [e1, e1]
      refine ⟨b, off, rfl, ?_, fun j hj => ?_⟩
      · have k0 : w.cell? (((⟨b, off, none⟩ : Addr).add (i * 5)).add 0) = some (.string f.key) := hcell 0 (by omega)
        rw [e] at k0
        rcases Nat.lt_or_ge b w.heap.size with h' | h'
        · exact h'
        · simp [World.cell?, Array.getElem?_eq_none h'] at k0
      · have k0 := hcell j hj
        rw [e] at k0
        exact k0)
    refine ⟨some a, len, cap, fs, rfl, ⟨hfl, fun i hi => ?_⟩, fun i hi => (hfs i hi).2, Nat.le_trans hl hm⟩
    obtain ⟨b, off, rfl, h1, h2⟩ := (hfs i hi).1
    exact ⟨b, off, rfl, h1, h2⟩
end

end Go.Proofs.YtimpokbcfjgdaaaGreatDoor
namespace Go.Proofs.YtimpokbcfjgdaaaGreatDoor
open Go.RowKit
open Plain

theorem own_later {w w' : World} {base e sz n K : Nat} {v : Value} {xs : List Value} (h : w.ownsRow base e sz v n xs) (hb : Below K w w') (hK : w.heap.size ≤ K) : w'.ownsRow base e sz v n xs := by
  refine ⟨h.1, ?_⟩
  rcases h.2 with h | ⟨g, c, cur, e, hbg, hg, h1⟩
  · exact .inl h
  · have hgl : g < w.heap.size := by
      rcases Nat.lt_or_ge g w.heap.size with h' | h'
      · exact h'
      · rw [Array.getElem?_eq_none h'] at hg; cases hg
    exact .inr ⟨g, c, cur, e, hbg, by rw [hb.block g (by omega)]; exact hg, h1⟩
theorem below_grown {w w' : World} (r : Option Nat) (h : Below w.heap.size w w') : w.grownBy w' r := ⟨h.os, h.tape, h.output, h.size, fun k hk _ => h.block k hk⟩
theorem grown_chain {a b c : World} {r : Option Nat} (h : a.grownBy b r) (k : b.grownBy c r) : a.grownBy c r :=
  ⟨k.os.trans h.os, k.tape.trans h.tape, k.output.trans h.output, Nat.le_trans h.size k.size, fun i hi hr => (k.block i (Nat.lt_of_lt_of_le hi h.size) hr).trans (h.block i hi hr)⟩
theorem grown_refl (w : World) (r : Option Nat) : w.grownBy w r := ⟨rfl, rfl, rfl, Nat.le_refl _, fun _ _ _ => rfl⟩
theorem addr_add (b off j : Nat) : (⟨b, off, none⟩ : Addr).add j = ⟨b, off + j, none⟩ := by unfold Addr.add; split <;> simp_all

end Go.Proofs.YtimpokbcfjgdaaaGreatDoor
namespace Go.Proofs.YtimpokbcfjgdaaaGreatDoor
open Go.RowKit
open Plain

/-- The digits of q, none of 0. -/
def dd (q : Nat) : List UInt8 := if q = 0 then [] else Lib.decDigits q
theorem dd_step (q : Nat) (h : q ≠ 0) : dd q = dd (q / 10) ++ [UInt8.ofNat (48 + q % 10)] := by
  unfold dd
  rw [if_neg h, Lib.decDigits]
  by_cases h1 : q < 10
  · rw [dif_pos h1, if_pos (by omega), show q % 10 = q from by omega]; rfl
  · rw [dif_neg h1, if_neg (by omega)]
theorem dd_len (k : Nat) : ∀ q, q < 10 ^ k → (dd q).length ≤ k := by
  induction k with
  | zero => intro q h; have : q = 0 := by simpa using h
            subst this; simp [dd]
  | succ k ih =>
    intro q h
    by_cases h0 : q = 0
    · subst h0; simp [dd]
    · rw [dd_step q h0, List.length_append]
      have := ih (q / 10) (by rw [Nat.pow_succ] at h; omega)
      simp
      omega
theorem dd_len20 (q : Nat) (h : q ≤ 9223372036854775808) : (dd q).length ≤ 20 := by
  have e : (10 : Nat) ^ 20 = 100000000000000000000 := by decide
  exact dd_len 20 q (by omega)
def itoaS (n : Int) : ByteArray := ⟨(Lib.itoa n).toArray⟩
theorem str_cons (d : Nat) (hd : d < 10) (l : List UInt8) : strOfNums [(48 : Int) + (d : Int)] ++ ⟨l.toArray⟩ = ⟨(UInt8.ofNat (48 + d) :: l).toArray⟩ := by
  have e : strOfNums [(48 : Int) + (d : Int)] = ⟨[UInt8.ofNat (48 + d)].toArray⟩ := by
    unfold strOfNums
    simp only [List.map_cons, List.map_nil]
    rw [show ((48 : Int) + (d : Int)).toNat = 48 + d from by omega]
  rw [e, ByteArray.mk_append_mk]
  rfl

theorem dd_pos (a : Nat) (h : 0 < a) : dd a = Lib.decDigits a := by unfold dd; rw [if_neg (by omega)]

end Go.Proofs.YtimpokbcfjgdaaaGreatDoor
namespace Go.Proofs.YtimpokbcfjgdaaaGreatDoor
open Go.RowKit
open Plain

/-- The text of a number. -/
def mt (k : Nat) : ByteArray := ⟨#[109]⟩ ++ ⟨(dd k).toArray⟩
set_option maxRecDepth 100000 in
set_option maxHeartbeats 400000 in
theorem markText_any (a : Nat) (w : World) (h0 : 0 < a) (h1 : a ≤ 9223372036854775807) :
    Calls Tryz.prog 96 #[.int .i64 a] w fun e w' => e = .returned (.string (mt a)) ∧ Below w.heap.size w w' := by
  have H20 := hide (dd_len20 a (by omega))
  go_enter Tryz.func96, Tryz.ntmps96
  go_wp2
  go_loopw [0, 3] (fun n o wr => ∃ (q : Nat) (l : List UInt8), q ≤ a ∧ n = .int .i64 q ∧ o = .string ⟨l.toArray⟩ ∧ Hid (dd a = dd q ++ l) ∧ Below w.heap.size w wr) (fun n _ _ => (intOf n).toNat)
  case atStart => exact ⟨a, [], by omega, rfl, rfl, hide (by simp), Below.refl _ _⟩
  case round =>
    obtain ⟨q, l, hq, rfl, rfl, HD, hB⟩ := hrel
    have hl : l.length ≤ 20 := by
      have e := congrArg List.length HD.out
      have := H20.out
      rw [List.length_append] at e
      omega
    have hsl : (ByteArray.mk l.toArray).size ≤ 20 := by simpa [ByteArray.size] using hl
    by_cases hz : q = 0
    · subst hz
      have HE : Hid (mt a = ⟨#[109]⟩ ++ ⟨l.toArray⟩) := hide (by unfold mt; rw [HD.out]; rfl)
      have hm : (ByteArray.mk #[109]).size ≤ 1 := by decide
      go_wp2
      go_ret
      exact ⟨by rw [HE.out]; rfl, hB⟩
    · have hq0 : (0 : Int) < (q : Int) := by omega
      have HS := hide (dd_step q hz)
      have hcv := cv_one wr
      have hsz : (strOfNums [(48 : Int) + (q : Int) % 10]).size ≤ 1 := by rw [strOfNums_size]; simp
      have HC : Hid (strOfNums [(48 : Int) + (q : Int) % 10] ++ ⟨l.toArray⟩ = ⟨(UInt8.ofNat (48 + q % 10) :: l).toArray⟩) := hide (str_cons (q % 10) (by omega) l)
      go_wp2
      go_roundw
      case rel => exact ⟨q / 10, UInt8.ofNat (48 + q % 10) :: l, by omega, by go_num, by rw [HC.out], hide (by rw [HD.out, HS.out]; simp), hB.alloc hB.size _⟩
      case measure => simp [intOf]; omega

end Go.Proofs.YtimpokbcfjgdaaaGreatDoor
namespace Go.Proofs.YtimpokbcfjgdaaaGreatDoor
open Go.RowKit
open Plain

/-- n entries, numbered from k on. -/
def mkE (k : Nat) : EntV := ⟨mt k, (k + 1 : Nat), (k + 2 : Nat), (k + 3 : Nat), (k + 4 : Nat)⟩
def markE : Nat → Nat → List EntV
  | 0, _ => []
  | n + 1, k => mkE k :: markE n (k + 5)
theorem markE_length (n : Nat) : ∀ k, (markE n k).length = n := by
  induction n with
  | zero => intro k; rfl
  | succ n ih => intro k; simp [markE, ih]
theorem markE_get (n : Nat) : ∀ k i, i < n → (markE n k)[i]? = some (mkE (k + 5 * i)) := by
  induction n with
  | zero => intro k i h; omega
  | succ n ih =>
    intro k i h
    cases i with
    | zero => simp [markE]
    | succ i =>
      rw [markE, List.getElem?_cons_succ, ih (k + 5) i (by omega)]
      congr 2
      omega
theorem markE_take (n k i : Nat) (h : i < n) : (markE n k).take (i + 1) = (markE n k).take i ++ [mkE (k + 5 * i)] := by
  have hi : i < (markE n k).length := by rw [markE_length]; exact h
  rw [List.take_succ_eq_append_getElem hi]
  have := markE_get n k i h
  rw [List.getElem?_eq_getElem hi] at this
  simp at this
  rw [this]
/-- A cell of a row of the call's own: it is there, and can be written. -/
theorem own_cell5 {w : World} {base e g n cap : Nat} {xs : List Value} (h : w.ownsRow base e 5 (.slice (some ⟨g, 0, none⟩) n cap) n xs) (j : Nat) (hj : j < n * 5) : (∃ u, w.cell? ⟨g, j, none⟩ = some u) ∧ w.frozen? ⟨g, j, none⟩ = false := by
  refine ⟨?_, h.frozenAt j⟩
  rw [h.cellAt j hj]
  have : j < xs.length := by rw [h.1]; exact hj
  exact ⟨_, List.getElem?_eq_getElem this⟩
theorem marksE_set (gs : List EntV) (j t : Nat) (h : j < gs.length) : (((((entSh.flat gs).set (j * 5) (.string (mt t))).set (j * 5 + 1) (.int .i64 ((t : Int) + 1))).set (j * 5 + 2) (.int .i64 ((t : Int) + 1 + 1))).set (j * 5 + 3) (.int .i64 ((t : Int) + 1 + 1 + 1))).set (j * 5 + 4) (.int .i64 ((t : Int) + 1 + 1 + 1 + 1)) = entSh.flat (gs.set j (mkE t)) := by
  rw [← entSh.flat_set gs (mkE t) j h]
  have e : entSh.cells (mkE t) = [.string (mt t), .int .i64 ((t : Int) + 1), .int .i64 ((t : Int) + 1 + 1), .int .i64 ((t : Int) + 1 + 1 + 1), .int .i64 ((t : Int) + 1 + 1 + 1 + 1)] := by
    show [Value.string (mt t), .int .i64 ((t + 1 : Nat) : Int), .int .i64 ((t + 2 : Nat) : Int), .int .i64 ((t + 3 : Nat) : Int), .int .i64 ((t + 4 : Nat) : Int)] = _
    rw [show ((t + 1 : Nat) : Int) = (t : Int) + 1 from by omega, show ((t + 2 : Nat) : Int) = (t : Int) + 1 + 1 from by omega, show ((t + 3 : Nat) : Int) = (t : Int) + 1 + 1 + 1 from by omega, show ((t + 4 : Nat) : Int) = (t : Int) + 1 + 1 + 1 + 1 from by omega]
  rw [e]
  rfl

set_option maxRecDepth 100000 in
set_option maxHeartbeats 2000000 in
theorem markEntS_any (w : World) (base : Nat) (a : Option Addr) (n cap : Nat) (fs : List EntV) (ho : entSh.Own 71 w base (.slice a n cap) fs) (hn : n ≤ 1099511627776) (k : Nat) (hk0 : 0 < k) (hk : k ≤ 1099511627776) :
    Calls Tryz.prog 59 #[.slice a n cap, .int .i64 k] w fun e w' => e = .returned (.int .i64 (k + 5 * n : Nat)) ∧ entSh.Own 71 w' base (.slice a n cap) (markE n k) ∧ w.grownBy w' (Value.slice a n cap).ownBlock := by
  have HO := hide ho
  have hfn := ho.len
  clear ho
  go_enter Tryz.func59, Tryz.ntmps59
  go_wp2
  go_loopw [1, 5] (fun v i wr => ∃ (j : Nat) (gs : List EntV), j ≤ n ∧ i = .int .i64 j ∧ v = .int .i64 (k + 5 * j : Nat) ∧ Hid (gs.take j = (markE n k).take j) ∧ Hid (entSh.Own 71 wr base (.slice a n cap) gs) ∧ Hid (w.grownBy wr (Value.slice a n cap).ownBlock)) (fun _ i _ => n - (intOf i).toNat)
  case atStart => exact ⟨0, fs, by omega, rfl, by simp, hide (by simp), HO, hide (grown_refl _ _)⟩
  case round =>
    clear HO hfn
    obtain ⟨j, gs, hj, rfl, rfl, HE, HO, HG⟩ := hrel
    by_cases hlt : j < n
    · obtain ⟨g, rfl⟩ : ∃ g, a = some ⟨g, 0, none⟩ := by
        rcases HO.out.2 with ⟨e, h0⟩ | ⟨g, c, cur, e, _⟩
        · simp only [Value.slice.injEq] at e; have := HO.out.len; omega
        · simp only [Value.slice.injEq] at e
          exact ⟨g, e.1⟩
      have hgl := HO.out.len
      have h0 := HO.out
      unfold Shape.Own at h0
      rw [hgl] at h0
      have H0 : Hid (wr.ownsRow base 71 5 (.slice (some ⟨g, 0, none⟩) n cap) n (entSh.flat gs)) := hide h0
      clear h0
      generalize ht : k + 5 * j = t
      have htb : t ≤ 10995116277760 := by omega
      have ht0 : 0 < t := by omega
      have HT := hide ht
      clear ht
      have HM4 := hide (fun W => markText_any t W (by omega) (by omega))
      go_wp2_with fail
      refine (HM4.out _).mono ?_
      rintro e w2 ⟨rfl, hb2⟩
      have H5 := hide (own_later H0.out hb2 (Nat.le_refl _))
      have HG5 := hide (grown_chain HG.out (below_grown (Value.slice (some ⟨g, 0, none⟩) n cap).ownBlock hb2))
      clear hb2 H0 HG HM4
      obtain ⟨⟨x0, c0⟩, f0⟩ := own_cell5 H5.out (j * 5) (by omega)
      obtain ⟨⟨x1, c1⟩, f1⟩ := own_cell5 H5.out (j * 5 + 1) (by omega)
      obtain ⟨⟨x2, c2⟩, f2⟩ := own_cell5 H5.out (j * 5 + 2) (by omega)
      obtain ⟨⟨x3, c3⟩, f3⟩ := own_cell5 H5.out (j * 5 + 3) (by omega)
      obtain ⟨⟨x4, c4⟩, f4⟩ := own_cell5 H5.out (j * 5 + 4) (by omega)
      have S0 := hide (H5.out.stored (j * 5) (.string (mt t)))
      have S1 := hide (S0.out.1.stored (j * 5 + 1) (.int .i64 ((t : Int) + 1)))
      have S2 := hide (S1.out.1.stored (j * 5 + 2) (.int .i64 ((t : Int) + 1 + 1)))
      have S3 := hide (S2.out.1.stored (j * 5 + 3) (.int .i64 ((t : Int) + 1 + 1 + 1)))
      have S4 := hide (S3.out.1.stored (j * 5 + 4) (.int .i64 ((t : Int) + 1 + 1 + 1 + 1)))
      have H8 := hide S4.out.1
      have HG8 := hide (grown_chain HG5.out (grown_chain S0.out.2 (grown_chain S1.out.2 (grown_chain S2.out.2 (grown_chain S3.out.2 S4.out.2)))))
      clear S0 S1 S2 S3 S4 H5 HG5 HO
      have HO8 : Hid (entSh.Own 71 _ base (.slice (some ⟨g, 0, none⟩) n cap) (gs.set j (mkE t))) := hide (by
        unfold Shape.Own
        rw [List.length_set, hgl, ← marksE_set gs j t (by omega)]
        exact H8.out)
      have HE8 : Hid ((gs.set j (mkE t)).take (j + 1) = (markE n k).take (j + 1)) := hide (by
        rw [markE_take n k j hlt, HT.out, ← HE.out, List.take_succ_eq_append_getElem (by rw [List.length_set]; omega), List.take_set_of_le (Nat.le_refl _)]
        simp)
      have HV : Hid ((t : Int) + 1 + 1 + 1 + 1 + 1 = ((k + 5 * (j + 1) : Nat) : Int)) := hide (by have := HT.out; omega)
      clear H8 HE
      go_wp2
      go_roundw
      case rel => exact ⟨j + 1, gs.set j (mkE t), by omega, by go_num, by rw [HV.out], HE8, HO8, HG8⟩
      case measure => first | (simp [intOf]; done) | (simp [intOf]; omega)
    · obtain rfl : j = n := by omega
      have HM : Hid (gs = markE j k) := hide (by
        have h := HE.out
        rw [List.take_of_length_le (by rw [HO.out.len]; omega), List.take_of_length_le (by rw [markE_length]; omega)] at h
        exact h)
      go_wp2
      go_ret
      exact ⟨rfl, by rw [← HM.out]; exact HO.out, HG.out⟩

/-- The cells of the numbered entry j. -/
structure HeldE (b off j t : Nat) (W : World) : Prop where
  c0 : W.cell? ⟨b, off + j * 5, none⟩ = some (.string (mt t))
  c1 : W.cell? ⟨b, off + j * 5 + 1, none⟩ = some (.int .i64 ((t : Int) + 1))
  c2 : W.cell? ⟨b, off + j * 5 + 2, none⟩ = some (.int .i64 ((t : Int) + 1 + 1))
  c3 : W.cell? ⟨b, off + j * 5 + 3, none⟩ = some (.int .i64 ((t : Int) + 1 + 1 + 1))
  c4 : W.cell? ⟨b, off + j * 5 + 4, none⟩ = some (.int .i64 ((t : Int) + 1 + 1 + 1 + 1))
theorem HeldE.later {b off j t : Nat} {W W' : World} (h : HeldE b off j t W) (hb : Below W.heap.size W W') (hl : b < W.heap.size) : HeldE b off j t W' := by
  refine ⟨?_, ?_, ?_, ?_, ?_⟩ <;> rw [hb.cell (by exact hl)]
  · exact h.c0
  · exact h.c1
  · exact h.c2
  · exact h.c3
  · exact h.c4

set_option maxRecDepth 100000 in
set_option maxHeartbeats 4000000 in
theorem heldEntS_any (w : World) (a : Option Addr) (n cap : Nat) (hn : n ≤ 1099511627776) (k : Nat) (hk0 : 0 < k) (hk : k ≤ 1099511627776) (hr : entSh.Row w a n (markE n k)) :
    Calls Tryz.prog 60 #[.slice a n cap, .int .i64 k] w fun e w' => e = .returned (.int .i64 (k + 5 * n : Nat)) ∧ Below w.heap.size w w' := by
  have HR := hide hr
  clear hr
  go_enter Tryz.func60, Tryz.ntmps60
  go_wp2
  go_loopw [1, 5] (fun v i wr => ∃ (j : Nat), j ≤ n ∧ i = .int .i64 j ∧ v = .int .i64 (k + 5 * j : Nat) ∧ Hid (Below w.heap.size w wr)) (fun _ i _ => n - (intOf i).toNat)
  case atStart => exact ⟨0, by omega, rfl, by simp, hide (Below.refl _ _)⟩
  case round =>
    obtain ⟨j, hj, rfl, rfl, HB⟩ := hrel
    by_cases hlt : j < n
    · have hjl : j < (markE n k).length := by rw [markE_length]; exact hlt
      obtain ⟨b, off, rfl, hbw, e0, e1, e2, e3, e4⟩ := ent_cells (HR.out.later HB.out) j hjl
      have hm : (markE n k)[j] = mkE (k + 5 * j) := by
        have := markE_get n k j hlt
        rw [List.getElem?_eq_getElem hjl] at this
        simpa using this
      rw [hm] at e0 e1 e2 e3 e4
      clear hm
      generalize ht : k + 5 * j = t at e0 e1 e2 e3 e4 ⊢
      have ht0 : 0 < t := by omega
      have htb : t ≤ 10995116277760 := by omega
      have HS : Hid (HeldE b off j t wr) := hide ⟨e0, e1.trans (by show some (Value.int .i64 ((t + 1 : Nat) : Int)) = _; rfl), e2.trans (by show some (Value.int .i64 ((t + 2 : Nat) : Int)) = _; rfl), e3.trans (by show some (Value.int .i64 ((t + 3 : Nat) : Int)) = _; rfl), e4.trans (by show some (Value.int .i64 ((t + 4 : Nat) : Int)) = _; rfl)⟩
      have HM4 := hide (fun W => markText_any t W (by omega) (by omega))
      have HV : Hid ((t : Int) + 1 + 1 + 1 + 1 + 1 = ((k + 5 * (j + 1) : Nat) : Int)) := hide (by omega)
      have k1 := str_eq (mt t) (mt t) rfl
      have hj2 : (j : Int) < (n : Int) := by omega
      have HL : Hid (∀ W, Below wr.heap.size wr W → HeldE b off j t W) := hide (fun W h => HS.out.later h hbw)
      clear ht e0 e1 e2 e3 e4
      have S1 : wr.drew.cell? ⟨b, off + j * 5, none⟩ = some (.string (mt t)) := (HL.out wr.drew (Below.refl _ _).drew).c0
      go_wp2
      go_region_held (fun w' => w'.cell? ⟨b, off + j * 5, none⟩ = some (.string (mt t))) (assumption) ((go_at_call 96; refine (HM4.out _).mono ?_; rintro e w4 ⟨rfl, hb4⟩; have hS4 : w4.cell? ⟨b, off + j * 5, none⟩ = some (.string (mt t)) := (HL.out w4 ((Below.refl _ wr).drew.trans hb4)).c0))
      have HB4 := hide ((Below.refl wr.heap.size wr).drew.trans hb4)
      have hsz4 : wr.heap.size ≤ w4.heap.size := HB4.out.size
      obtain ⟨-, d1, d2, d3, d4⟩ := HL.out w4 HB4.out
      have HB5 := hide (HB.out.trans (HB4.out.mono HB.out.size))
      clear hb4 S1 hS4 HB4
      go_wp2
      go_roundw
      case rel => exact ⟨j + 1, by omega, by go_num, by rw [HV.out], HB5⟩
      case measure => first | (simp [intOf]; done) | (simp [intOf]; omega)
    · obtain rfl : j = n := by omega
      obtain ⟨t, ht⟩ : ∃ t, k + 5 * j = t := ⟨_, rfl⟩
      rw [ht]
      have HT := hide ht
      clear ht
      go_wp2
      go_ret
      exact ⟨by rw [HT.out]; rfl, HB.out⟩

end Go.Proofs.YtimpokbcfjgdaaaGreatDoor
namespace Go.Proofs.YtimpokbcfjgdaaaGreatDoor
open Go.RowKit
open Plain

theorem vval_drop (l : List Nat) (t b : Nat) (h : l[t]? = some b) : vval (l.drop t) = b % 128 + 128 * vval (l.drop (t + 1)) := by
  have ht : t < l.length := by
    rcases Nat.lt_or_ge t l.length with h' | h'
    · exact h'
    · rw [List.getElem?_eq_none h'] at h; simp at h
  rw [List.drop_eq_getElem_cons ht, vval]
  rw [List.getElem?_eq_getElem ht] at h
  simp at h
  rw [h]
theorem vb_byte (n : Nat) : ∀ x ∈ vb n, 0 ≤ x ∧ x < 256 := by
  induction n using Nat.strongRecOn with
  | ind n ih =>
    intro x hx
    by_cases h : n < 128
    · rw [vb_small n h] at hx
      simp at hx
      omega
    · rw [vb_big n h] at hx
      simp only [List.mem_cons] at hx
      rcases hx with rfl | hx
      · omega
      · exact ih (n / 128) (by omega) x hx
theorem var_eq_iff (s : ByteArray) (k : Nat) : ((strOfNums (vb (vval ((bl s).take k)))).toList == (s.extract 0 k).toList) = true ↔ IsVar ((bl s).take k) := by
  have e1 : (strOfNums (vb (vval ((bl s).take k)))).toList = (vb (vval ((bl s).take k))).map fun n => UInt8.ofNat n.toNat := by rw [ByteArray.toList_eq]; rfl
  have e2 : (s.extract 0 k).toList = s.data.toList.take k := by
    rw [ByteArray.toList_eq]
    simp
  rw [e1, e2, beq_iff_eq]
  have e3 : ((bl s).take k).map (fun b : Nat => (b : Int)) = (s.data.toList.take k).map (fun b : UInt8 => ((b.toNat : Nat) : Int)) := by
    rw [bl, ← List.map_take, List.map_map]; rfl
  unfold IsVar
  rw [e3]
  constructor
  · intro h
    rw [← h, List.map_map]
    have : ∀ x ∈ vb (vval ((bl s).take k)), ((fun b : UInt8 => ((b.toNat : Nat) : Int)) ∘ fun n : Int => UInt8.ofNat n.toNat) x = x := by
      intro x hx
      have := vb_byte _ x hx
      simp only [Function.comp, UInt8.toNat_ofNat']
      omega
    rw [List.map_congr_left this]
    simp
  · intro h
    rw [h, List.map_map]
    have : ∀ x ∈ s.data.toList.take k, ((fun n : Int => UInt8.ofNat n.toNat) ∘ fun b : UInt8 => ((b.toNat : Nat) : Int)) x = x := by
      intro x _
      simp
    rw [List.map_congr_left this]
    simp

end Go.Proofs.YtimpokbcfjgdaaaGreatDoor
namespace Go.Proofs.YtimpokbcfjgdaaaGreatDoor
open Go.RowKit
open Plain

/-- The text of Var. -/
def varS (n : Int) : ByteArray := if 0 ≤ n ∧ n ≤ 562949953421311 then strOfNums (vb n.toNat) else ⟨#[]⟩
theorem varS_size (n : Int) : (varS n).size ≤ 7 := by
  unfold varS
  split
  · rename_i h
    rw [strOfNums_size]
    exact vb_len7 _ (by omega)
  · decide

end Go.Proofs.YtimpokbcfjgdaaaGreatDoor
namespace Go.Proofs.YtimpokbcfjgdaaaGreatDoor
open Go.RowKit
open Plain

def fixStr (n m : Nat) : ByteArray := if n < 256 ^ m then strOfNums (low n m) else ⟨#[]⟩

end Go.Proofs.YtimpokbcfjgdaaaGreatDoor
namespace Go.Proofs.YtimpokbcfjgdaaaGreatDoor
open Go.RowKit
open Plain

/-! ### Var -/
theorem vval_vb (n : Nat) : vval ((vb n).map Int.toNat) = n := by
  induction n using Nat.strongRecOn with
  | ind n ih =>
    by_cases h : n < 128
    · rw [vb_small n h]; simp [vval]; omega
    · rw [vb_big n h, List.map_cons, vval, ih (n / 128) (by omega)]
      omega
theorem bl_str (xs : List Int) (h : ∀ x ∈ xs, 0 ≤ x ∧ x < 256) : bl (strOfNums xs) = xs.map Int.toNat := by
  unfold bl
  rw [strOfNums_data, List.map_map]
  apply List.map_congr_left
  intro x hx
  have := h x hx
  simp only [Function.comp, UInt8.toNat_ofNat']
  omega
theorem bl_append (s t : ByteArray) : bl (s ++ t) = bl s ++ bl t := by
  unfold bl
  simp
theorem take_bl (s t : ByteArray) (k : Nat) (h : k ≤ s.size) : (bl (s ++ t)).take k = (bl s).take k := by
  rw [bl_append, List.take_append_of_le_length (by rw [bl_length]; exact h)]
theorem toNat_cast (xs : List Int) (h : ∀ x ∈ xs, 0 ≤ x ∧ x < 256) : (xs.map Int.toNat).map (fun b : Nat => (b : Int)) = xs := by
  rw [List.map_map]
  conv => rhs; rw [← List.map_id xs]
  apply List.map_congr_left
  intro x hx
  have := h x hx
  simp only [Function.comp, id]
  omega
theorem RV_var (n : Nat) (h : n ≤ 562949953421311) (T : ByteArray) : RV (strOfNums (vb n) ++ T) n (vb n).length := by
  have hl := vb_len7 n h
  have hp := vb_pos n
  have hsz : (strOfNums (vb n)).size = (vb n).length := strOfNums_size _
  have htk : ∀ j, j ≤ (vb n).length → (bl (strOfNums (vb n) ++ T)).take j = ((vb n).map Int.toNat).take j := fun j hj => by
    rw [take_bl _ _ _ (by rw [hsz]; exact hj), bl_str _ (vb_byte n)]
  have hall : (bl (strOfNums (vb n) ++ T)).take (vb n).length = (vb n).map Int.toNat := by
    rw [htk _ (Nat.le_refl _), List.take_of_length_le (by simp)]
  have hv : IsVar ((bl (strOfNums (vb n) ++ T)).take (vb n).length) := by
    unfold IsVar
    rw [hall, vval_vb, toNat_cast _ (vb_byte n)]
  have hS : (vb n).length ≤ (strOfNums (vb n) ++ T).size := by rw [ByteArray.size_append, hsz]; omega
  refine Or.inl ⟨by omega, hl, hS, hv, by rw [hall, vval_vb], ?_⟩
  intro j h1 h2 hj
  have g1 := (isVar_take _ _ (by omega) hS).1 hv
  have g2 := (isVar_take _ j h1 (by omega)).1 hj
  have := g1.1 (j - 1) (by omega)
  omega
theorem RV_back (s : ByteArray) (z j : Nat) (h : RV s z j) : j = 0 ∨ (0 < j ∧ j ≤ s.size ∧ ((varS (z : Int)).toList == (s.extract 0 j).toList) = true) := by
  rcases h with ⟨h1, h2, h3, h4, h5, _⟩ | ⟨_, h, _⟩
  · refine Or.inr ⟨by omega, h3, ?_⟩
    have hb := vval_bd ((bl s).take j) (by rw [List.length_take]; omega)
    unfold varS
    rw [if_pos (by omega), Int.toNat_natCast, h5]
    exact (var_eq_iff s j).2 h4
  · exact Or.inl h
theorem varS_in (n : Nat) (h : n ≤ 562949953421311) : varS (n : Int) = strOfNums (vb n) := by unfold varS; rw [if_pos (by omega), Int.toNat_natCast]
theorem varS_out (n : Int) (h : n < 0 ∨ 562949953421311 < n) : varS n = ⟨#[]⟩ := by unfold varS; rw [if_neg (by omega)]
theorem empty_str (xs : List Int) : (strOfNums xs).toList.isEmpty = xs.isEmpty := by rw [ByteArray.toList_eq, strOfNums_data]; simp

/-! ### Fixed -/
/-- The text of Fixed at this width. -/
def fixN (n : Int) (m : Nat) : ByteArray := if 0 ≤ n then fixStr n.toNat m else ⟨#[]⟩
theorem fixN_in (n m : Nat) (h : n < 256 ^ m) : fixN (n : Int) m = strOfNums (low n m) := by unfold fixN fixStr; rw [if_pos (by omega), Int.toNat_natCast, if_pos h]
theorem fixN_size (n : Int) (m : Nat) : (fixN n m).size ≤ m := by
  unfold fixN fixStr
  split
  · split
    · rw [strOfNums_size, low_length]; exact Nat.le_refl _
    · exact Nat.zero_le _
  · exact Nat.zero_le _
theorem byteAt_append (s t : ByteArray) (k : Nat) (h : k < s.size) : byteAt (s ++ t) k = byteAt s k := by
  have h2 : k < (s ++ t).size := by rw [ByteArray.size_append]; omega
  have e1 := bl_get (s ++ t) k h2
  have e2 := bl_get s k h
  rw [bl_append, List.getElem?_append_left (by rw [bl_length]; exact h), e2] at e1
  rw [byteAt_eq _ _ h2, byteAt_eq _ _ h]
  simpa using e1.symm
theorem byteAt_str (xs : List Int) (hx : ∀ x ∈ xs, 0 ≤ x ∧ x < 256) (k : Nat) (v : Int) (h : xs[k]? = some v) : byteAt (strOfNums xs) k = v.toNat := by
  have hk : k < xs.length := by
    rcases Nat.lt_or_ge k xs.length with h' | h'
    · exact h'
    · rw [List.getElem?_eq_none h'] at h; simp at h
  have hs : k < (strOfNums xs).size := by rw [strOfNums_size]; exact hk
  have e := bl_get (strOfNums xs) k hs
  rw [bl_str xs hx, List.getElem?_map, h] at e
  rw [byteAt_eq _ _ hs]
  simpa using e.symm
theorem low_byte (n m : Nat) : ∀ x ∈ low n m, 0 ≤ x ∧ x < 256 := by
  intro x hx
  unfold low at hx
  simp only [List.mem_map] at hx
  obtain ⟨i, _, rfl⟩ := hx
  omega
theorem fixVal_low (n m : Nat) (T : ByteArray) : ∀ k, k ≤ m → fixVal (strOfNums (low n m) ++ T) k = n / 256 ^ (m - k) % 256 ^ k := by
  intro k
  induction k with
  | zero => intro _; simp [fixVal, Nat.mod_one]
  | succ k ih =>
    intro hk
    rw [fixVal, ih (by omega), byteAt_append _ _ _ (by rw [strOfNums_size, low_length]; omega), byteAt_str _ (low_byte n m) k _ (low_get n m k (by omega)), Int.toNat_natCast]
    have e1 : m - k = (m - (k + 1)) + 1 := by omega
    have e2 : m - 1 - k = m - (k + 1) := by omega
    rw [e1, e2, Nat.pow_succ, ← Nat.div_div_eq_div_mul]
    generalize n / 256 ^ (m - (k + 1)) = q
    rw [Nat.pow_succ 256 k, Nat.mul_comm (256 ^ k) 256, Nat.mod_mul]
    omega
theorem fixVal_m (n m : Nat) (h : n < 256 ^ m) (T : ByteArray) : fixVal (strOfNums (low n m) ++ T) m = n := by
  rw [fixVal_low n m T m (Nat.le_refl _)]
  simp only [Nat.sub_self, Nat.pow_zero, Nat.div_one]
  exact Nat.mod_eq_of_lt h
theorem fixVal_div (s : ByteArray) (j d : Nat) : fixVal s (j + d) / 256 ^ d = fixVal s j := by
  induction d with
  | zero => simp
  | succ d ih =>
    have := byteAt_lt s (j + d)
    rw [show j + (d + 1) = (j + d) + 1 from by omega, fixVal, Nat.pow_succ, Nat.mul_comm (256 ^ d) 256, ← Nat.div_div_eq_div_mul, show (fixVal s (j + d) * 256 + byteAt s (j + d)) / 256 = fixVal s (j + d) from by omega]
    exact ih
theorem bl_inj {s t : ByteArray} (h : bl s = bl t) : s = t := by
  obtain ⟨⟨a⟩⟩ := s
  obtain ⟨⟨b⟩⟩ := t
  unfold bl at h
  have h2 := congrArg (List.map UInt8.ofNat) h
  simp only [List.map_map] at h2
  have e : (UInt8.ofNat ∘ UInt8.toNat) = id := by funext x; simp
  rw [e, List.map_id, List.map_id] at h2
  rw [show a = b from h2]
theorem bl_extract (s : ByteArray) (i j : Nat) : bl (s.extract i j) = ((bl s).take j).drop i := by
  unfold bl
  simp [List.map_take, List.map_drop, List.drop_take]
theorem fix_back (s : ByteArray) (m : Nat) (h : m ≤ s.size) : strOfNums (low (fixVal s m) m) = s.extract 0 m := by
  apply bl_inj
  rw [bl_str _ (low_byte _ _), bl_extract, List.drop_zero]
  apply List.ext_getElem?
  intro k
  by_cases hk : k < m
  · rw [List.getElem?_map, low_get _ _ _ hk, List.getElem?_take, if_pos hk, bl_get s k (by omega)]
    have e := fixVal_div s (k + 1) (m - 1 - k)
    rw [show k + 1 + (m - 1 - k) = m from by omega] at e
    rw [e, fixVal, byteAt_eq s k (by omega)]
    have := UInt8.toNat_lt s[k]
    simp only [Option.map_some, Option.some.injEq, Int.toNat_natCast]
    omega
  · rw [List.getElem?_eq_none (by rw [List.length_map, low_length]; omega), List.getElem?_eq_none (by rw [List.length_take]; omega)]

/-! ### ReadVar as a function -/
def rvFrom (s : ByteArray) : Nat → Nat → Nat × Nat
  | 0, _ => (0, 0)
  | f + 1, j => if j ≤ s.size ∧ vb (vval ((bl s).take j)) = ((bl s).take j).map (fun b : Nat => (b : Int)) then (vval ((bl s).take j), j) else rvFrom s f (j + 1)
/-- What ReadVar tells: the number, and how many bytes it took. -/
def rv (s : ByteArray) : Nat × Nat := rvFrom s 7 1
theorem rvFrom_RV (s : ByteArray) : ∀ f j, j + f = 8 → 1 ≤ j → (∀ i, 1 ≤ i → i < j → i ≤ s.size → ¬ IsVar ((bl s).take i)) → RV s (rvFrom s f j).1 (rvFrom s f j).2
  | 0, j, h, _, ha => Or.inr ⟨rfl, rfl, fun i h1 h2 h3 => ha i h1 (by omega) h3⟩
  | f + 1, j, h, h1, ha => by
    rw [rvFrom]
    split
    · rename_i hc
      refine Or.inl ⟨h1, by omega, hc.1, hc.2, rfl, fun i i1 i2 => ha i i1 i2 (by omega)⟩
    · rename_i hc
      refine rvFrom_RV s f (j + 1) (by omega) (by omega) (fun i i1 i2 i3 => ?_)
      by_cases hij : i < j
      · exact ha i i1 hij i3
      · obtain rfl : i = j := by omega
        exact fun hv => hc ⟨i3, hv⟩
theorem rv_RV (s : ByteArray) : RV s (rv s).1 (rv s).2 := rvFrom_RV s 7 1 rfl (Nat.le_refl _) (fun i h1 h2 => by omega)
theorem rv_of {s : ByteArray} {n k : Nat} (h : RV s n k) : rv s = (n, k) := by
  obtain ⟨h1, h2⟩ := RV_one (rv_RV s) h
  rw [← h1, ← h2]
theorem rv_bd (s : ByteArray) : (rv s).1 ≤ 562949953421311 ∧ (rv s).2 ≤ 7 ∧ (rv s).2 ≤ s.size := by
  rcases rv_RV s with ⟨_, h2, h3, _, h5, _⟩ | ⟨h1, h2, _⟩
  · refine ⟨?_, h2, h3⟩
    rw [h5]
    exact vval_bd _ (by rw [List.length_take]; omega)
  · omega
theorem varS_size_in (n : Nat) (h : n ≤ 562949953421311) : (varS (n : Int)).size = (vb n).length := by rw [varS_in n h, strOfNums_size]
theorem rv_var (n : Nat) (h : n ≤ 562949953421311) (T : ByteArray) : rv (varS (n : Int) ++ T) = (n, (varS (n : Int)).size) := by
  rw [varS_size_in n h, varS_in n h]
  exact rv_of (RV_var n h T)
theorem varS_pos (n : Nat) (h : n ≤ 562949953421311) : 0 < (varS (n : Int)).size := by rw [varS_size_in n h]; exact vb_pos n
theorem ba_split (s : ByteArray) (k : Nat) : s.extract 0 k ++ s.extract k s.size = s := by
  apply bl_inj
  rw [bl_append, bl_extract, bl_extract, List.drop_zero, ← bl_length, List.take_of_length_le (Nat.le_refl _), List.take_append_drop]
theorem ba_drop (A T : ByteArray) : (A ++ T).extract A.size (A ++ T).size = T := by
  apply bl_inj
  rw [bl_extract, List.take_of_length_le (by rw [bl_length]; exact Nat.le_refl _), bl_append, ← bl_length A, List.drop_left]
theorem ba_take (A T : ByteArray) : (A ++ T).extract 0 A.size = A := by
  apply bl_inj
  rw [bl_extract, List.drop_zero, bl_append, ← bl_length A, List.take_left]
theorem ba_len (A : ByteArray) (i j : Nat) (h1 : i ≤ j) (h2 : j ≤ A.size) : (A.extract i j).size = j - i := by
  rw [← bl_length, bl_extract, List.length_drop, List.length_take, bl_length]; omega
theorem rv_back (s : ByteArray) (h : (rv s).2 ≠ 0) : varS ((rv s).1 : Int) = s.extract 0 (rv s).2 := by
  rcases RV_back s _ _ (rv_RV s) with h' | ⟨_, _, h'⟩
  · exact absurd h' h
  · have e : (varS ((rv s).1 : Int)).toList = (s.extract 0 (rv s).2).toList := by simpa using h'
    rw [ByteArray.toList_eq, ByteArray.toList_eq] at e
    generalize varS ((rv s).1 : Int) = a at e ⊢
    generalize s.extract 0 (rv s).2 = b at e ⊢
    obtain ⟨⟨x⟩⟩ := a
    obtain ⟨⟨y⟩⟩ := b
    simp at e
    rw [e]
theorem rv_whole (s : ByteArray) (h : (rv s).2 ≠ 0) : varS ((rv s).1 : Int) ++ s.extract (rv s).2 s.size = s := by
  rw [rv_back s h, ba_split s _]

end Go.Proofs.YtimpokbcfjgdaaaGreatDoor
namespace Go.Proofs.YtimpokbcfjgdaaaGreatDoor
open Go.RowKit
open Plain

/-- A text with its length ahead. -/
def textS (s : ByteArray) : ByteArray := varS (s.size : Int) ++ s
/-- A count and a sum. -/
def totS (c s : Int) : ByteArray := varS c ++ fixN s 4
/-- What follows kind and batch. -/
def bodyS (k : Int) (key val : ByteArray) (c s : Int) : ByteArray :=
  if k = 1 ∨ k = 4 then textS key ++ textS val else if k = 2 then textS key else totS c s
def showN (k b : Int) (key val : ByteArray) (c s : Int) : ByteArray :=
  if okN k b key.size val.size c s = true then varS k ++ varS b ++ bodyS k key val c s else ⟨#[]⟩
/-- What ShowRec makes. -/
def showS (r : RecV) : ByteArray := showN r.kind r.batch r.key r.val r.cnt r.sum
def zeroR : RecV := ⟨0, 0, ⟨#[]⟩, ⟨#[]⟩, 0, 0⟩

/-! ### A piece at a time -/
/-- What is left behind a number. -/
def numT (s : ByteArray) : ByteArray := s.extract (rv s).2 s.size
theorem numT_var (n : Nat) (h : n ≤ 562949953421311) (T : ByteArray) : numT (varS (n : Int) ++ T) = T := by
  unfold numT
  rw [rv_var n h T]
  exact ba_drop _ _
theorem numT_whole (s : ByteArray) (h : (rv s).2 ≠ 0) : varS ((rv s).1 : Int) ++ numT s = s := rv_whole s h
theorem numT_size (s : ByteArray) : (numT s).size = s.size - (rv s).2 := ba_len _ _ _ (rv_bd s).2.2 (Nat.le_refl _)

/-- The text of which the length stands ahead; nothing where it goes past the end. -/
def txtV (s : ByteArray) : ByteArray := if (numT s).size < (rv s).1 then ⟨#[]⟩ else (numT s).extract 0 (rv s).1
def txtR (s : ByteArray) : ByteArray := if (numT s).size < (rv s).1 then numT s else (numT s).extract (rv s).1 (numT s).size
def txtF (s : ByteArray) : Bool := decide ((rv s).2 = 0 ∨ (numT s).size < (rv s).1)
theorem txt_text (t T : ByteArray) (h : t.size ≤ 562949953421311) : txtV (textS t ++ T) = t ∧ txtR (textS t ++ T) = T ∧ txtF (textS t ++ T) = false := by
  have e : textS t ++ T = varS (t.size : Int) ++ (t ++ T) := by unfold textS; rw [ByteArray.append_assoc]
  have h1 := rv_var t.size h (t ++ T)
  have h2 := numT_var t.size h (t ++ T)
  have h3 : ¬ (t ++ T).size < t.size := by rw [ByteArray.size_append]; omega
  have h4 := varS_pos t.size h
  unfold txtV txtR txtF
  rw [e, h1, h2]
  refine ⟨?_, ?_, ?_⟩
  · rw [if_neg h3]; exact ba_take _ _
  · rw [if_neg h3]; exact ba_drop _ _
  · apply decide_eq_false
    rintro (h | h)
    · simp only at h; omega
    · exact h3 h
theorem txt_back (s : ByteArray) (h : txtF s = false) : textS (txtV s) ++ txtR s = s := by
  have h' := of_decide_eq_false h
  have h1 : (rv s).2 ≠ 0 := fun e => h' (Or.inl e)
  have h2 : ¬ (numT s).size < (rv s).1 := fun e => h' (Or.inr e)
  unfold textS txtV txtR
  rw [if_neg h2, if_neg h2, ba_len _ _ _ (Nat.zero_le _) (by omega), Nat.sub_zero, ByteArray.append_assoc, ba_split, numT_whole s h1]
theorem txtV_size (s : ByteArray) : (txtV s).size ≤ s.size := by
  unfold txtV
  split
  · exact Nat.zero_le _
  · rw [ba_len _ _ _ (Nat.zero_le _) (by omega)]
    have := numT_size s
    omega
theorem txtR_size (s : ByteArray) : (txtR s).size ≤ s.size := by
  have h1 := numT_size s
  unfold txtR
  split
  · omega
  · rw [ba_len _ _ _ (by omega) (Nat.le_refl _)]
    omega

/-- Four bytes that tell a sum. -/
def sumV (s : ByteArray) : Nat := if 4 ≤ s.size then fixVal s 4 else 0
def sumR (s : ByteArray) : ByteArray := if 4 ≤ s.size then s.extract 4 s.size else s
def sumF (s : ByteArray) : Bool := decide (s.size < 4)
theorem p32 : (256 : Nat) ^ 4 = 4294967296 := by decide
theorem sum_fix (n : Nat) (h : n ≤ 4294967295) (T : ByteArray) : sumV (fixN (n : Int) 4 ++ T) = n ∧ sumR (fixN (n : Int) 4 ++ T) = T ∧ sumF (fixN (n : Int) 4 ++ T) = false := by
  have hn : n < 256 ^ 4 := by rw [p32]; omega
  rw [fixN_in n 4 hn]
  have hs : (strOfNums (low n 4)).size = 4 := by rw [strOfNums_size, low_length]
  have h4 : 4 ≤ (strOfNums (low n 4) ++ T).size := by rw [ByteArray.size_append, hs]; omega
  unfold sumV sumR sumF
  rw [if_pos h4, if_pos h4]
  refine ⟨fixVal_m n 4 hn T, ?_, decide_eq_false (by omega)⟩
  have := ba_drop (strOfNums (low n 4)) T
  rw [hs] at this
  exact this
theorem sumV_bd (s : ByteArray) : sumV s ≤ 4294967295 := by
  unfold sumV
  split
  · have := fixVal_lt s 4
    rw [p32] at this
    omega
  · omega
theorem sum_back (s : ByteArray) (h : sumF s = false) : fixN (sumV s : Int) 4 ++ sumR s = s := by
  have h' : 4 ≤ s.size := by have := of_decide_eq_false h; omega
  unfold sumV sumR
  rw [if_pos h', if_pos h', fixN_in _ 4 (fixVal_lt s 4), fix_back s 4 h', ba_split]

/-! ### The whole -/
/-- What a text is read as, whether right or not. -/
def parse (s : ByteArray) : RecV :=
  if (rv s).1 = 1 ∨ (rv s).1 = 4 then ⟨(rv s).1, (rv (numT s)).1, txtV (numT (numT s)), txtV (txtR (numT (numT s))), 0, 0⟩
  else if (rv s).1 = 2 then ⟨(rv s).1, (rv (numT s)).1, txtV (numT (numT s)), ⟨#[]⟩, 0, 0⟩
  else ⟨(rv s).1, (rv (numT s)).1, ⟨#[]⟩, ⟨#[]⟩, (rv (numT (numT s))).1, sumV (numT (numT (numT s)))⟩
/-- Nothing was missing, and nothing is left. -/
def Clean (s : ByteArray) : Prop :=
  (rv s).2 ≠ 0 ∧ (rv (numT s)).2 ≠ 0 ∧
    (if (rv s).1 = 1 ∨ (rv s).1 = 4 then txtF (numT (numT s)) = false ∧ txtF (txtR (numT (numT s))) = false ∧ (txtR (txtR (numT (numT s)))).size = 0
     else if (rv s).1 = 2 then txtF (numT (numT s)) = false ∧ (txtR (numT (numT s))).size = 0
     else (rv (numT (numT s))).2 ≠ 0 ∧ sumF (numT (numT (numT s))) = false ∧ (sumR (numT (numT (numT s)))).size = 0)

theorem app_nil (s : ByteArray) : s ++ (⟨#[]⟩ : ByteArray) = s := by
  apply bl_inj
  rw [bl_append]
  simp [bl]
/-- How a right record's text begins. -/
theorem show_head (k b : Nat) (hk : k ≤ 562949953421311) (hb : b ≤ 562949953421311) (B : ByteArray) :
    rv (varS (k : Int) ++ varS (b : Int) ++ B) = (k, (varS (k : Int)).size) ∧ rv (numT (varS (k : Int) ++ varS (b : Int) ++ B)) = (b, (varS (b : Int)).size) ∧ numT (numT (varS (k : Int) ++ varS (b : Int) ++ B)) = B := by
  rw [ByteArray.append_assoc, rv_var k hk, numT_var k hk, rv_var b hb, numT_var b hb]
  exact ⟨rfl, rfl, rfl⟩

theorem forth (q : RecV) (h : recOkB q = true) : parse (showS q) = q ∧ Clean (showS q) := by
  obtain ⟨k, b, key, val, c, s⟩ := q
  have hok : RecOkP k b key.size val.size c s := okN_iff.1 h
  have hsh : showS ⟨k, b, key, val, c, s⟩ = varS k ++ varS b ++ bodyS k key val c s := by
    unfold showS showN
    exact if_pos h
  rw [hsh]
  have hk0 : 0 ≤ k := by unfold RecOkP at hok; omega
  have hb0 : 0 ≤ b := by unfold RecOkP at hok; omega
  obtain ⟨K, rfl⟩ := Int.eq_ofNat_of_zero_le hk0
  obtain ⟨B, rfl⟩ := Int.eq_ofNat_of_zero_le hb0
  have hK : K ≤ 5 ∧ B ≤ 1000000 := by unfold RecOkP at hok; omega
  obtain ⟨e1, e2, e3⟩ := show_head K B (by omega) (by omega) (bodyS (K : Int) key val c s)
  have p1 := varS_pos K (by omega)
  have p2 := varS_pos B (by omega)
  by_cases h14 : K = 1 ∨ K = 4
  · have hz : key.size ≤ 8 ∧ val.size ≤ 24 ∧ c = 0 ∧ s = 0 := by unfold RecOkP at hok; omega
    obtain ⟨z1, z2, rfl, rfl⟩ := hz
    have hbd : bodyS (K : Int) key val 0 0 = textS key ++ textS val := by unfold bodyS; rw [if_pos (by omega)]
    obtain ⟨t1, t2, t3⟩ := txt_text key (textS val) (by omega)
    obtain ⟨t4, t5, t6⟩ := txt_text val ⟨#[]⟩ (by omega)
    rw [app_nil] at t4 t5 t6
    unfold parse Clean
    rw [e1, e2, e3, hbd]
    simp only
    rw [if_pos h14, if_pos h14, t1, t2, t3, t4, t5, t6]
    exact ⟨rfl, by omega, by omega, rfl, rfl, rfl⟩
  · by_cases h2 : K = 2
    · have hz : key.size ≤ 8 ∧ val.size = 0 ∧ c = 0 ∧ s = 0 := by unfold RecOkP at hok; omega
      obtain ⟨z1, z2, rfl, rfl⟩ := hz
      have hbd : bodyS (K : Int) key val 0 0 = textS key := by unfold bodyS; rw [if_neg (by omega), if_pos (by omega)]
      obtain ⟨t1, t2, t3⟩ := txt_text key ⟨#[]⟩ (by omega)
      rw [app_nil] at t1 t2 t3
      unfold parse Clean
      rw [e1, e2, e3, hbd]
      simp only
      rw [if_neg h14, if_neg h14, if_pos h2, if_pos h2, t1, t2, t3, empty_of z2]
      exact ⟨rfl, by omega, by omega, rfl, rfl⟩
    · have hz : key.size = 0 ∧ val.size = 0 ∧ 0 ≤ c ∧ c ≤ 20 ∧ 0 ≤ s ∧ s ≤ 4294967295 := by unfold RecOkP at hok; omega
      obtain ⟨z1, z2, z3, z4, z5, z6⟩ := hz
      obtain ⟨C, rfl⟩ := Int.eq_ofNat_of_zero_le z3
      obtain ⟨S, rfl⟩ := Int.eq_ofNat_of_zero_le z5
      have hbd : bodyS (K : Int) key val (C : Int) (S : Int) = varS (C : Int) ++ fixN (S : Int) 4 := by unfold bodyS totS; rw [if_neg (by omega), if_neg (by omega)]
      obtain ⟨t1, t2, t3⟩ := sum_fix S (by omega) ⟨#[]⟩
      rw [app_nil] at t1 t2 t3
      have p3 := varS_pos C (by omega)
      unfold parse Clean
      rw [e1, e2, e3, hbd, rv_var C (by omega), numT_var C (by omega)]
      simp only
      rw [if_neg h14, if_neg h14, if_neg h2, if_neg h2, t1, t2, t3, empty_of z1, empty_of z2]
      exact ⟨rfl, by omega, by omega, by omega, rfl, rfl⟩

theorem back (s : ByteArray) (hc : Clean s) (h : recOkB (parse s) = true) : showS (parse s) = s := by
  have hsh : showS (parse s) = varS (parse s).kind ++ varS (parse s).batch ++ bodyS (parse s).kind (parse s).key (parse s).val (parse s).cnt (parse s).sum := by
    unfold showS showN
    exact if_pos h
  rw [hsh]
  obtain ⟨c1, c2, c3⟩ := hc
  have w1 := numT_whole s c1
  have w2 := numT_whole (numT s) c2
  unfold parse
  by_cases h14 : (rv s).1 = 1 ∨ (rv s).1 = 4
  · rw [if_pos h14] at c3 ⊢
    simp only
    have hbd : bodyS ((rv s).1 : Int) (txtV (numT (numT s))) (txtV (txtR (numT (numT s)))) 0 0 = textS (txtV (numT (numT s))) ++ textS (txtV (txtR (numT (numT s)))) := by unfold bodyS; rw [if_pos (by omega)]
    rw [hbd]
    have w3 := txt_back _ c3.1
    have w4 := txt_back _ c3.2.1
    rw [empty_of c3.2.2, app_nil] at w4
    rw [w4, w3, ByteArray.append_assoc, w2, w1]
  · rw [if_neg h14] at c3 ⊢
    by_cases h2 : (rv s).1 = 2
    · rw [if_pos h2] at c3 ⊢
      simp only
      have hbd : bodyS ((rv s).1 : Int) (txtV (numT (numT s))) ⟨#[]⟩ 0 0 = textS (txtV (numT (numT s))) := by unfold bodyS; rw [if_neg (by omega), if_pos (by omega)]
      rw [hbd]
      have w3 := txt_back _ c3.1
      rw [empty_of c3.2, app_nil] at w3
      rw [w3, ByteArray.append_assoc, w2, w1]
    · rw [if_neg h2] at c3 ⊢
      simp only
      have hbd : bodyS ((rv s).1 : Int) ⟨#[]⟩ ⟨#[]⟩ ((rv (numT (numT s))).1 : Int) (sumV (numT (numT (numT s))) : Int) = varS ((rv (numT (numT s))).1 : Int) ++ fixN (sumV (numT (numT (numT s))) : Int) 4 := by unfold bodyS totS; rw [if_neg (by omega), if_neg (by omega)]
      rw [hbd]
      have w3 := numT_whole _ c3.1
      have w4 := sum_back _ c3.2.1
      rw [empty_of c3.2.2, app_nil] at w4
      rw [w4, w3, ByteArray.append_assoc, w2, w1]

theorem show_pos (r : RecV) (h : recOkB r = true) : 0 < (showS r).size := by
  have hc := (forth r h).2.1
  have := rv_bd (showS r)
  omega
theorem show_none (r : RecV) (h : recOkB r = false) : showS r = ⟨#[]⟩ := by
  unfold showS showN
  rw [if_neg (by unfold recOkB at h; rw [h]; simp)]
theorem show_inj (r q : RecV) (h : recOkB r = true) (h' : recOkB q = true) (e : showS r = showS q) : r = q := by
  rw [← (forth r h).1, e, (forth q h').1]

/-- What ReadRec tells of a text. -/
def RR (s : ByteArray) (r : RecV) (ok : Bool) : Prop :=
  (ok = true ∧ recOkB r = true ∧ showS r = s) ∨ (ok = false ∧ r = zeroR ∧ ∀ q, recOkB q = true → showS q ≠ s)
theorem RR_one {s : ByteArray} {r q : RecV} {a b : Bool} (h : RR s r a) (h' : RR s q b) : r = q ∧ a = b := by
  rcases h with ⟨rfl, h1, h2⟩ | ⟨rfl, rfl, h1⟩
  · rcases h' with ⟨rfl, h3, h4⟩ | ⟨_, _, h3⟩
    · exact ⟨show_inj r q h1 h3 (h2.trans h4.symm), rfl⟩
    · exact absurd h2 (h3 r h1)
  · rcases h' with ⟨rfl, h3, h4⟩ | ⟨rfl, rfl, _⟩
    · exact absurd h4 (h1 q h3)
    · exact ⟨rfl, rfl⟩
/-- What is read clean and right is what was shown. -/
theorem RR_yes (s : ByteArray) (hc : Clean s) (h : recOkB (parse s) = true) : RR s (parse s) true := Or.inl ⟨rfl, h, back s hc h⟩
theorem RR_unclean (s : ByteArray) (hc : ¬ Clean s) : RR s zeroR false :=
  Or.inr ⟨rfl, rfl, fun q hq e => hc (by rw [← e]; exact (forth q hq).2)⟩
theorem RR_wrong (s : ByteArray) (h : recOkB (parse s) = false) : RR s zeroR false :=
  Or.inr ⟨rfl, rfl, fun q hq e => by rw [← e, (forth q hq).1, hq] at h; cases h⟩

end Go.Proofs.YtimpokbcfjgdaaaGreatDoor
namespace Go.Proofs.YtimpokbcfjgdaaaGreatDoor
open Go.RowKit
open Plain

set_option maxHeartbeats 400000 in
theorem specVar_no (n : Int) (w : World) (h : n < 0 ∨ 562949953421311 < n) :
    Calls Tryz.prog 36 #[.int .i64 n] w fun e w' => e = .returned (.string ⟨#[]⟩) ∧ w = w' := by
  have hin : decide (0 ≤ n ∧ n ≤ 562949953421311) = false := by simp; omega
  go_enter Tryz.func36, Tryz.ntmps36
  go_wp2_with (go_at_call 72; refine (in_any _ _ _ _).mono ?_; rw [hin]; rintro e w' ⟨rfl, rfl⟩)
  go_ret
  exact ⟨rfl, rfl⟩

set_option maxRecDepth 100000 in
set_option maxHeartbeats 400000 in
theorem specVar_yes (n : Nat) (w : World) (hn : n ≤ 562949953421311) :
    Calls Tryz.prog 36 #[.int .i64 n] w fun e w' => e = .returned (.string (strOfNums (vb n))) ∧ Below w.heap.size w w' := by
  have hin : decide ((0:Int) ≤ n ∧ (n:Int) ≤ 562949953421311) = true := by simp; omega
  have H7 := vb_len7 n hn
  go_enter Tryz.func36, Tryz.ntmps36
  go_wp2_with (go_at_call 72; refine (in_any _ _ _ _).mono ?_; rw [hin]; rintro e w' ⟨rfl, rfl⟩)
  go_loopw [0, 3] (fun a v wr => ∃ (q : Nat) (p : List Int), q ≤ 562949953421311 ∧ a = .int .i64 q ∧ wr.ownsRow w.heap.size 5 1 v p.length (p.map (Value.int .u8)) ∧ Hid (p ++ vb q = vb n) ∧ Below w.heap.size w wr) (fun a _ _ => (intOf a).toNat)
  case atStart => exact ⟨n, [], hn, rfl, World.ownsRow_lit w #[] 0 (Nat.le_refl _) (by unfold maxLen; omega) rfl, hide rfl, (Below.refl _ _).alloc (Nat.le_refl _) _⟩
  case round =>
    obtain ⟨q, p, hq, rfl, hown, HP, hB⟩ := hrel
    have hpl : p.length ≤ 7 := by have := congrArg List.length HP.out; simp at this; omega
    by_cases hs : q < 128
    · go_wp2_with (at_builtin; refine wpList_app_byte rfl (.tmp 19) (.tmp 22) rfl hown hB.size _ (by omega) rfl rfl ?_; intro v' w2 hown2 hB2; have hcv := cv_own (L := vb n) (by rw [← HP.out, vb_small q hs]; simpa using hown2))
      go_ret
      exact ⟨rfl, hB.trans ‹_›⟩
    · go_wp2_with (at_builtin; refine wpList_app_byte rfl (.tmp 10) (.tmp 15) rfl hown hB.size _ (by omega) rfl rfl ?_; intro v' w2 hown2 hB2)
      rename_i v' w2 hown2 hB2
      go_roundw
      case rel => exact ⟨q / 128, p ++ [128 + (q : Int) % 128], by omega, by go_num, by simpa using hown2, hide (by rw [← HP.out, vb_big q hs]; simp), hB.trans hB2⟩
      case measure => simp [intOf]; omega

end Go.Proofs.YtimpokbcfjgdaaaGreatDoor
namespace Go.Proofs.YtimpokbcfjgdaaaGreatDoor
open Go.RowKit
open Plain

set_option maxHeartbeats 400000 in
theorem put_any (g N at' : Nat) (cur : List Value) (ad : Addr) (m : Nat) (cs : List Value) (w : World) (hg : w.heap[g]? = some (.cells cur.toArray 5 (0, 0))) (hN : cur.length = N) (hN2 : N ≤ 4194304)
    (hm : cs.length = m) (hm0 : 0 < m) (hfit : at' + m ≤ N) (hsrc : ∀ j v, cs[j]? = some v → w.cell? (ad.add j) = some v) (h1 : ∀ v ∈ cs, v.oneCell' = true) :
    Calls Tryz.prog 67 #[.slice (some ⟨g, 0, none⟩) N N, .int .i64 at', .slice (some ad) m m] w fun e w' => e = .returned (.int .i64 ((at' : Int) + (m : Int))) ∧ w' = w.setRow g (splice cur at' cs).toArray := by
  have hcp : (Builtin.copy_ #[22, 22] 3 #[.slice (some ⟨g, at', none⟩) (N - at') (N - at'), .slice (some ad) m m]).run Tryz.prog w = .ok (.int .i64 (m : Int)) (w.setRow g (splice cur at' cs).toArray) := by
    have h := run_copy_row (P := Tryz.prog) w 22 22 3 5 g at' (N - at') (N - at') ad m m cur.toArray 5 cs Tryz.underlying22 Tryz.size5 hg (by rw [hm]; exact (Nat.min_eq_left (by omega)).symm) hsrc (by simp [hN, hm]; omega) h1
    rw [h, hm]
    simp [goInt, splice, hm]
  clear hg hsrc h1
  generalize w.setRow g (splice cur at' cs).toArray = wz at *
  clear hN hm
  go_enter Tryz.func67, Tryz.ntmps67
  go_wp2
  go_ret
  exact ⟨rfl, rfl⟩

/-- impl.putBehind on a row of the call's own, at the end of what is filled. -/
theorem put_row (g N B m : Nat) (p r : List Int) (w wr : World) (hm : r.length = m) (hm0 : 0 < m) (hfit : p.length + m ≤ N) (hN : N ≤ 4194304) (HR : Hid (wr.heap[g]? = some (.cells (rowOf N p).toArray 5 (0, 0)))) (hB : Below B w wr) (hBw : B ≤ wr.heap.size) (hBg : B ≤ g) :
    Calls Tryz.prog 67 #[.slice (some ⟨g, 0, none⟩) N N, .int .i64 p.length, .slice (some ⟨wr.heap.size, 0, none⟩) m m] (wr.alloc (.cells (r.map (Value.int .u8)).toArray 5))
      fun e w' => e = .returned (.int .i64 ((p.length : Int) + (m : Int))) ∧ Hid (w'.heap[g]? = some (.cells (rowOf N (p ++ r)).toArray 5 (0, 0))) ∧ Below B w w' := by
  have hg2 : (wr.alloc (.cells (r.map (Value.int .u8)).toArray 5)).heap[g]? = some (.cells (rowOf N p).toArray 5 (0, 0)) := by rw [Below.heap_alloc _ _ _ (lt_of_block HR.out)]; exact HR.out
  refine (put_any g N p.length (rowOf N p) ⟨wr.heap.size, 0, none⟩ m (r.map (Value.int .u8)) _ hg2 (rowOf_len _ _ (by omega)) hN (by simpa using hm) hm0 hfit (src_row wr r) (one_row r)).mono ?_
  rintro e w2 ⟨rfl, rfl⟩
  refine ⟨rfl, hide ?_, below_setRow (hB.alloc hBw _) hBg _⟩
  rw [← rowOf_step N p r (by omega)]
  exact setRow_heap _ _ _ _ _ _ hg2
theorem put1 (g N B : Nat) (p : List Int) (x : Int) (w wr : World) (hfit : p.length + 1 ≤ N) (hN : N ≤ 4194304) (HR : Hid (wr.heap[g]? = some (.cells (rowOf N p).toArray 5 (0, 0)))) (hB : Below B w wr) (hBw : B ≤ wr.heap.size) (hBg : B ≤ g) :
    Calls Tryz.prog 67 #[.slice (some ⟨g, 0, none⟩) N N, .int .i64 p.length, .slice (some ⟨wr.heap.size, 0, none⟩) 1 1] (wr.alloc (.cells #[.int .u8 x] 5))
      fun e w' => e = .returned (.int .i64 ((p.length : Int) + 1)) ∧ Hid (w'.heap[g]? = some (.cells (rowOf N (p ++ [x])).toArray 5 (0, 0))) ∧ Below B w w' :=
  put_row g N B 1 p [x] w wr rfl (by omega) hfit hN HR hB hBw hBg
theorem put2 (g N B : Nat) (p : List Int) (x y : Int) (w wr : World) (hfit : p.length + 2 ≤ N) (hN : N ≤ 4194304) (HR : Hid (wr.heap[g]? = some (.cells (rowOf N p).toArray 5 (0, 0)))) (hB : Below B w wr) (hBw : B ≤ wr.heap.size) (hBg : B ≤ g) :
    Calls Tryz.prog 67 #[.slice (some ⟨g, 0, none⟩) N N, .int .i64 p.length, .slice (some ⟨wr.heap.size, 0, none⟩) 2 2] (wr.alloc (.cells #[.int .u8 x, .int .u8 y] 5))
      fun e w' => e = .returned (.int .i64 ((p.length : Int) + 2)) ∧ Hid (w'.heap[g]? = some (.cells (rowOf N (p ++ [x, y])).toArray 5 (0, 0))) ∧ Below B w w' :=
  put_row g N B 2 p [x, y] w wr rfl (by omega) hfit hN HR hB hBw hBg

end Go.Proofs.YtimpokbcfjgdaaaGreatDoor
namespace Go.Proofs.YtimpokbcfjgdaaaGreatDoor
open Go.RowKit
open Plain

set_option maxHeartbeats 400000 in
theorem implVar_no (n : Int) (w : World) (h : n < 0 ∨ 562949953421311 < n) :
    Calls Tryz.prog 28 #[.int .i64 n] w fun e w' => e = .returned (.string ⟨#[]⟩) ∧ w = w' := by
  by_cases h1 : n < 0
  · go_enter Tryz.func28, Tryz.ntmps28
    go_wp2
    go_ret
    exact ⟨rfl, rfl⟩
  · have h2 : 562949953421311 < n := by omega
    go_enter Tryz.func28, Tryz.ntmps28
    go_wp2
    go_ret
    exact ⟨rfl, rfl⟩

set_option maxRecDepth 100000 in
set_option maxHeartbeats 400000 in
theorem implVar_yes (n : Nat) (w : World) (hn : n ≤ 562949953421311) :
    Calls Tryz.prog 28 #[.int .i64 n] w fun e w' => e = .returned (.string (strOfNums (vb n))) ∧ Below w.heap.size w w' := by
  have H7 := vb_len7 n hn
  obtain ⟨i0, hi, hz0, hz1, hz2⟩ := info_parts Tryz.info5
  obtain ⟨w1, hmk0, hown, hgrow⟩ := run_make_full (P := Tryz.prog) w w.heap.size 22 5 i0 (.int .u8 0) 1 Tryz.underlying22 hi hz0 hz1 .i64 .i64 7 (by rw [hz2]; omega) (by unfold maxLen; omega) (Nat.le_refl _)
  have hmk : (Instr.makeSlice 22 (.int .i64 7) (.int .i64 7)).run Tryz.prog w = .ok (.slice (some ⟨w.heap.size, 0, none⟩) 7 7) w1 := hmk0
  have hB1 : Below w.heap.size w w1 := (Below.refl _ _).grown hgrow (Nat.le_refl _) (by intro k h; cases h)
  have HR : Hid (w1.heap[w.heap.size]? = some (.cells (rowOf 7 []).toArray 5 (0, 0))) := hide (by rw [made_row hown, rowOf_nil])
  clear hown hgrow hi hz0 hz1 hz2 hmk0
  go_enter Tryz.func28, Tryz.ntmps28
  go_wp2
  go_loopw [0, 4] (fun a v wr => ∃ (q : Nat) (p : List Int), q ≤ 562949953421311 ∧ a = .int .i64 q ∧ v = .int .i64 p.length ∧ Hid (wr.heap[w.heap.size]? = some (.cells (rowOf 7 p).toArray 5 (0, 0))) ∧ Hid (p ++ vb q = vb n) ∧ Below w.heap.size w wr) (fun a _ _ => (intOf a).toNat)
  case atStart => exact ⟨n, [], hn, rfl, rfl, HR, hide rfl, hB1⟩
  case round =>
    clear HR hB1 hmk
    obtain ⟨q, p, hq, rfl, rfl, HR, HP, hB⟩ := hrel
    have hpl : p.length + (vb q).length ≤ 7 := by have := congrArg List.length HP.out; simp at this; omega
    have hvp := vb_pos q
    have hlt2 : w.heap.size < wr.heap.size := lt_of_block HR.out
    by_cases hs : q < 128
    · go_wp2_with fail
      refine (put1 w.heap.size 7 w.heap.size p (q : Int) w wr (by omega) (by omega) HR hB hB.size (Nat.le_refl _)).mono ?_
      rintro e w2 ⟨rfl, HR2, hB2⟩
      have hL : p ++ [(q : Int)] = vb n := by rw [← HP.out, vb_small q hs]
      have hl : (vb n).length = p.length + 1 := by rw [← hL]; simp
      rw [hL] at HR2
      have hcv := cv_pre HR2.out hl
      clear HR2 HR hL hl HP
      go_wp2
      go_ret
      exact ⟨rfl, hB2⟩
    · have e1 := i64_and127 (q : Int)
      have e2 := or128 ((q : Int) % 128) (by omega) (by omega)
      have HP2 : Hid ((p ++ [128 + (q : Int) % 128]) ++ vb (q / 128) = vb n) := hide (by rw [← HP.out, vb_big q hs]; simp)
      have hv2 := vb_pos (q / 128)
      have hp2 : p.length + 2 ≤ 7 := by rw [vb_big q hs] at hpl; simp at hpl; omega
      go_wp2_with fail
      refine (put1 w.heap.size 7 w.heap.size p (128 + (q : Int) % 128) w wr (by omega) (by omega) HR hB hB.size (Nat.le_refl _)).mono ?_
      rintro e w2 ⟨rfl, HR2, hB2⟩
      clear HR HP e1 e2
      go_wp2
      go_roundw
      case rel => exact ⟨q / 128, _, by omega, by go_num, by simp, HR2, HP2, hB2⟩
      case measure => simp [intOf]; omega

end Go.Proofs.YtimpokbcfjgdaaaGreatDoor
namespace Go.Proofs.YtimpokbcfjgdaaaGreatDoor
open Go.RowKit
open Plain

set_option maxHeartbeats 400000 in
theorem specFixed_no (n m : Int) (w : World) (h : n < 0 ∨ m < 1 ∨ 7 < m) :
    Calls Tryz.prog 37 #[.int .i64 n, .int .i64 m] w fun e w' => e = .returned (.string ⟨#[]⟩) ∧ w = w' := by
  by_cases h1 : 1 ≤ m ∧ m ≤ 7
  · have hin : decide (1 ≤ m ∧ m ≤ 7) = true := by simpa using h1
    go_enter Tryz.func37, Tryz.ntmps37
    go_wp2_with (go_at_call 72; refine (in_any _ _ _ _).mono ?_; rw [hin]; rintro e w' ⟨rfl, rfl⟩)
    go_ret
    exact ⟨rfl, rfl⟩
  · have hin : decide (1 ≤ m ∧ m ≤ 7) = false := by simpa using h1
    go_enter Tryz.func37, Tryz.ntmps37
    go_wp2_with (go_at_call 72; refine (in_any _ _ _ _).mono ?_; rw [hin]; rintro e w' ⟨rfl, rfl⟩)
    go_ret
    exact ⟨rfl, rfl⟩

set_option maxHeartbeats 400000 in
theorem specFixed_yes (n m : Nat) (w : World) (hn : n ≤ 9223372036854775807) (h1 : 1 ≤ m) (h2 : m ≤ 7) :
    Calls Tryz.prog 37 #[.int .i64 n, .int .i64 m] w fun e w' => e = .returned (.string (fixStr n m)) ∧ Below w.heap.size w w' := by
  have hin : decide ((1:Int) ≤ m ∧ (m:Int) ≤ 7) = true := by simp; omega
  go_enter Tryz.func37, Tryz.ntmps37
  go_wp2_with (go_at_call 72; refine (in_any _ _ _ _).mono ?_; rw [hin]; rintro e w' ⟨rfl, rfl⟩)
  go_loopw [0, 5, 6] (fun q o i wr => ∃ k : Nat, k ≤ m ∧ i = .int .i64 k ∧ q = .int .i64 ((n / 256 ^ k : Nat) : Int) ∧ o = .string (strOfNums (low n k)) ∧ Below w.heap.size w wr) (fun _ _ i _ => m - (intOf i).toNat)
  case atStart => exact ⟨0, Nat.zero_le _, rfl, by simp, by simp [low, strOfNums], Below.refl _ _⟩
  case round =>
    obtain ⟨k, hk, rfl, rfl, rfl, hB⟩ := hrel
    by_cases hlt : k < m
    · have HQ : Hid (n / 256 ^ (k + 1) = n / 256 ^ k / 256) := hide (div_step n k).symm
      have HL : Hid (low n (k + 1) = ((n / 256 ^ k % 256 : Nat) : Int) :: low n k) := hide (low_succ n k)
      have hq : n / 256 ^ k ≤ n := Nat.div_le_self _ _
      have ho : (strOfNums (low n k)).size ≤ 7 := by rw [strOfNums_size, low_length]; omega
      generalize hqq : n / 256 ^ k = q at *
      generalize hll : low n k = L at *
      have ho1 : (strOfNums [(q : Int) % 256]).size ≤ 1 := by rw [strOfNums_size]; simp
      clear hqq hll
      have hcv := cv_one wr
      go_wp2
      go_roundw
      case rel => exact ⟨k + 1, by omega, by go_num, val_int (by rw [HQ.out]; omega), by rw [strOfNums_append, HL.out]; rfl, hB.alloc hB.size _⟩
      case measure => simp [intOf]; omega
    · obtain rfl : k = m := by omega
      have hd := div_pos_iff n k
      have hpw : 0 < 256 ^ k := Nat.pow_pos (by omega)
      by_cases hbig : 256 ^ k ≤ n
      · have hp : 0 < n / 256 ^ k := hd.2 hbig
        have HF : Hid (fixStr n k = ⟨#[]⟩) := hide (by simp [fixStr]; omega)
        clear hd hbig hpw
        generalize n / 256 ^ k = q at *
        go_wp2
        go_ret
        exact ⟨by rw [HF.out]; rfl, hB⟩
      · have hp : n / 256 ^ k = 0 := Nat.div_eq_of_lt (by omega)
        have HF : Hid (fixStr n k = strOfNums (low n k)) := hide (by simp [fixStr]; omega)
        rw [hp]
        clear hd hbig hpw hp
        go_wp2
        go_ret
        exact ⟨by rw [HF.out]; rfl, hB⟩

end Go.Proofs.YtimpokbcfjgdaaaGreatDoor
namespace Go.Proofs.YtimpokbcfjgdaaaGreatDoor
open Go.RowKit
open Plain

set_option maxRecDepth 100000 in
set_option maxHeartbeats 400000 in
theorem implFixed_no (n m : Int) (w : World) (h : n < 0 ∨ m < 1 ∨ 7 < m) :
    Calls Tryz.prog 30 #[.int .i64 n, .int .i64 m] w fun e w' => e = .returned (.string ⟨#[]⟩) ∧ w = w' := by
  by_cases h1 : m < 1
  · go_enter Tryz.func30, Tryz.ntmps30
    go_wp2
    go_ret
    exact ⟨rfl, rfl⟩
  · by_cases h2 : 7 < m
    · go_enter Tryz.func30, Tryz.ntmps30
      go_wp2
      go_ret
      exact ⟨rfl, rfl⟩
    · have h3 : n < 0 := by omega
      go_enter Tryz.func30, Tryz.ntmps30
      go_wp2
      go_ret
      exact ⟨rfl, rfl⟩

def rowAt (L : List Int) (k : Nat) : List Value := (L.take k ++ List.replicate (L.length - k) 0).map (Value.int .u8)
theorem rowAt_len (L : List Int) (k : Nat) (h : k ≤ L.length) : (rowAt L k).length = L.length := by simp [rowAt]; omega
theorem rowAt_zero (L : List Int) : rowAt L 0 = List.replicate L.length (.int .u8 0) := by simp [rowAt]
theorem rowAt_full (L : List Int) : rowAt L L.length = L.map (Value.int .u8) := by simp [rowAt]
theorem rowAt_step (L : List Int) (k : Nat) (x : Int) (h : L[k]? = some x) : splice (rowAt L k) k [.int .u8 x] = rowAt L (k + 1) := by
  have hk : k < L.length := by
    rcases Nat.lt_or_ge k L.length with h' | h'
    · exact h'
    · rw [List.getElem?_eq_none h'] at h; simp at h
  have hx : L[k] = x := by rw [List.getElem?_eq_getElem hk] at h; simpa using h
  unfold splice rowAt
  rw [List.take_succ_eq_append_getElem hk, hx]
  have e : L.length - k = (L.length - (k + 1)) + 1 := by omega
  rw [e, List.replicate_succ]
  simp [List.drop_append, Nat.min_eq_left (Nat.le_of_lt hk)]

/-- A whole row of bytes of the call's own, as a string. -/
theorem cv_row {w : World} {g n k : Nat} {L : List Int} (h : w.heap[g]? = some (.cells (rowAt L k).toArray 5 (0, 0))) (hk : k = L.length) (hn : L.length = n) :
    (convert 22 9 (.slice (some ⟨g, 0, none⟩) n n)).run Tryz.prog w = .ok (.string (strOfNums L)) w := by
  subst hk
  refine run_convert_bytes_arg (P := Tryz.prog) w 22 5 Tryz.underlying22 Tryz.underlying5 g 0 n n L hn ?_ 9 Tryz.underlying9
  intro i hi
  rw [rowAt_full] at h
  have hi' : i < L.length := by omega
  simp [World.cell?, h, List.getD, hi']

theorem pow256 (k : Nat) : (2 : Nat) ^ (8 * k) = 256 ^ k := by rw [Nat.pow_mul]
theorem shr_pow (n k : Nat) : (n : Int) / 2 ^ (8 * k) = ((n / 256 ^ k : Nat) : Int) := by
  rw [← pow256]; norm_cast
theorem shr_byte (n k : Nat) : (n : Int) / 2 ^ (8 * k) % 256 = ((n / 256 ^ k % 256 : Nat) : Int) := by
  rw [shr_pow]
  generalize n / 256 ^ k = q
  omega

set_option maxRecDepth 100000 in
set_option maxHeartbeats 400000 in
theorem implFixed_great (n m : Nat) (w : World) (_hn : n ≤ 9223372036854775807) (h1 : 1 ≤ m) (h2 : m ≤ 7) (hb : 256 ^ m ≤ n) :
    Calls Tryz.prog 30 #[.int .i64 n, .int .i64 m] w fun e w' => e = .returned (.string ⟨#[]⟩) ∧ w = w' := by
  have hsh : ((n : Int) / 2 ^ (8 * m) != 0) = true := by
    rw [shr_pow]
    have := (div_pos_iff n m).2 hb
    simp only [bne_iff_ne, ne_eq]
    omega
  clear hb
  go_enter Tryz.func30, Tryz.ntmps30
  go_wp2
  go_ret
  exact ⟨rfl, rfl⟩

set_option maxRecDepth 100000 in
set_option maxHeartbeats 400000 in
theorem implFixed_fits (n m : Nat) (w : World) (hn : n ≤ 9223372036854775807) (h1 : 1 ≤ m) (h2 : m ≤ 7) (hb : n < 256 ^ m) :
    Calls Tryz.prog 30 #[.int .i64 n, .int .i64 m] w fun e w' => e = .returned (.string (strOfNums (low n m))) ∧ Below w.heap.size w w' := by
  have hsh : ((n : Int) / 2 ^ (8 * m) != 0) = false := by
    rw [shr_pow, Nat.div_eq_of_lt hb]; rfl
  clear hb
  obtain ⟨i0, hi, hz0, hz1, hz2⟩ := info_parts Tryz.info5
  obtain ⟨w1, hmk, hown, hgrow⟩ := run_make_full (P := Tryz.prog) w w.heap.size 22 5 i0 (.int .u8 0) 1 Tryz.underlying22 hi hz0 hz1 .i64 .i64 m (by rw [hz2]; omega) (by unfold maxLen; omega) (Nat.le_refl _)
  have hrow := made_row hown
  have hB1 : Below w.heap.size w w1 := (Below.refl _ _).grown hgrow (Nat.le_refl _) (by intro k h; cases h)
  have hlow := low_length n m
  have HL : Hid ((low n m).length = m) := hide hlow
  have HR : Hid (w1.heap[w.heap.size]? = some (.cells (rowAt (low n m) 0).toArray 5 (0, 0))) := hide (by rw [hrow, rowAt_zero, hlow])
  clear hown hgrow hrow hlow hi hz0 hz1 hz2
  go_enter Tryz.func30, Tryz.ntmps30
  go_wp2
  go_loopw [6, 28] (fun a i wr => ∃ k : Nat, k ≤ m ∧ a = .int .i64 k ∧ i = .int .i64 k ∧ Hid (wr.heap[w.heap.size]? = some (.cells (rowAt (low n m) k).toArray 5 (0, 0))) ∧ Below w.heap.size w wr) (fun _ i _ => m - (intOf i).toNat)
  case atStart => exact ⟨0, Nat.zero_le _, rfl, rfl, HR, hB1⟩
  case round =>
    clear HR hB1 hmk
    obtain ⟨k, hk, rfl, rfl, HR, hB⟩ := hrel
    by_cases hlt : k < m
    · have hx : (low n m)[k]? = some ((n : Int) / 2 ^ (8 * (m - 1 - k)) % 256) := by rw [low_get n m k hlt, shr_byte]
      go_wp2_with fail
      generalize (n : Int) / 2 ^ (8 * (m - 1 - k)) % 256 = x at *
      have hst := rowAt_step (low n m) k x hx
      have hlt2 : w.heap.size < wr.heap.size := lt_of_block HR.out
      have hg2 : (wr.alloc (.cells #[.int .u8 x] 5)).heap[w.heap.size]? = some (.cells (rowAt (low n m) k).toArray 5 (0, 0)) := by rw [Below.heap_alloc _ _ _ hlt2]; exact HR.out
      have hB2 : Below w.heap.size w (wr.alloc (.cells #[.int .u8 x] 5)) := hB.alloc hB.size _
      refine (put_any w.heap.size m k (rowAt (low n m) k) ⟨wr.heap.size, 0, none⟩ 1 [.int .u8 x] _ hg2 (by rw [rowAt_len _ _ (by rw [HL.out]; exact hk)]; exact HL.out) (by omega) rfl (by omega) (by omega) (src_one wr x) (one_one x)).mono ?_
      rintro e w2 ⟨rfl, hw2⟩
      have HR2 : Hid (w2.heap[w.heap.size]? = some (.cells (rowAt (low n m) (k + 1)).toArray 5 (0, 0))) := hide (by rw [hw2, ← hst]; exact setRow_heap _ _ _ _ _ _ hg2)
      have hB3 : Below w.heap.size w w2 := by rw [hw2]; exact below_setRow hB2 (Nat.le_refl _) _
      clear hw2 hg2 hst hx hB2 hlt2 HR hB
      go_wp2
      go_roundw
      case rel => exact ⟨k + 1, by omega, by go_num, by go_num, HR2, hB3⟩
      case measure => simp [intOf]; omega
    · obtain rfl : k = m := by omega
      have hcv : (convert 22 9 (.slice (some ⟨w.heap.size, 0, none⟩) k k)).run Tryz.prog wr = .ok (.string (strOfNums (low n k))) wr := cv_row HR.out (by rw [HL.out]) HL.out
      clear HR
      go_wp2
      go_ret
      exact ⟨rfl, hB⟩

theorem implFixed_yes (n m : Nat) (w : World) (hn : n ≤ 9223372036854775807) (h1 : 1 ≤ m) (h2 : m ≤ 7) :
    Calls Tryz.prog 30 #[.int .i64 n, .int .i64 m] w fun e w' => e = .returned (.string (fixStr n m)) ∧ Below w.heap.size w w' := by
  by_cases hb : n < 256 ^ m
  · have e : fixStr n m = strOfNums (low n m) := by simp [fixStr, hb]
    rw [e]
    exact implFixed_fits n m w hn h1 h2 hb
  · have e : fixStr n m = ⟨#[]⟩ := by simp [fixStr, hb]
    rw [e]
    refine (implFixed_great n m w hn h1 h2 (by omega)).mono ?_
    rintro e w' ⟨rfl, rfl⟩
    exact ⟨rfl, Below.refl _ _⟩

end Go.Proofs.YtimpokbcfjgdaaaGreatDoor
namespace Go.Proofs.YtimpokbcfjgdaaaGreatDoor
open Go.RowKit
open Plain

set_option maxHeartbeats 400000 in
theorem specReadFixed_no (s : ByteArray) (n : Int) (w : World) (_hs : s.size ≤ 1048576) (h : n < 1 ∨ 7 < n ∨ s.size < n) :
    Calls Tryz.prog 90 #[.string s, .int .i64 n] w fun e w' => e = .returned (.tuple #[.int .i64 0, .bool false]) ∧ w = w' := by
  by_cases h1 : 1 ≤ n ∧ n ≤ 7
  · have hin : decide (1 ≤ n ∧ n ≤ 7) = true := by simpa using h1
    go_enter Tryz.func90, Tryz.ntmps90
    go_wp2_with (go_at_call 72; refine (in_any _ _ _ _).mono ?_; rw [hin]; rintro e w' ⟨rfl, rfl⟩)
    go_ret2
    exact ⟨rfl, rfl⟩
  · have hin : decide (1 ≤ n ∧ n ≤ 7) = false := by simpa using h1
    go_enter Tryz.func90, Tryz.ntmps90
    go_wp2_with (go_at_call 72; refine (in_any _ _ _ _).mono ?_; rw [hin]; rintro e w' ⟨rfl, rfl⟩)
    go_ret2
    exact ⟨rfl, rfl⟩

set_option maxHeartbeats 400000 in
theorem specReadFixed_yes (s : ByteArray) (m : Nat) (w : World) (hs : s.size ≤ 1048576) (h1 : 1 ≤ m) (h2 : m ≤ 7) (h3 : m ≤ s.size) :
    Calls Tryz.prog 90 #[.string s, .int .i64 m] w fun e w' => e = .returned (.tuple #[.int .i64 (fixVal s m), .bool true]) ∧ w = w' := by
  have hin : decide ((1:Int) ≤ m ∧ (m:Int) ≤ 7) = true := by simp; omega
  go_enter Tryz.func90, Tryz.ntmps90
  go_wp2_with (go_at_call 72; refine (in_any _ _ _ _).mono ?_; rw [hin]; rintro e w' ⟨rfl, rfl⟩)
  go_loop [6, 7] (fun n i => ∃ k : Nat, k ≤ m ∧ i = .int .i64 k ∧ n = .int .i64 (fixVal s k)) (fun _ i => m - (intOf i).toNat)
  case atStart => exact ⟨0, Nat.zero_le _, rfl, rfl⟩
  case round =>
    obtain ⟨k, hk, rfl, rfl⟩ := hrel
    by_cases hlt : k < m
    · have hb := fixVal_bd s k (by omega)
      have hk2 : k < s.size := by omega
      have hc := UInt8.toNat_lt s[k]
      have HS : Hid (fixVal s (k + 1) = fixVal s k * 256 + s[k].toNat) := by show _ = _; rw [fixVal, byteAt_eq s k hk2]
      go_wp2
      go_round
      case rel => exact ⟨k + 1, by omega, by go_num, val_int (by rw [HS.out]; omega)⟩
      case measure => simp [intOf]; omega
    · obtain rfl : k = m := by omega
      go_wp2
      go_ret2
      exact ⟨rfl, rfl⟩

end Go.Proofs.YtimpokbcfjgdaaaGreatDoor
namespace Go.Proofs.YtimpokbcfjgdaaaGreatDoor
open Go.RowKit
open Plain

set_option maxHeartbeats 400000 in
theorem implReadFixed_no (s : ByteArray) (n : Int) (w : World) (_hs : s.size ≤ 1048576) (h : n < 1 ∨ 7 < n ∨ s.size < n) :
    Calls Tryz.prog 69 #[.string s, .int .i64 n] w fun e w' => e = .returned (.tuple #[.int .i64 0, .bool false]) ∧ w = w' := by
  by_cases h1 : n < 1
  · go_enter Tryz.func69, Tryz.ntmps69
    go_wp2
    go_ret2
    exact ⟨rfl, rfl⟩
  · by_cases h2 : 7 < n
    · go_enter Tryz.func69, Tryz.ntmps69
      go_wp2
      go_ret2
      exact ⟨rfl, rfl⟩
    · go_enter Tryz.func69, Tryz.ntmps69
      go_wp2
      go_ret2
      exact ⟨rfl, rfl⟩

set_option maxHeartbeats 400000 in
theorem implReadFixed_yes (s : ByteArray) (m : Nat) (w : World) (hs : s.size ≤ 1048576) (h1 : 1 ≤ m) (h2 : m ≤ 7) (h3 : m ≤ s.size) :
    Calls Tryz.prog 69 #[.string s, .int .i64 m] w fun e w' => e = .returned (.tuple #[.int .i64 (fixVal s m), .bool true]) ∧ w = w' := by
  go_enter Tryz.func69, Tryz.ntmps69
  go_wp2
  go_loop [6, 21] (fun n i => ∃ k : Nat, k ≤ m ∧ i = .int .i64 k ∧ n = .int .i64 (fixVal s k)) (fun _ i => m - (intOf i).toNat)
  case atStart => exact ⟨0, Nat.zero_le _, rfl, rfl⟩
  case round =>
    obtain ⟨k, hk, rfl, rfl⟩ := hrel
    by_cases hlt : k < m
    · have hb := fixVal_bd s k (by omega)
      have hk2 : k < s.size := by omega
      have hc := UInt8.toNat_lt s[k]
      have HS : Hid (fixVal s (k + 1) = fixVal s k * 256 + s[k].toNat) := by show _ = _; rw [fixVal, byteAt_eq s k hk2]
      go_wp2
      go_round
      case rel => exact ⟨k + 1, by omega, by go_num, val_int (by rw [HS.out]; rw [or_byte _ _ (by omega) (by omega) (by omega) (by omega)]; omega)⟩
      case measure => simp [intOf]; omega
    · obtain rfl : k = m := by omega
      go_wp2
      go_ret2
      exact ⟨rfl, rfl⟩

end Go.Proofs.YtimpokbcfjgdaaaGreatDoor
namespace Go.Proofs.YtimpokbcfjgdaaaGreatDoor
open Go.RowKit
open Plain

set_option maxRecDepth 100000 in
set_option maxHeartbeats 1000000 in
theorem specReadVar_any (s : ByteArray) (w : World) (hs : s.size ≤ 1048576) :
    Calls Tryz.prog 88 #[.string s] w fun e w' => (∃ n k : Nat, e = .returned (.tuple #[.int .i64 n, .int .i64 k]) ∧ RV s n k) ∧ Below w.heap.size w w' := by
  go_enter Tryz.func88, Tryz.ntmps88
  go_wp2
  go_loopw [4] (fun a wr => ∃ k : Nat, 1 ≤ k ∧ k ≤ 8 ∧ k ≤ s.size + 1 ∧ a = .int .i64 k ∧ Hid (∀ j, 1 ≤ j → j < k → ¬ IsVar ((bl s).take j)) ∧ Below w.heap.size w wr) (fun a _ => 9 - (intOf a).toNat)
  case atStart => exact ⟨1, by omega, by omega, by omega, rfl, hide (by intro j h1 h2; omega), Below.refl _ _⟩
  case round =>
    obtain ⟨k, hk1, hk8, hks, rfl, HA, hB⟩ := hrel
    by_cases hk7 : k ≤ 7
    · by_cases hk2 : k ≤ s.size
      · go_wp2
        go_loopw [5, 6] (fun n i wx => ∃ t : Nat, t ≤ k ∧ i = .int .i64 ((t : Int) - 1) ∧ n = .int .i64 (vval (((bl s).take k).drop t)) ∧ wx = wr) (fun _ i _ => (intOf i + 1).toNat)
        case atStart => exact ⟨k, Nat.le_refl _, rfl, by rw [List.drop_of_length_le (by rw [List.length_take]; omega)]; rfl, rfl⟩
        case round =>
          obtain ⟨t, ht, rfl, rfl, rfl⟩ := hrel
          cases t with
          | zero =>
            have hV := vval_bd ((bl s).take k) (by rw [List.length_take]; omega)
            rw [List.drop_zero]
            have heq := var_eq_iff s k
            by_cases hv : IsVar ((bl s).take k)
            · have he := heq.2 hv
              have HR : Hid (RV s (vval ((bl s).take k)) k) := hide (Or.inl ⟨hk1, hk7, hk2, hv, rfl, HA.out⟩)
              clear heq hv HA
              generalize vval ((bl s).take k) = V at *
              go_wp2
              go_region_with (go_at_call 36; refine (specVar_yes V _ hV).mono ?_; rintro e w2 ⟨rfl, hb2⟩)
              all_goals
                have hB2 : Below w.heap.size w w2 := hB.drew.trans (hb2.mono hB.size)
                clear hb2
                go_wp2
                go_ret2
                exact ⟨⟨V, k, rfl, HR.out⟩, hB2⟩
            · have he : ((strOfNums (vb (vval ((bl s).take k)))).toList == (s.extract 0 k).toList) = false := by
                cases hq : ((strOfNums (vb (vval ((bl s).take k)))).toList == (s.extract 0 k).toList) with
                | false => rfl
                | true => exact absurd (heq.1 hq) hv
              have HN := hide hv
              clear heq hv
              generalize vval ((bl s).take k) = V at *
              go_wp2
              go_region_with (go_at_call 36; refine (specVar_yes V _ hV).mono ?_; rintro e w2 ⟨rfl, hb2⟩)
              all_goals
                have hB2 : Below w.heap.size w w2 := hB.drew.trans (hb2.mono hB.size)
                clear hb2
                go_wp2
                go_roundw
                case rel => exact ⟨k + 1, by omega, by omega, by omega, by go_num, hide (by
                  intro j h1 h2
                  by_cases hj : j < k
                  · exact HA.out j h1 hj
                  · obtain rfl : j = k := by omega
                    exact HN.out), hB2⟩
                case measure => simp [intOf]; omega
          | succ t =>
            have ht2 : t < s.size := by omega
            have hc := UInt8.toNat_lt s[t]
            have hget : ((bl s).take k)[t]? = some s[t].toNat := by rw [List.getElem?_take, if_pos (by omega)]; exact bl_get s t ht2
            have HV := hide (vval_drop _ t _ hget)
            have hbd := vval_bd (((bl s).take k).drop t) (by rw [List.length_drop, List.length_take]; omega)
            rw [HV.out] at hbd
            generalize vval (((bl s).take k).drop (t + 1)) = V at *
            have e0 : ((t + 1 : Nat) : Int) - 1 = (t : Int) := by omega
            rw [e0]
            go_wp2
            go_roundw
            case rel => exact ⟨t, by omega, by go_num, val_int (by rw [HV.out]; omega), by first | rfl | trivial⟩
            case measure => first | (simp [intOf]; done) | (simp [intOf]; omega)
      · go_wp2
        go_ret2
        exact ⟨⟨0, 0, rfl, Or.inr ⟨rfl, rfl, fun j h1 h2 h3 => HA.out j h1 (by omega)⟩⟩, hB⟩
    · go_wp2
      go_ret2
      exact ⟨⟨0, 0, rfl, Or.inr ⟨rfl, rfl, fun j h1 h2 h3 => HA.out j h1 (by omega)⟩⟩, hB⟩

end Go.Proofs.YtimpokbcfjgdaaaGreatDoor
namespace Go.Proofs.YtimpokbcfjgdaaaGreatDoor
open Go.RowKit
open Plain

theorem and127_u8 (b : Nat) (h : b < 256) : bits .and .u8 (b : Int) 127 = ((b % 128 : Nat) : Int) := by
  have := u8_and_nat b 127 h (by omega)
  rw [nat_mask7] at this
  exact this
theorem pow128 (k : Nat) : (2 : Nat) ^ (7 * k) = 128 ^ k := by rw [Nat.pow_mul]
theorem pow128_le (k : Nat) (h : k ≤ 6) : 128 ^ k ≤ 4398046511104 := by
  have h2 : 128 ^ k ≤ 128 ^ 6 := Nat.pow_le_pow_right (by omega) h
  have h3 : (128 : Nat) ^ 6 = 4398046511104 := by decide
  omega

/-- 'n |= int(c&127) << (7 * i)'. -/
theorem or_step (l : List Nat) (b k : Nat) (hl : l.length = k) (hk : k ≤ 6) : bits .or .i64 ((vval l : Nat) : Int) (wrap64 ((b : Int) % 128 * 2 ^ (7 * k))) = ((vval (l ++ [b]) : Nat) : Int) := by
  have h1 := vval_lt l
  rw [hl] at h1
  have h2 := pow128_le k hk
  have h3 := Nat.mod_lt b (show 0 < 128 by omega)
  have e : (b : Int) % 128 * 2 ^ (7 * k) = ((b % 128 * 128 ^ k : Nat) : Int) := by rw [← pow128 k]; norm_cast
  have h4 : b % 128 * 128 ^ k ≤ 127 * 4398046511104 := Nat.mul_le_mul (by omega) h2
  rw [e, IntWalk.wrap64_in _ ⟨by omega, by omega⟩, i64_or_nat _ _ (by omega) (by omega), vval_snoc, hl, Nat.or_comm, nat_join (7 * k) _ _ (by rw [pow128]; exact Nat.mul_mod_left _ _) (by rw [pow128]; exact h1), Nat.add_comm]

set_option maxRecDepth 100000 in
set_option maxHeartbeats 400000 in
theorem implReadVar_any (s : ByteArray) (w : World) (hs : s.size ≤ 1048576) :
    Calls Tryz.prog 104 #[.string s] w fun e w' => (∃ n k : Nat, e = .returned (.tuple #[.int .i64 n, .int .i64 k]) ∧ RV s n k) ∧ w = w' := by
  obtain ⟨m, hm, hms, hm7⟩ : ∃ m : Nat, ((min (s.size : Int) 7) = (m : Int)) ∧ m ≤ s.size ∧ m ≤ 7 := ⟨min s.size 7, by omega, by omega, by omega⟩
  have HM : Hid (m = 7 ∨ m = s.size) := hide (by omega)
  go_enter Tryz.func104, Tryz.ntmps104
  go_wp2
  all_goals
    go_loop [4, 9] (fun n i => ∃ k : Nat, k ≤ m ∧ i = .int .i64 k ∧ n = .int .i64 (vval ((bl s).take k)) ∧ Hid (∀ j, j < k → 128 ≤ (bl s).getD j 0)) (fun _ i => m - (intOf i).toNat)
    case atStart => exact ⟨0, Nat.zero_le _, rfl, rfl, hide (by intro j hj; omega)⟩
    case round =>
      obtain ⟨k, hk, rfl, rfl, HA⟩ := hrel
      by_cases hlt : k < m
      · have hk2 : k < s.size := by omega
        have hc := UInt8.toNat_lt s[k]
        have e1 := and127_u8 s[k].toNat hc
        have HN : Hid (bits .or .i64 ((vval ((bl s).take k) : Nat) : Int) (wrap64 ((s[k].toNat : Int) % 128 * 2 ^ (7 * k))) = ((vval ((bl s).take (k + 1)) : Nat) : Int)) := hide (by
          rw [bl_take_succ s k hk2]
          exact or_step _ _ k (by rw [List.length_take, bl_length]; omega) (by omega))
        have HG := hide (getD_bl s k hk2)
        by_cases hbig : s[k].toNat < 128
        · by_cases hk0 : 0 < k
          · by_cases hz : s[k].toNat = 0
            · have hz2 : ((s[k].toNat : Int) == 0) = true := by simp [hz]
              have HZ := hide hz
              clear hz
              go_wp2
              go_ret2
              exact ⟨⟨0, 0, rfl, RV_nought s k (by omega) hk2 HA.out hk0 (by rw [HG.out]; exact HZ.out)⟩, rfl⟩
            · have hz2 : ((s[k].toNat : Int) == 0) = false := by simp; omega
              go_wp2
              go_ret2
              exact ⟨⟨_, k + 1, ret_ints HN.out (by omega), RV_hit s k (by omega) hk2 HA.out (by rw [HG.out]; exact hbig) (Or.inr (by rw [HG.out]; exact hz))⟩, rfl⟩
          · go_wp2
            go_ret2
            exact ⟨⟨_, k + 1, ret_ints HN.out (by omega), RV_hit s k (by omega) hk2 HA.out (by rw [HG.out]; exact hbig) (Or.inl (by omega))⟩, rfl⟩
        · go_wp2
          go_round
          case rel => exact ⟨k + 1, by omega, by go_num, val_int HN.out, hide (by
            intro j hj
            by_cases hjk : j < k
            · exact HA.out j hjk
            · obtain rfl : j = k := by omega
              rw [HG.out]; omega)⟩
          case measure => simp [intOf]; omega
      · obtain rfl : k = m := by omega
        go_wp2
        go_ret2
        exact ⟨⟨0, 0, rfl, RV_none s k HM.out HA.out⟩, rfl⟩

end Go.Proofs.YtimpokbcfjgdaaaGreatDoor
namespace Go.Proofs.YtimpokbcfjgdaaaGreatDoor
open Go.RowKit
open Plain

theorem implVar_any (n : Int) : Ans 28 #[.int .i64 n] (.string (varS n)) := by
  intro w
  by_cases h : 0 ≤ n ∧ n ≤ 562949953421311
  · obtain ⟨m, rfl⟩ := Int.eq_ofNat_of_zero_le h.1
    rw [varS_in m (by omega)]
    exact implVar_yes m w (by omega)
  · rw [varS_out n (by omega)]
    refine (implVar_no n w (by omega)).mono ?_
    rintro e w' ⟨rfl, rfl⟩
    exact ⟨rfl, Below.refl _ _⟩
theorem specVar_any (n : Int) : Ans 36 #[.int .i64 n] (.string (varS n)) := by
  intro w
  by_cases h : 0 ≤ n ∧ n ≤ 562949953421311
  · obtain ⟨m, rfl⟩ := Int.eq_ofNat_of_zero_le h.1
    rw [varS_in m (by omega)]
    exact specVar_yes m w (by omega)
  · rw [varS_out n (by omega)]
    refine (specVar_no n w (by omega)).mono ?_
    rintro e w' ⟨rfl, rfl⟩
    exact ⟨rfl, Below.refl _ _⟩
theorem implFix4_any (n : Int) (h1 : n ≤ 9223372036854775807) : Ans 30 #[.int .i64 n, .int .i64 4] (.string (fixN n 4)) := by
  intro w
  by_cases h : 0 ≤ n
  · obtain ⟨m, rfl⟩ := Int.eq_ofNat_of_zero_le h
    have e : fixN (m : Int) 4 = fixStr m 4 := by unfold fixN; rw [if_pos h, Int.toNat_natCast]
    rw [e]
    exact implFixed_yes m 4 w (by omega) (by omega) (by omega)
  · have e : fixN n 4 = ⟨#[]⟩ := by unfold fixN; rw [if_neg h]
    rw [e]
    refine (implFixed_no n 4 w (by omega)).mono ?_
    rintro e w' ⟨rfl, rfl⟩
    exact ⟨rfl, Below.refl _ _⟩
theorem specFix4_any (n : Int) (h1 : n ≤ 9223372036854775807) : Ans 37 #[.int .i64 n, .int .i64 4] (.string (fixN n 4)) := by
  intro w
  by_cases h : 0 ≤ n
  · obtain ⟨m, rfl⟩ := Int.eq_ofNat_of_zero_le h
    have e : fixN (m : Int) 4 = fixStr m 4 := by unfold fixN; rw [if_pos h, Int.toNat_natCast]
    rw [e]
    exact specFixed_yes m 4 w (by omega) (by omega) (by omega)
  · have e : fixN n 4 = ⟨#[]⟩ := by unfold fixN; rw [if_neg h]
    rw [e]
    refine (specFixed_no n 4 w (by omega)).mono ?_
    rintro e w' ⟨rfl, rfl⟩
    exact ⟨rfl, Below.refl _ _⟩
theorem implRV_any (s : ByteArray) (hs : s.size ≤ 1048576) (w : World) : Calls Tryz.prog 104 #[.string s] w fun e w' => e = .returned (.tuple #[.int .i64 ((rv s).1 : Nat), .int .i64 ((rv s).2 : Nat)]) ∧ w = w' := by
  refine (implReadVar_any s w hs).mono ?_
  rintro e w' ⟨⟨n, k, rfl, h⟩, hb⟩
  rw [rv_of h]
  exact ⟨rfl, hb⟩
theorem specRV_any (s : ByteArray) (hs : s.size ≤ 1048576) : Ans 88 #[.string s] (.tuple #[.int .i64 ((rv s).1 : Nat), .int .i64 ((rv s).2 : Nat)]) := by
  intro w
  refine (specReadVar_any s w hs).mono ?_
  rintro e w' ⟨⟨n, k, rfl, h⟩, hb⟩
  rw [rv_of h]
  exact ⟨rfl, hb⟩
theorem implRF4_any (s : ByteArray) (hs : s.size ≤ 1048576) (w : World) : Calls Tryz.prog 69 #[.string s, .int .i64 4] w fun e w' => e = .returned (.tuple #[.int .i64 (sumV s : Nat), .bool (!sumF s)]) ∧ w = w' := by
  by_cases h : 4 ≤ s.size
  · have e1 : sumV s = fixVal s 4 := by unfold sumV; rw [if_pos h]
    have e2 : sumF s = false := decide_eq_false (by omega)
    rw [e1, e2]
    exact implReadFixed_yes s 4 w hs (by omega) (by omega) h
  · have e1 : sumV s = 0 := by unfold sumV; rw [if_neg h]
    have e2 : sumF s = true := decide_eq_true (by omega)
    rw [e1, e2]
    exact implReadFixed_no s 4 w hs (by omega)
theorem specRF4_any (s : ByteArray) (hs : s.size ≤ 1048576) : Ans 90 #[.string s, .int .i64 4] (.tuple #[.int .i64 (sumV s : Nat), .bool (!sumF s)]) := by
  intro w
  by_cases h : 4 ≤ s.size
  · have e1 : sumV s = fixVal s 4 := by unfold sumV; rw [if_pos h]
    have e2 : sumF s = false := decide_eq_false (by omega)
    rw [e1, e2]
    refine (specReadFixed_yes s 4 w hs (by omega) (by omega) h).mono ?_
    rintro e w' ⟨rfl, rfl⟩
    exact ⟨rfl, Below.refl _ _⟩
  · have e1 : sumV s = 0 := by unfold sumV; rw [if_neg h]
    have e2 : sumF s = true := decide_eq_true (by omega)
    rw [e1, e2]
    refine (specReadFixed_no s 4 w hs (by omega)).mono ?_
    rintro e w' ⟨rfl, rfl⟩
    exact ⟨rfl, Below.refl _ _⟩

end Go.Proofs.YtimpokbcfjgdaaaGreatDoor
