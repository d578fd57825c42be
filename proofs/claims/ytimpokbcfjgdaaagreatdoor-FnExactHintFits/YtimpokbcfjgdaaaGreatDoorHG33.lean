/-
  A group in a block of the call's own, read and written. The library's contract of the method String of strings.Builder, laid at this seat in plain words. strings.Builder at this seat: its copyCheck and its WriteString, walked; its String by the library's contract. impl.ShowRec: the text of a record, of every kind. impl.SumOf: the sum of records' texts, one behind the other, out of a strings.Builder. impl.recsOf and impl.fitsOwn. spec.l9Of. What waits for its seal: a map by batch whose rows lie apart, and a row of what is kept.
-/
import Derived.Test.YtimpokbcfjgdaaaGreatDoorHMPutG
import Derived.Shelf.Strings.Builder1
import Derived.Test.YtimpokbcfjgdaaaGreatDoorProg
import Derived.Test.YtimpokbcfjgdaaaGreatDoorHG00
import Derived.Lib.Builder
import Derived.Lib.AppendStr
import Derived.Lib.UnsafeStr
import Derived.Laws.Externs
import Derived.Test.YtimpokbcfjgdaaaGreatDoorHMShowImpl
import Derived.Test.YtimpokbcfjgdaaaGreatDoorHG19
import Derived.Test.YtimpokbcfjgdaaaGreatDoorHG29
import Derived.Test.YtimpokbcfjgdaaaGreatDoorHG21
import Derived.Maps.Ext
import Derived.Maps.OwnOps
import Derived.Maps.OwnSet
import Derived.Maps.Views
import Derived.Maps.Keyed
namespace Go.Proofs.YtimpokbcfjgdaaaGreatDoor
open Go.RowKit
open Plain

/-- Block B is a group of the call's own: its directory in a row of the call's own. -/
def GBox (w : World) (base B : Nat) (x : GroupV) : Prop := ∃ a n c, w.heap[B]? = some (.cells #[.slice a n c, .int .i64 x.last, .int .i64 x.code] 47 (0, 0)) ∧ entSh.Own 71 w base (.slice a n c) x.dir
theorem cells3 {w : World} {B : Nat} {x0 x1 x2 : Value} {ty : TypeId} (h : w.heap[B]? = some (.cells #[x0, x1, x2] ty (0, 0))) :
    w.cell? ⟨B, 0, none⟩ = some x0 ∧ w.cell? ⟨B, 1, none⟩ = some x1 ∧ w.cell? ⟨B, 2, none⟩ = some x2 ∧ w.frozen? ⟨B, 0, none⟩ = false ∧ w.frozen? ⟨B, 1, none⟩ = false ∧ w.frozen? ⟨B, 2, none⟩ = false := by
  have hf : ∀ j, w.frozen? ⟨B, j, none⟩ = false := fun j => by simp [World.frozen?, h]
  refine ⟨?_, ?_, ?_, hf 0, hf 1, hf 2⟩ <;> rw [cell_of_row w B _ _ _ _ h] <;> rfl
theorem ent_off {w : World} {base B : Nat} {cs : Array Value} {T : TypeId} {fr : Nat × Nat} {v : Value} {xs : List EntV} (ho : entSh.Own 71 w base v xs) (hb : w.heap[B]? = some (.cells cs T fr)) (hT : T ≠ 71) : v.ownBlock ≠ some B := by
  intro e
  rcases ho.2 with ⟨e1, _⟩ | ⟨g', c, cur, e1, _, hg', _⟩
  · rw [e1] at e; cases e
  · rw [e1] at e
    cases e
    rw [hb] at hg'
    cases hg'
    exact hT rfl
theorem GBox.new {w : World} {base : Nat} {a : Option Addr} {n c : Nat} {x : GroupV} (h : entSh.Own 71 w base (.slice a n c) x.dir) : GBox (w.alloc (.cells #[.slice a n c, .int .i64 x.last, .int .i64 x.code] 47)) base w.heap.size x :=
  ⟨a, n, c, heap_alloc_new w _, h.later (al1 _ _) (Nat.le_refl _)⟩
theorem set3 {w : World} {B : Nat} {x0 x1 x2 y0 y1 y2 : Value} {T : TypeId} (h : w.heap[B]? = some (.cells #[x0, x1, x2] T (0, 0))) : (((w.setCell ⟨B, 0, none⟩ y0).setCell ⟨B, 1, none⟩ y1).setCell ⟨B, 2, none⟩ y2).heap[B]? = some (.cells #[y0, y1, y2] T (0, 0)) := by simp [World.setCell, Array.getElem?_modify, h]
theorem set3_own {w : World} {base B : Nat} {y0 y1 y2 v : Value} {xs : List EntV} (h : entSh.Own 71 w base v xs) (hne : v.ownBlock ≠ some B) : entSh.Own 71 (((w.setCell ⟨B, 0, none⟩ y0).setCell ⟨B, 1, none⟩ y1).setCell ⟨B, 2, none⟩ y2) base v xs := ((h.setNe ⟨B, 0, none⟩ _ hne).setNe ⟨B, 1, none⟩ _ hne).setNe ⟨B, 2, none⟩ _ hne
theorem GBox.set {w : World} {base B : Nat} {x0 x1 x2 : Value} {a : Option Addr} {n c : Nat} {x : GroupV} (hb : w.heap[B]? = some (.cells #[x0, x1, x2] 47 (0, 0))) (h : entSh.Own 71 w base (.slice a n c) x.dir) : GBox (((w.setCell ⟨B, 0, none⟩ (.slice a n c)).setCell ⟨B, 1, none⟩ (.int .i64 x.last)).setCell ⟨B, 2, none⟩ (.int .i64 x.code)) base B x :=
  ⟨a, n, c, set3 hb, set3_own h (ent_off h hb (by decide))⟩
theorem box0_set {w : World} {B : Nat} {x y z u : Value} {T : TypeId} (h : w.heap[B]? = some (.cells #[x, y, z] T (0, 0))) : (w.setCell ⟨B, 0, none⟩ u).heap[B]? = some (.cells #[u, y, z] T (0, 0)) := by simp [World.setCell, Array.getElem?_modify, h]
theorem box2_set {w : World} {B : Nat} {x y z u : Value} {T : TypeId} (h : w.heap[B]? = some (.cells #[x, y, z] T (0, 0))) : (w.setCell ⟨B, 2, none⟩ u).heap[B]? = some (.cells #[x, y, u] T (0, 0)) := by simp [World.setCell, Array.getElem?_modify, h]
theorem stepG_seal {pre : List PlaceV} {x : GroupV} {p : PlaceV} (hc : x.code = 0) (h3 : p.r.kind = 3) : stepG pre x p = if fitsP p.r (ofB pre p.r.batch) = true then fitG x (ofB pre p.r.batch) (max x.last p.r.batch) else ⟨x.dir, max x.last p.r.batch, 0⟩ := by unfold stepG; rw [if_pos hc, if_pos h3]
theorem stepG_mark {pre : List PlaceV} {x : GroupV} {p : PlaceV} (hc : x.code = 0) (h5 : p.r.kind = 5) : stepG pre x p = if fitsP p.r (keptP pre) = true then fitG x (keptP pre) (max x.last p.r.batch) else ⟨x.dir, max x.last p.r.batch, 1⟩ := by unfold stepG; rw [if_pos hc, if_neg (by rw [h5]; decide), if_pos h5]
theorem stepG_rest {pre : List PlaceV} {x : GroupV} {p : PlaceV} (hc : x.code = 0) (h3 : ¬ p.r.kind = 3) (h5 : ¬ p.r.kind = 5) : stepG pre x p = ⟨x.dir, max x.last p.r.batch, 0⟩ := by unfold stepG; rw [if_pos hc, if_neg h3, if_neg h5]

end Go.Proofs.YtimpokbcfjgdaaaGreatDoor
namespace Go.Proofs
open Go.Shelf
def Tryz.lays169_ren : Go.Shelf.Ren := ⟨fun | 169 => 32 | n => n, fun | 70 => 62 | 9 => 9 | 0 => 0 | 72 => 64 | 37 => 22 | 127 => 111 | 3 => 3 | 5 => 5 | n => n, fun | n => n⟩
theorem Tryz.lays169 : Go.Proofs.Lays.n169 Tryz.prog Tryz.lays169_ren := {
  mixed := by kernel_rfl
  f169 := Tryz.func32.trans (congrArg some (by kernel_rfl))
  t0 := Tryz.underlying0
  a0 := Tryz.isAgg0
  z0 := Tryz.sizeOf0
  v0 := Tryz.zeroValue0
  t3 := Tryz.underlying3
  a3 := Tryz.isAgg3
  z3 := Tryz.sizeOf3
  v3 := Tryz.zeroValue3
  t9 := Tryz.underlying9
  a9 := Tryz.isAgg9
  z9 := Tryz.sizeOf9
  v9 := Tryz.zeroValue9
  t37 := Tryz.underlying22
  a37 := Tryz.isAgg22
  z37 := Tryz.sizeOf22
  v37 := Tryz.zeroValue22
  t70 := Tryz.underlying62
  a70 := Tryz.isAgg62
  z70 := Tryz.sizeOf62
  v70 := Tryz.zeroValue62
  t72 := Tryz.underlying64
  a72 := Tryz.isAgg64
  z72 := Tryz.sizeOf64
  v72 := Tryz.zeroValue64
  t127 := Tryz.underlying111
  a127 := Tryz.isAgg111
  z127 := Tryz.sizeOf111
  v127 := Tryz.zeroValue111 }
theorem Tryz.Builder_Extra_169 : Builder.Extra Tryz.prog Tryz.lays169_ren := {
  sizeBuilder := by kernel_rfl
  liesBuilder := by kernel_rfl
  t5 := Tryz.underlying5
  a5 := Tryz.isAgg5
  z5 := Tryz.sizeOf5
  v5 := Tryz.zeroValue5
  infoByte := by kernel_rfl
  cellsByte := by kernel_rfl
  sizeByte := by kernel_rfl
  neB5 := by decide }
open Go.RowKit in
theorem Tryz.Builder_String (B b : Nat) (l : List UInt8) (w : World) (h : Lib.IsBuilder 64 5 B b (Lib.byteCells l) w) (h0 : l ≠ []) :
    Calls Tryz.prog 32 #[.pointer (some ⟨b, 0, none⟩)] w fun e w' => e = .returned (.string ⟨l.toArray⟩) ∧ Below B w w' := Any.Builder_String Tryz.lays169 Tryz.Builder_Extra_169 B b l w h h0
open Go.RowKit in
theorem Tryz.Builder_String_empty (B b : Nat) (w : World) (h : Lib.IsBuilder 64 5 B b [] w) (hBw : B ≤ w.heap.size) :
    Calls Tryz.prog 32 #[.pointer (some ⟨b, 0, none⟩)] w fun e w' => e = .returned (.string ⟨#[]⟩) ∧ Below B w w' := Any.Builder_String_empty Tryz.lays169 Tryz.Builder_Extra_169 B b w h hBw
open Go.RowKit in
theorem Tryz.Builder_String_any (B b : Nat) (l : List UInt8) (w : World) (h : Lib.IsBuilder 64 5 B b (Lib.byteCells l) w) (hBw : B ≤ w.heap.size) :
    Calls Tryz.prog 32 #[.pointer (some ⟨b, 0, none⟩)] w fun e w' => e = .returned (.string ⟨l.toArray⟩) ∧ Below B w w' := Any.Builder_String_any Tryz.lays169 Tryz.Builder_Extra_169 B b l w h hBw
end Go.Proofs
namespace Go.Proofs.YtimpokbcfjgdaaaGreatDoor
open Go.RowKit
open Plain

theorem bldSize : (Tryz.prog.info? 64).map (·.size) = some 2 := by kernel_rfl
theorem bldLies : liesAt Tryz.prog Tryz.prog.depth 64 (2 / Tryz.prog.cellsOf 64) 0 64 1 = true := by kernel_rfl
theorem bldByte : (Tryz.prog.info? 5).map (fun i => (i.zero, i.size, i.bytes)) = some (some (.int .u8 0), 1, 1) := by kernel_rfl

set_option maxHeartbeats 1000000 in
set_option maxRecDepth 100000 in
/-- copyCheck leaves a builder that knows its own place, with what it held. -/
theorem bldCheck_any (B b : Nat) (bs : List Value) (w : World) (h : Lib.IsBuilder 64 5 B b bs w) :
    Calls Tryz.prog 66 #[.pointer (some ⟨b, 0, none⟩)] w fun e w' => e = .returned (.tuple #[]) ∧ Lib.BuilderAt 64 5 B b (.pointer (some ⟨b, 0, none⟩)) bs w' ∧ Below B w w' := by
  obtain ⟨j, hj, hjs⟩ := Option.map_eq_some_iff.1 bldSize
  rcases h with h | h
  · have HE := hide (h.used (.pointer (some ⟨b, 0, none⟩)))
    have HB := hide ((Below.refl B w).setCell (p := ⟨b, 0, none⟩) h.1 (.pointer (some ⟨b, 0, none⟩)))
    have d0 := h.cell0
    have f0 := h.frozen0
    have c1 := Lib.run_to_unsafe (P := Tryz.prog) w ⟨b, 0, none⟩ Tryz.underlying62 Tryz.underlying150 hj (by rw [hjs]; decide) h.shape (Nat.zero_lt_succ 1)
    have c2 := @run_callFunc_extern Tryz.prog 103 _ Extern.AbiNoEscape.same Tryz.func103 (by kernel_rfl) (by kernel_rfl) (by kernel_rfl) (by kernel_rfl)
    have c3 : ∀ x, (Extern.AbiNoEscape.same #[x]).run Tryz.prog w = .ok x w := fun x => Lib.run_noEscape w x
    have c4 := Lib.run_from_unsafe (P := Tryz.prog) w ⟨b, 0, none⟩ Tryz.underlying150 Tryz.underlying62 hj h.shape bldLies
    clear h
    go_enter Tryz.func66, Tryz.ntmps66
    go_wp2
    go_end0
    exact ⟨rfl, HE.out, HB.out⟩
  · have HE := hide h
    have d0 := h.cell0
    have c1 := Lib.run_neq_ptr_same (P := Tryz.prog) w ⟨b, 0, none⟩ Tryz.underlying62 hj
    clear h
    go_enter Tryz.func66, Tryz.ntmps66
    go_wp2
    go_end0
    exact ⟨rfl, HE.out, Below.refl B _⟩

/-- A row of bytes of the call's own, grown, is put into the builder's block. -/
theorem bld_grown {B b : Nat} {v v' : Value} {bs cs : List Value} {w1 w2 : World} (hB : B ≤ b) (hbk : w1.heap[b]? = some (.cells #[.pointer (some ⟨b, 0, none⟩), v] 64 (0, 0))) (hown : w1.ownsRow B 5 1 v bs.length bs) (hne : v.ownBlock ≠ some b) (hown' : w2.ownsRow B 5 1 v' cs.length cs) (hg : w1.grownBy w2 v.ownBlock) (hBw : B ≤ w1.heap.size) :
    w2.heap[b]? = some (.cells #[.pointer (some ⟨b, 0, none⟩), v] 64 (0, 0)) ∧ Lib.BuilderAt 64 5 B b (.pointer (some ⟨b, 0, none⟩)) cs (w2.setCell ⟨b, 1, none⟩ v') ∧ Below B w1 (w2.setCell ⟨b, 1, none⟩ v') := by
  have h2 := (hg.block b (Array.getElem?_eq_some_iff.1 hbk).1 (fun e => hne e.symm)).trans hbk
  exact ⟨h2, Lib.BuilderAt.put hB h2 hown' (by decide), ((Below.refl B w1).grown hg hBw (fun k hk => (hown.lt k hk).1)).setCell (p := ⟨b, 1, none⟩) hB _⟩

set_option maxHeartbeats 2000000 in
set_option maxRecDepth 100000 in
/-- WriteString puts a text behind what the builder holds. -/
theorem bldWrite_any (B b : Nat) (bs : List Value) (s : ByteArray) (w : World) (h : Lib.IsBuilder 64 5 B b bs w) (hlen : bs.length + s.size ≤ 140737488355328) (hBw : B ≤ w.heap.size) :
    Calls Tryz.prog 27 #[.pointer (some ⟨b, 0, none⟩), .string s] w fun e w' => e = .returned (.tuple #[.int .i64 s.size, .nilIface]) ∧ (Lib.BuilderAt 64 5 B b (.pointer (some ⟨b, 0, none⟩)) (bs ++ Lib.strCells s) w' ∧ Below B w w') := by
  obtain ⟨i0, hi, hz0, hz1, hz2⟩ := info_parts bldByte
  have HC := hide (bldCheck_any B b bs w h)
  clear h
  go_enter Tryz.func27, Tryz.ntmps27
  go_wp2_with fail
  refine HC.out.mono ?_
  rintro e w1 ⟨rfl, ⟨hB, v, hbk, hown, hne⟩, hb1⟩
  have HK := hide hbk
  have HO := hide hown
  have HN := hide hne
  have HB1 := hide hb1
  have hs1 : B ≤ w1.heap.size := Nat.le_trans hBw hb1.size
  have d0 : w1.cell? ⟨b, 0, none⟩ = _ := cell_of_row w1 _ 0 _ _ _ hbk
  have d1 : w1.cell? ⟨b, 1, none⟩ = _ := cell_of_row w1 _ 1 _ _ _ hbk
  clear hbk hown hne hb1 HC
  go_wp2_with (at_builtin; refine Lib.wpList_append_own_string _ rfl _ _ 22 9 rfl B 5 i0 Tryz.underlying22 Tryz.underlying9 hi hz0 hz1 hz2 _ _ _ rfl HO.out s rfl (by unfold maxLen; omega) hlen hs1 ?_; intro v' w2 ho2 hg2 _; have HG := hide (bld_grown (cs := bs ++ Lib.strCells s) hB HK.out HO.out HN.out (by simpa [Lib.strCells_length] using ho2) hg2 hs1); obtain ⟨ao, n', cap, rfl⟩ : ∃ ao n' cap, v' = .slice ao n' cap := (by rcases ho2.2 with ⟨e, _⟩ | ⟨_, _, _, e, _⟩ <;> exact ⟨_, _, _, e⟩); have y0 : w2.cell? ⟨b, 0, none⟩ = _ := cell_of_row w2 _ 0 _ _ _ HG.out.1; have y1 : w2.cell? ⟨b, 1, none⟩ = _ := cell_of_row w2 _ 1 _ _ _ HG.out.1; have g1 := Lib.frozen_of_heap HG.out.1 1; clear ho2 hg2)
  go_ret2
  exact ⟨rfl, HG.out.2.1, HB1.out.trans HG.out.2.2⟩

/-- What it holds, as a text. -/
theorem bldString_any (B b : Nat) (t : ByteArray) (w : World) (h : Lib.IsBuilder 64 5 B b (Lib.strCells t) w) (hBw : B ≤ w.heap.size) :
    Calls Tryz.prog 32 #[.pointer (some ⟨b, 0, none⟩)] w fun e w' => e = .returned (.string t) ∧ Below B w w' := Tryz.Builder_String_any B b t.data.toList w h hBw

theorem bld_later {B b : Nat} {p : Value} {bs : List Value} {w w' : World} (h : Lib.BuilderAt 64 5 B b p bs w) (hb : Below w.heap.size w w') : Lib.BuilderAt 64 5 B b p bs w' := by
  have hlt := h.lt
  obtain ⟨hB, v, hbk, hown, hne⟩ := h
  refine ⟨hB, v, (hb.block b hlt).trans hbk, ⟨hown.1, ?_⟩, hne⟩
  rcases hown.2 with h | ⟨g, c, cur, e, hbg, hg, h1⟩
  · exact .inl h
  · exact .inr ⟨g, c, cur, e, hbg, (hb.block g (Array.getElem?_eq_some_iff.1 hg).1).trans hg, h1⟩

end Go.Proofs.YtimpokbcfjgdaaaGreatDoor
namespace Go.Proofs.YtimpokbcfjgdaaaGreatDoor
open Go.RowKit
open Plain

set_option maxRecDepth 100000 in
set_option maxHeartbeats 4000000 in
theorem show_right (k b : Int) (key val : ByteArray) (c s : Int) (t : TypeId) (v : Value) (body : ByteArray) (hz : body.size ≤ 1048576) (w : World)
    (hO : Ans 130 #[.agg #[.int .i64 k, .int .i64 b, .string key, .string val, .int .i64 c, .int .i64 s]] (.bool true))
    (hB : Ans 136 #[.agg #[.int .i64 k, .int .i64 b, .string key, .string val, .int .i64 c, .int .i64 s]] (.iface t v)) (hS : Ans 139 #[.iface t v] (.string body)) :
    Calls Tryz.prog 131 #[.agg #[.int .i64 k, .int .i64 b, .string key, .string val, .int .i64 c, .int .i64 s]] w fun e w' => e = .returned (.string (varS k ++ varS b ++ body)) ∧ Below w.heap.size w w' := by
  have HA := hide (RecAt.new w k b key val c s)
  have HK := hide (implVar_any k)
  have HBt := hide (implVar_any b)
  have HO := hide hO
  have HB := hide hB
  have HS := hide hS
  have z1 := varS_size k
  have z2 := varS_size b
  have z3 : ¬ 9223372036854775807 < (varS k).size + (varS b).size := by omega
  have z4 : ¬ 9223372036854775807 < (varS k).size + (varS b).size + body.size := by omega
  have z5 : ¬ 9223372036854775807 < (varS k ++ varS b).size + body.size := by rw [ByteArray.size_append]; omega
  clear hO hB hS z1 z2 hz
  generalize varS k = vk at *
  generalize varS b = vb at *
  go_enter Tryz.func131, Tryz.ntmps131
  go_wp2_with fail
  refine (HO.out _).mono ?_
  rintro e w1 ⟨rfl, hb1⟩
  have hS1 := (HA.out.later hb1.drew).cells
  clear HA hb1
  go_wp2
  go_region_held3 (fun w' => w'.cell? ⟨w.heap.size, 0, none⟩ = some (.int .i64 k) ∧ w'.cell? ⟨w.heap.size, 1, none⟩ = some (.int .i64 b) ∧ w'.cell? ⟨w.heap.size, 2, none⟩ = some (.string key) ∧ w'.cell? ⟨w.heap.size, 3, none⟩ = some (.string val) ∧ w'.cell? ⟨w.heap.size, 4, none⟩ = some (.int .i64 c) ∧ w'.cell? ⟨w.heap.size, 5, none⟩ = some (.int .i64 s) ∧ Hid (RecAt w w.heap.size k b key val c s w')) (assumption) (first
    | (go_at_call_of 28 (Value.int IntKind.i64 k); refine (RecAt.keep HK.out _ hS1.2.2.2.2.2.2).mono ?_; rintro e w2 ⟨rfl, hk2⟩; have hS2 := hk2.cells)
    | (go_at_call_of 28 (Value.int IntKind.i64 b); refine (RecAt.keep HBt.out _ hS2.2.2.2.2.2.2).mono ?_; rintro e w3 ⟨rfl, hk3⟩; have hS3 := hk3.cells)
    | (go_at_call 136; refine (RecAt.keep HB.out _ hS3.2.2.2.2.2.2).mono ?_; rintro e w4 ⟨rfl, hk4⟩; have hS4 := hk4.cells)
    | (go_at_call 139; refine (RecAt.keep HS.out _ hS4.2.2.2.2.2.2).mono ?_; rintro e w5 ⟨rfl, hk5⟩; have hS5 := hk5.cells))
  have HBl := hide hk5.bel
  clear hS5 hk5 hS4 hk4 hS3 hk3 hS2 hk2 hS1 HK HBt HO HB HS
  go_wp2
  go_ret
  exact ⟨rfl, HBl.out⟩

set_option maxRecDepth 100000 in
set_option maxHeartbeats 4000000 in
theorem show_wrong (k b : Int) (key val : ByteArray) (c s : Int) (w : World)
    (hO : Ans 130 #[.agg #[.int .i64 k, .int .i64 b, .string key, .string val, .int .i64 c, .int .i64 s]] (.bool false)) :
    Calls Tryz.prog 131 #[.agg #[.int .i64 k, .int .i64 b, .string key, .string val, .int .i64 c, .int .i64 s]] w fun e w' => e = .returned (.string ⟨#[]⟩) ∧ Below w.heap.size w w' := by
  have HA := hide (RecAt.new w k b key val c s)
  have HO := hide hO
  clear hO
  go_enter Tryz.func131, Tryz.ntmps131
  go_wp2_with fail
  refine (HO.out _).mono ?_
  rintro e w1 ⟨rfl, hb1⟩
  have HB := hide (HA.out.later hb1).bel
  clear HA hb1 HO
  go_wp2
  go_ret
  exact ⟨rfl, HB.out⟩

theorem implShow_any (r : RecV) : Ans 131 #[.agg #[.int .i64 r.kind, .int .i64 r.batch, .string r.key, .string r.val, .int .i64 r.cnt, .int .i64 r.sum]] (.string (showS r)) := by
  intro w
  have hO := implRecOk_any r
  cases h : recOkB r with
  | false =>
    rw [h] at hO
    rw [show_none r h]
    exact show_wrong _ _ _ _ _ _ w hO
  | true =>
    rw [h] at hO
    obtain ⟨k, b, key, val, c, s⟩ := r
    have hok : RecOkP k b key.size val.size c s := okN_iff.1 h
    have e : showS ⟨k, b, key, val, c, s⟩ = varS k ++ varS b ++ bodyS k key val c s := if_pos h
    rw [e]
    simp only
    unfold RecOkP at hok
    by_cases k1 : k = 1
    · subst k1
      have e1 : bodyS 1 key val c s = textS key ++ textS val := if_pos (Or.inl rfl)
      rw [e1]
      have z1 := textS_size key
      have z2 := textS_size val
      exact show_right 1 b key val c s _ _ _ (by rw [ByteArray.size_append]; omega) w hO (fun W => bodyOf_1 b key val c s W) (showBody_1 key val (by omega) (by omega))
    by_cases k4 : k = 4
    · subst k4
      have e1 : bodyS 4 key val c s = textS key ++ textS val := if_pos (Or.inr rfl)
      rw [e1]
      have z1 := textS_size key
      have z2 := textS_size val
      exact show_right 4 b key val c s _ _ _ (by rw [ByteArray.size_append]; omega) w hO (fun W => bodyOf_4 b key val c s W) (showBody_4 key val (by omega) (by omega))
    by_cases k2 : k = 2
    · subst k2
      have e1 : bodyS 2 key val c s = textS key := by unfold bodyS; rw [if_neg (by omega), if_pos rfl]
      rw [e1]
      have z1 := textS_size key
      exact show_right 2 b key val c s _ _ _ (by omega) w hO (fun W => bodyOf_2 b key val c s W) (showBody_2 key (by omega))
    have e1 : bodyS k key val c s = totS c s := by unfold bodyS; rw [if_neg (by omega), if_neg k2]
    rw [e1]
    have z1 := totS_size c s
    by_cases k3 : k = 3
    · subst k3
      exact show_right 3 b key val c s _ _ _ (by omega) w hO (fun W => bodyOf_3 b key val c s W) (showBody_3 c s (by omega))
    · obtain rfl : k = 5 := by omega
      exact show_right 5 b key val c s _ _ _ (by omega) w hO (fun W => bodyOf_5 b key val c s W) (showBody_5 c s (by omega))

end Go.Proofs.YtimpokbcfjgdaaaGreatDoor
namespace Go.Proofs.YtimpokbcfjgdaaaGreatDoor
open Go.RowKit
open Plain

theorem isb_later {B b : Nat} {bs : List Value} {w w' : World} (h : Lib.IsBuilder 64 5 B b bs w) (hb : Below w.heap.size w w') : Lib.IsBuilder 64 5 B b bs w' := by
  rcases h with h | h
  · exact .inl (bld_later h hb)
  · exact .inr (bld_later h hb)
theorem strCells_append (s t : ByteArray) : Lib.strCells (s ++ t) = Lib.strCells s ++ Lib.strCells t := by
  unfold Lib.strCells
  rw [ByteArray.data_append, Array.toList_append, List.map_append]

set_option maxRecDepth 100000 in
set_option maxHeartbeats 2000000 in
theorem implSumOf_any (w : World) (ht : STab w) (a : Option Addr) (n cap : Nat) (xs : List RecV) (hr : recSh.Row w a n xs) (hn : n ≤ 1048576) :
    Calls Tryz.prog 120 #[.slice a n cap] w fun e w' => e = .returned (.int .i64 (crcN (cat xs) : Nat)) ∧ Below w.heap.size w w' := by
  have HR := hide hr
  have hlen := hr.len
  have HT := hide ht
  have HF := hide (Lib.fresh_isBuilder 64 5 w)
  clear hr ht
  go_enter Tryz.func120, Tryz.ntmps120
  go_wp2
  go_loopw [8] (fun x wr => ∃ k : Nat, k ≤ n ∧ x = .int .i64 k ∧ Hid (Lib.IsBuilder 64 5 w.heap.size w.heap.size (Lib.strCells (cat (xs.take k))) wr) ∧ Hid (Below w.heap.size w wr)) (fun x _ => n - (intOf x).toNat)
  case atStart => exact ⟨0, by omega, rfl, HF, hide (al1 w _)⟩
  case round =>
    clear HF
    obtain ⟨k, hk, rfl, HI, HB⟩ := hrel
    have hcs := cat_size xs k (by omega)
    by_cases hlt : k < n
    · have hkx : k < xs.length := by omega
      obtain ⟨b, off, rfl, hbw, c0, c1, c2, c3, c4, c5⟩ := rec_cells (HR.out.later HB.out) k hkx
      have HSH := hide (implShow_any (xs[k]))
      have h60 := show_size' (xs[k])
      have HC : Hid (cat (xs.take (k + 1)) = cat (xs.take k) ++ showS (xs[k])) := hide (cat_succ xs k hkx)
      generalize showS (xs[k]) = S at *
      generalize cat (xs.take k) = A at *
      have hk2 : (k : Int) < (n : Int) := by omega
      go_wp2_with fail
      refine (HSH.out _).mono ?_
      rintro e w1 ⟨rfl, hb1⟩
      have hb2 : Below wr.heap.size wr w1 := (al1 wr _).trans (hb1.mono (al1 wr _).size)
      have HB1 := hide (HB.out.trans (hb2.mono HB.out.size))
      have HI1 := hide (isb_later HI.out hb2)
      have HW := hide (bldWrite_any w.heap.size w.heap.size (Lib.strCells A) S w1 HI1.out (by rw [Lib.strCells_length]; omega) HB1.out.size)
      clear hb1 hb2 HB HSH HI HI1 c0 c1 c2 c3 c4 c5
      go_wp2_with fail
      refine HW.out.mono ?_
      rintro e w2 ⟨rfl, hI2, hb2⟩
      have HB2 := hide (HB1.out.trans hb2)
      have HI2 : Hid (Lib.IsBuilder 64 5 w.heap.size w.heap.size (Lib.strCells (cat (xs.take (k + 1)))) w2) := hide (by rw [HC.out, strCells_append]; exact .inr hI2)
      clear hb2 hI2 HW HB1
      go_wp2
      go_roundw
      case rel => exact ⟨k + 1, by omega, by go_num, HI2, HB2⟩
      case measure => first | (simp [intOf]; done) | (simp [intOf]; omega)
    · obtain rfl : k = n := by omega
      have HE : Hid (cat (xs.take k) = cat xs) := hide (by rw [List.take_of_length_le (by omega)])
      have hz : (cat xs).size ≤ 1099511627776 := by rw [← HE.out]; omega
      have HS := hide (bldString_any w.heap.size w.heap.size (cat xs) wr (by rw [← HE.out]; exact HI.out) HB.out.size)
      clear hlt hcs
      go_wp2_with fail
      refine HS.out.mono ?_
      rintro e w1 ⟨rfl, hb1⟩
      have HB1 := hide (HB.out.trans hb1)
      have HC := hide (implCrc_any (cat xs) w1 hz (HT.out.later HB1.out))
      clear hb1 HB HS HI
      go_wp2_with fail
      refine HC.out.mono ?_
      rintro e w2 ⟨rfl, hb2⟩
      have HB2 := hide (HB1.out.trans (hb2.mono HB1.out.size))
      clear hb2 HC HB1
      go_wp2
      go_ret
      exact ⟨rfl, HB2.out⟩

end Go.Proofs.YtimpokbcfjgdaaaGreatDoor
namespace Go.Proofs.YtimpokbcfjgdaaaGreatDoor
open Go.RowKit
open Plain

set_option maxRecDepth 100000 in
set_option maxHeartbeats 1000000 in
theorem implRecs_any (w : World) (a : Option Addr) (n cap : Nat) (xs : List PlaceV) (hr : plSh.Row w a n xs) (hn : n ≤ 1048576) :
    Calls Tryz.prog 121 #[.slice a n cap] w fun e w' => (∃ a' n' cap', e = .returned (.slice a' n' cap') ∧ recSh.Own 41 w' w.heap.size (.slice a' n' cap') (xs.map PlaceV.r)) ∧ Below w.heap.size w w' := by
  have hlen := hr.len
  have HR := hide hr
  clear hr
  go_enter Tryz.func121, Tryz.ntmps121
  go_wp2
  go_loopw [3, 8] (fun v i wr => ∃ (k : Nat) (a' : Option Addr) (n' c' : Nat), k ≤ n ∧ v = .slice a' n' c' ∧ i = .int .i64 k ∧ Hid (recSh.Own 41 wr w.heap.size (.slice a' n' c') ((xs.take k).map PlaceV.r)) ∧ Hid (Below w.heap.size w wr)) (fun _ i _ => n - (intOf i).toNat)
  case atStart => exact ⟨0, none, 0, 0, by omega, rfl, rfl, hide (Shape.Own.nil recSh 41 w _), hide (Below.refl _ _)⟩
  case round =>
    obtain ⟨k, a', n', c', hk, rfl, rfl, HO, HB⟩ := hrel
    by_cases hlt : k < n
    · have hkf : k < xs.length := by omega
      obtain ⟨b, off, rfl, hbw, e0, e1, e2, e3, e4, e5, e6, e7, e8⟩ := pl_cells (HR.out.later HB.out) k hkf
      have HE : Hid ((xs.take (k + 1)).map PlaceV.r = (xs.take k).map PlaceV.r ++ [(xs[k]).r]) := hide (by rw [take_snoc xs k hkf, List.map_append]; rfl)
      have hl : ((xs.take k).map PlaceV.r).length ≤ 1048576 := by rw [List.length_map, List.length_take]; omega
      obtain ⟨z, hz⟩ : ∃ z, xs[k] = z := ⟨_, rfl⟩
      rw [hz] at e0 e1 e2 e3 e4 e5 e6 e7 e8 HE
      clear hz
      have HBA := hide (HB.out.alloc HB.out.size (.cells #[.int .i64 z.seg, .int .i64 z.pos, .int .i64 z.len, .int .i64 z.r.kind, .int .i64 z.r.batch, .string z.r.key, .string z.r.val, .int .i64 z.r.cnt, .int .i64 z.r.sum] 45))
      have HOA := hide (HO.out.later (al1 wr (.cells #[.int .i64 z.seg, .int .i64 z.pos, .int .i64 z.len, .int .i64 z.r.kind, .int .i64 z.r.batch, .string z.r.key, .string z.r.val, .int .i64 z.r.cnt, .int .i64 z.r.sum] 45)) (Nat.le_refl _))
      go_wp2_with (at_builtin; refine wpList_app_rec rfl _ _ rfl z.r HOA.out HBA.out.size (by omega) rfl rfl (World.size_alloc _ _) ?_; intro a3 n3 cap3 w3 hn3 ho3 hb3; clear hn3)
      have HO3 := hide ho3
      have HB3 := hide (HBA.out.trans hb3)
      clear ho3 hb3 HO HB HOA HBA
      go_roundw
      case rel => exact ⟨k + 1, a3, n3, cap3, by omega, rfl, by go_num, by rw [HE.out]; exact HO3, HB3⟩
      case measure => first | (simp [intOf]; done) | (simp [intOf]; omega)
    · obtain rfl : k = n := by omega
      have HT : Hid (xs.take k = xs) := hide (List.take_of_length_le (by omega))
      go_wp2
      go_ret
      exact ⟨⟨a', n', c', rfl, by have h := HO.out; rw [HT.out] at h; exact h⟩, HB.out⟩

set_option maxRecDepth 100000 in
set_option maxHeartbeats 2000000 in
theorem implFits_any (w : World) (ht : STab w) (a : Option Addr) (n cap : Nat) (xs : List PlaceV) (hr : plSh.Row w a n xs) (hn : n ≤ 1048576) (r : RecV) :
    Calls Tryz.prog 113 #[.agg #[.int .i64 r.kind, .int .i64 r.batch, .string r.key, .string r.val, .int .i64 r.cnt, .int .i64 r.sum], .slice a n cap] w fun e w' => e = .returned (.bool (fitsP r xs)) ∧ Below w.heap.size w w' := by
  have hlen := hr.len
  have HB0 := hide (al1 w (.cells #[.int .i64 r.kind, .int .i64 r.batch, .string r.key, .string r.val, .int .i64 r.cnt, .int .i64 r.sum] 41))
  by_cases h1 : r.cnt = (n : Int)
  · have t1 := ieq _ _ h1
    have HK : Hid (∀ W, Below (w.alloc (.cells #[.int .i64 r.kind, .int .i64 r.batch, .string r.key, .string r.val, .int .i64 r.cnt, .int .i64 r.sum] 41)).heap.size (w.alloc (.cells #[.int .i64 r.kind, .int .i64 r.batch, .string r.key, .string r.val, .int .i64 r.cnt, .int .i64 r.sum] 41)) W → W.cell? ⟨w.heap.size, 4, none⟩ = some (.int .i64 r.cnt) ∧ W.cell? ⟨w.heap.size, 5, none⟩ = some (.int .i64 r.sum) ∧ Hid (Below (w.alloc (.cells #[.int .i64 r.kind, .int .i64 r.batch, .string r.key, .string r.val, .int .i64 r.cnt, .int .i64 r.sum] 41)).heap.size (w.alloc (.cells #[.int .i64 r.kind, .int .i64 r.batch, .string r.key, .string r.val, .int .i64 r.cnt, .int .i64 r.sum] 41)) W)) := hide (fun W h => by
      have h0 := (h.block w.heap.size (by simp)).trans (heap_alloc_new w _)
      refine ⟨?_, ?_, hide h⟩ <;> rw [cell_of_row _ _ _ _ _ _ h0] <;> rfl)
    have HRS : Hid (∀ W, Below (w.alloc (.cells #[.int .i64 r.kind, .int .i64 r.batch, .string r.key, .string r.val, .int .i64 r.cnt, .int .i64 r.sum] 41)).heap.size (w.alloc (.cells #[.int .i64 r.kind, .int .i64 r.batch, .string r.key, .string r.val, .int .i64 r.cnt, .int .i64 r.sum] 41)) W → _) := hide (fun W (hW : Below (w.alloc (.cells #[.int .i64 r.kind, .int .i64 r.batch, .string r.key, .string r.val, .int .i64 r.cnt, .int .i64 r.sum] 41)).heap.size (w.alloc (.cells #[.int .i64 r.kind, .int .i64 r.batch, .string r.key, .string r.val, .int .i64 r.cnt, .int .i64 r.sum] 41)) W) => implRecs_any W a n cap xs ((hr.later HB0.out).later hW) hn)
    have hml : (xs.map PlaceV.r).length = n := by rw [List.length_map]; exact hlen
    have HSM := hide (fun W (hT : STab W) a' c' (h : recSh.Row W a' n (xs.map PlaceV.r)) => implSumOf_any W hT a' n c' (xs.map PlaceV.r) h hn)
    have HT0 := hide (ht.later HB0.out)
    have HV : Hid (fitsP r xs = (r.sum == ((crcN (cat (xs.map PlaceV.r)) : Nat) : Int))) := hide (by
      unfold fitsP
      rw [hlen]
      by_cases h2 : r.sum = ((crcN (cat (xs.map PlaceV.r)) : Nat) : Int)
      · rw [ieq _ _ h2]; exact decide_eq_true ⟨h1, h2⟩
      · rw [ine _ _ h2]; exact decide_eq_false (fun q => h2 q.2))
    obtain ⟨W, hW⟩ : ∃ W, W = w.alloc (.cells #[.int .i64 r.kind, .int .i64 r.batch, .string r.key, .string r.val, .int .i64 r.cnt, .int .i64 r.sum] 41) := ⟨_, rfl⟩
    rw [← hW] at HK HRS HB0 HT0
    clear h1 hr
    generalize crcN (cat (xs.map PlaceV.r)) = c at *
    rw [HV.out]
    go_enter Tryz.func113, Tryz.ntmps113
    go_wp2_with fail
    rw [← hW]
    clear hW
    have S1 := HK.out W.drew (Below.refl _ _).drew
    first
      | (go_region_held3 (fun W' => W'.cell? ⟨w.heap.size, 4, none⟩ = some (.int .i64 r.cnt) ∧ W'.cell? ⟨w.heap.size, 5, none⟩ = some (.int .i64 r.sum) ∧ Hid (Below W.heap.size W W')) (assumption) (first
          | (go_at_call 121; refine (HRS.out W.drew S1.2.2.out).mono ?_; rintro e w2 ⟨⟨a1, n1, c1, rfl, ho1⟩, hb2⟩; have hn1 := ho1.len; rw [hml] at hn1; subst hn1; have hk2 := hide (S1.2.2.out.trans (hb2.mono S1.2.2.out.size)); have hS2 := HK.out w2 hk2.out; have HR2 := hide ho1.row; clear ho1 hb2)
          | (go_at_call 120; refine (HSM.out w2 (HT0.out.later hk2.out) _ _ HR2.out).mono ?_; rintro e w3 ⟨rfl, hb3⟩; have hk3 := hide (hk2.out.trans (hb3.mono hk2.out.size)); have hS3 := HK.out w3 hk3.out; clear hb3)))
      | fail
    have HB3 := hide (HB0.out.trans (hk3.out.mono HB0.out.size))
    clear hS3 hk3 hS2 hk2 HR2 S1
    go_wp2
    go_ret
    exact ⟨rfl, HB3.out⟩
  · have t1 := ine _ _ h1
    have HV : Hid (fitsP r xs = false) := hide (decide_eq_false (fun h => h1 (by rw [h.1, hlen])))
    clear h1 hr
    go_enter Tryz.func113, Tryz.ntmps113
    go_wp2
    go_region
    go_wp2
    go_ret
    exact ⟨by rw [HV.out]; rfl, HB0.out.drew⟩

end Go.Proofs.YtimpokbcfjgdaaaGreatDoor
namespace Go.Proofs.YtimpokbcfjgdaaaGreatDoor
open Go.RowKit
open Plain

theorem ofStep_no (b : Int) (out : List PlaceV) (p : PlaceV) (h : ¬ p.r.batch = b) : ofStep b out p = out := by unfold ofStep; rw [if_neg h]
theorem ofStep_seal (b : Int) (out : List PlaceV) (p : PlaceV) (h : p.r.batch = b) (h3 : p.r.kind = 3) : ofStep b out p = [] := by unfold ofStep; rw [if_pos h, if_pos h3]
theorem ofStep_put (b : Int) (out : List PlaceV) (p : PlaceV) (h : p.r.batch = b) (hk : p.r.kind = 1 ∨ p.r.kind = 2) : ofStep b out p = out ++ [p] := by unfold ofStep; rw [if_pos h, if_neg (by rcases hk with e | e <;> rw [e] <;> decide), if_pos hk]
theorem ofStep_other (b : Int) (out : List PlaceV) (p : PlaceV) (h3 : ¬ p.r.kind = 3) (h1 : ¬ p.r.kind = 1) (h2 : ¬ p.r.kind = 2) : ofStep b out p = out := by
  unfold ofStep
  split
  · rw [if_neg (fun q : p.r.kind = 1 ∨ p.r.kind = 2 => q.elim h1 h2)]
  · rfl

set_option maxRecDepth 100000 in
set_option maxHeartbeats 4000000 in
theorem specOf_any (w : World) (a : Option Addr) (n cap : Nat) (xs : List PlaceV) (hr : plSh.Row w a n xs) (hn : n ≤ 1048576) (e : Nat) (he : e ≤ n) (b : Int) :
    Calls Tryz.prog 52 #[.slice a n cap, .int .i64 (e : Int), .int .i64 b] w fun x w' => (∃ a' n' cap', x = .returned (.slice a' n' cap') ∧ plSh.Own 45 w' w.heap.size (.slice a' n' cap') (ofB (xs.take e) b)) ∧ Below w.heap.size w w' := by
  have hlen := hr.len
  have HR := hide hr
  have HO0 := hide (Shape.Own.empty plSh 45 w)
  have HB0 := hide (al1 w (.cells #[] 45))
  clear hr
  go_enter Tryz.func52, Tryz.ntmps52
  go_wp2
  go_loopw [7, 8] (fun v i wr => ∃ (k : Nat) (a' : Option Addr) (n' c' : Nat), k ≤ e ∧ v = .slice a' n' c' ∧ i = .int .i64 k ∧ Hid (plSh.Own 45 wr w.heap.size (.slice a' n' c') (ofB (xs.take k) b)) ∧ Hid (Below w.heap.size w wr)) (fun _ i _ => e - (intOf i).toNat)
  case atStart => exact ⟨0, _, 0, 0, by omega, rfl, rfl, HO0, HB0⟩
  case round =>
    clear HO0 HB0
    obtain ⟨k, a', n', c', hk, rfl, rfl, HO, HB⟩ := hrel
    by_cases hlt : k < e
    · have hkf : k < xs.length := by omega
      have hkn : k < n := by omega
      obtain ⟨bb, off, rfl, hbw, e0, e1, e2, e3, e4, e5, e6, e7, e8⟩ := pl_cells (HR.out.later HB.out) k hkf
      have HSZ := hide HB.out.size
      have HE : Hid (ofB (xs.take (k + 1)) b = ofStep b (ofB (xs.take k) b) (xs[k])) := hide (by rw [take_snoc xs k hkf, ofB_snoc])
      have hl : (ofB (xs.take k) b).length ≤ 1048576 := by
        have := ofB_len (xs.take k) b
        rw [List.length_take] at this
        omega
      obtain ⟨z, hz⟩ : ∃ z, xs[k] = z := ⟨_, rfl⟩
      rw [hz] at e0 e1 e2 e3 e4 e5 e6 e7 e8 HE
      clear hz
      have hwn : bb < wr.heap.size := hbw
      have HBA := hide (HB.out.alloc HB.out.size (.cells #[.int .i64 z.r.kind, .int .i64 z.r.batch, .string z.r.key, .string z.r.val, .int .i64 z.r.cnt, .int .i64 z.r.sum] 41))
      have HOA := hide (HO.out.later (al1 wr (.cells #[.int .i64 z.r.kind, .int .i64 z.r.batch, .string z.r.key, .string z.r.val, .int .i64 z.r.cnt, .int .i64 z.r.sum] 41)) (Nat.le_refl _))
      by_cases hb : z.r.batch = b
      · have t0 := ieq _ _ hb
        by_cases h3 : z.r.kind = 3
        · have t3 := ieq _ _ h3
          have t1 := ine z.r.kind 1 (by omega)
          have t2 := ine z.r.kind 2 (by omega)
          have HE2 : Hid (ofB (xs.take (k + 1)) b = []) := hide (by rw [HE.out, ofStep_seal _ _ _ hb h3])
          have HON : Hid (plSh.Own 45 ((wr.alloc (.cells #[.int .i64 z.r.kind, .int .i64 z.r.batch, .string z.r.key, .string z.r.val, .int .i64 z.r.cnt, .int .i64 z.r.sum] 41)).alloc (.cells #[] 45)) w.heap.size (.slice (some ⟨wr.heap.size + 1, 0, none⟩) 0 0) []) := hide (by
            have h := Shape.Own.empty plSh 45 (wr.alloc (.cells #[.int .i64 z.r.kind, .int .i64 z.r.batch, .string z.r.key, .string z.r.val, .int .i64 z.r.cnt, .int .i64 z.r.sum] 41))
            rw [World.size_alloc] at h
            exact h.mono (Nat.le_trans HSZ.out (Nat.le_succ _)))
          have HBN := hide (HBA.out.alloc HBA.out.size (.cells #[] 45))
          clear hb h3 HE HO HB HOA HBA
          go_wp2
          go_roundw
          case rel => exact ⟨k + 1, _, _, _, by omega, rfl, by go_num, by rw [HE2.out]; exact HON, HBN⟩
          case measure => first | (simp [intOf]; done) | (simp [intOf]; omega)
        · have t3 := ine _ _ h3
          by_cases h1 : z.r.kind = 1
          · have t1 := ieq _ _ h1
            have HE2 : Hid (ofB (xs.take (k + 1)) b = ofB (xs.take k) b ++ [z]) := hide (by rw [HE.out, ofStep_put _ _ _ hb (.inl h1)])
            clear hb h3 h1 HE
            go_wp2_with (at_builtin; refine wpList_app_pl rfl _ _ rfl z HOA.out HBA.out.size (by omega) rfl rfl (World.size_alloc _ _) ?_; intro a3 n3 cap3 w3 hn3 ho3 hb3; clear hn3)
            have HO3 := hide ho3
            have HB3 := hide (HBA.out.trans hb3)
            clear ho3 hb3 HO HB HOA HBA
            go_roundw
            case rel => exact ⟨k + 1, a3, n3, cap3, by omega, rfl, by go_num, by rw [HE2.out]; exact HO3, HB3⟩
            case measure => first | (simp [intOf]; done) | (simp [intOf]; omega)
          · have t1 := ine _ _ h1
            by_cases h2 : z.r.kind = 2
            · have t2 := ieq _ _ h2
              have HE2 : Hid (ofB (xs.take (k + 1)) b = ofB (xs.take k) b ++ [z]) := hide (by rw [HE.out, ofStep_put _ _ _ hb (.inr h2)])
              clear hb h3 h1 h2 HE
              go_wp2_with (at_builtin; refine wpList_app_pl rfl _ _ rfl z HOA.out HBA.out.size (by omega) rfl rfl (World.size_alloc _ _) ?_; intro a3 n3 cap3 w3 hn3 ho3 hb3; clear hn3)
              have HO3 := hide ho3
              have HB3 := hide (HBA.out.trans hb3)
              clear ho3 hb3 HO HB HOA HBA
              go_roundw
              case rel => exact ⟨k + 1, a3, n3, cap3, by omega, rfl, by go_num, by rw [HE2.out]; exact HO3, HB3⟩
              case measure => first | (simp [intOf]; done) | (simp [intOf]; omega)
            · have t2 := ine _ _ h2
              have HE2 : Hid (ofB (xs.take (k + 1)) b = ofB (xs.take k) b) := hide (by rw [HE.out, ofStep_other _ _ _ h3 h1 h2])
              clear hb h3 h1 h2 HE
              go_wp2
              go_roundw
              case rel => exact ⟨k + 1, _, _, _, by omega, rfl, by go_num, by rw [HE2.out]; exact HOA, HBA⟩
              case measure => first | (simp [intOf]; done) | (simp [intOf]; omega)
      · have t0 := ine _ _ hb
        have HE2 : Hid (ofB (xs.take (k + 1)) b = ofB (xs.take k) b) := hide (by rw [HE.out, ofStep_no _ _ _ hb])
        clear hb HE
        go_wp2
        go_roundw
        case rel => exact ⟨k + 1, _, _, _, by omega, rfl, by go_num, by rw [HE2.out]; exact HOA, HBA⟩
        case measure => first | (simp [intOf]; done) | (simp [intOf]; omega)
    · obtain rfl : k = e := by omega
      go_wp2
      go_ret
      exact ⟨⟨a', n', c', rfl, HO.out⟩, HB.out⟩

end Go.Proofs.YtimpokbcfjgdaaaGreatDoor
namespace Go.Proofs.YtimpokbcfjgdaaaGreatDoor
open Go.RowKit Go.Maps
open Plain

/-- How a row in the map reads: where it lies. -/
def slD : Value → DataW Unit
  | .slice (some ⟨g, _, _⟩) n c => .agg [.lit (.int .i64 (g : Int)), .lit (.int .i64 (n : Int)), .lit (.int .i64 (c : Int))]
  | _ => .nil
def rowElem : Value → Option (DataW Unit × List MemPlace)
  | .slice none n c => if n = 0 ∧ c = 0 then some (.nil, []) else none
  | .slice (some ⟨g, off, none⟩) n c => if off = 0 then some (.agg [.lit (.int .i64 (g : Int)), .lit (.int .i64 (n : Int)), .lit (.int .i64 (c : Int))], []) else none
  | _ => none
def IsRow (v : Value) : Prop := v = .slice none 0 0 ∨ ∃ g n c, v = .slice (some ⟨g, 0, none⟩) n c
theorem IsRow.elem {v : Value} (h : IsRow v) : rowElem v = some (slD v, []) := by
  rcases h with rfl | ⟨g, n, c, rfl⟩
  · rfl
  · rfl
theorem rowElem_row {v : Value} {z : DataW Unit × List MemPlace} (h : rowElem v = some z) : IsRow v ∧ z = (slD v, []) := by
  unfold rowElem at h
  split at h
  · split at h
    · rename_i hh
      obtain ⟨rfl, rfl⟩ := hh
      cases h
      exact ⟨.inl rfl, rfl⟩
    · cases h
  · split at h
    · rename_i hh
      subst hh
      cases h
      exact ⟨.inr ⟨_, _, _, rfl⟩, rfl⟩
    · cases h
  · cases h
theorem slD_inj {u v : Value} (hu : IsRow u) (hv : IsRow v) (h : slD u = slD v) : u = v := by
  rcases hu with rfl | ⟨g, n, c, rfl⟩ <;> rcases hv with rfl | ⟨g', n', c', rfl⟩
  · rfl
  · simp [slD] at h
  · simp [slD] at h
  · simp [slD] at h
    obtain ⟨h1, h2, h3⟩ := h
    obtain rfl : g = g' := by omega
    obtain rfl : n = n' := by omega
    obtain rfl : c = c' := by omega
    rfl
theorem own_isRow {w : World} {base : Nat} {v : Value} {xs : List PlaceV} (h : plSh.Own 45 w base v xs) : IsRow v := by
  rcases h.2 with ⟨e, _⟩ | ⟨g, c, cur, e, _⟩
  · exact .inl e
  · exact .inr ⟨_, _, _, e⟩
theorem own_heap {w : World} {base g : Nat} {v : Value} {xs : List PlaceV} (h : plSh.Own 45 w base v xs) (hg : v.ownBlock = some g) : ∃ cur, w.heap[g]? = some (.cells cur 45 (0, 0)) := by
  rcases h.2 with ⟨e, _⟩ | ⟨g', c, cur, e, _, hg', _⟩
  · rw [e] at hg; cases hg
  · rw [e] at hg
    cases hg
    exact ⟨cur, hg'⟩
theorem keyLawW : Keyed Tryz.prog 3 := int_keyed Tryz.underlying3

/-- Block B is the box of what waits; M its map; kv the row of what is kept; f the rows by batch. -/
structure WS (w : World) (base B M : Nat) (kv : Value) (f : Int → Value) (n : Nat) (D : DataW Unit) (pre : List PlaceV) : Prop where
  box : w.heap[B]? = some (.cells #[.map (some M), kv] 132 (0, 0))
  hB : base ≤ B
  hM : base ≤ M
  map : w.ownsMap Tryz.prog 3 rowElem M n D
  num : n ≤ pre.length
  at_ : ∀ b : Int, D.atKey (.int .i64 b) .nil = slD (f b)
  own : ∀ b, plSh.Own 45 w base (f b) (ofB pre b)
  kown : plSh.Own 45 w base kv (keptP pre)
  apart : ∀ b c, ¬ b = c → (f b).ownBlock = none ∨ (f b).ownBlock ≠ (f c).ownBlock
  kapart : ∀ b, (f b).ownBlock = none ∨ (f b).ownBlock ≠ kv.ownBlock
def WSx (w : World) (base B : Nat) (pre : List PlaceV) : Prop := ∃ M kv f n D, WS w base B M kv f n D pre
section
variable {w w' : World} {base B M : Nat} {kv : Value} {f : Int → Value} {n : Nat} {D : DataW Unit} {pre : List PlaceV}
theorem WS.blt (h : WS w base B M kv f n D pre) : B < w.heap.size := (Array.getElem?_eq_some_iff.1 h.box).1
theorem WS.mlt (h : WS w base B M kv f n D pre) : M < w.heap.size := h.map.lt
theorem WS.mheap (h : WS w base B M kv f n D pre) : ∃ es clock, w.heap[M]? = some (.map es clock) := by
  obtain ⟨es, clock, hb, _⟩ := h.map
  exact ⟨es, clock, hb⟩
theorem WS.bm (h : WS w base B M kv f n D pre) : B ≠ M := fun e => by
  obtain ⟨es, clock, hb⟩ := h.mheap
  have := h.box
  rw [e, hb] at this
  cases this
/-- A row of places lies in neither the box nor the map. -/
theorem row_off {v : Value} {xs : List PlaceV} (hb : w.heap[B]? = some (.cells #[.map (some M), kv] 132 (0, 0))) (hm : ∃ es clock, w.heap[M]? = some (.map es clock)) (ho : plSh.Own 45 w base v xs) : v.ownBlock ≠ some B ∧ v.ownBlock ≠ some M := by
  constructor
  · intro e
    obtain ⟨cur, hc⟩ := own_heap ho e
    rw [hb] at hc
    cases hc
  · intro e
    obtain ⟨cur, hc⟩ := own_heap ho e
    obtain ⟨es, clock, hm⟩ := hm
    rw [hm] at hc
    cases hc
theorem own_kept {v : Value} {xs : List PlaceV} {row : Option Nat} (ho : plSh.Own 45 w base v xs) (hg : w.grownBy w' row) (hne : v.ownBlock = none ∨ v.ownBlock ≠ row) : plSh.Own 45 w' base v xs := World.ownsRow.kept ho hg hne
/-- What is neither a row of places nor a box may turn. -/
theorem WS.grown (h : WS w base B M kv f n D pre) {row : Option Nat} (hg : w.grownBy w' row) (hr : ∀ r, row = some r → ∃ cs t fr, w.heap[r]? = some (.cells cs t fr) ∧ t ≠ 45 ∧ t ≠ 132) : WS w' base B M kv f n D pre := by
  have hbn : some B ≠ row := fun e => by
    obtain ⟨cs, t, fr, h1, _, h2⟩ := hr B e.symm
    rw [h.box] at h1
    cases h1
    exact h2 rfl
  have hmn : some M ≠ row := fun e => by
    obtain ⟨cs, t, fr, h1, _⟩ := hr M e.symm
    obtain ⟨es, clock, hm⟩ := h.mheap
    rw [hm] at h1
    cases h1
  have hrn : ∀ {v : Value} {xs : List PlaceV}, plSh.Own 45 w base v xs → v.ownBlock = none ∨ v.ownBlock ≠ row := fun {v xs} ho => by
    cases e : v.ownBlock with
    | none => exact .inl rfl
    | some g =>
      refine .inr (fun q => ?_)
      obtain ⟨cs, t, fr, h1, h2, _⟩ := hr g q.symm
      obtain ⟨cur, hc⟩ := own_heap ho e
      rw [hc] at h1
      cases h1
      exact h2 rfl
  exact ⟨(hg.block B h.blt hbn).trans h.box, h.hB, h.hM, h.map.kept hg hmn, h.num, h.at_, fun b => own_kept (h.own b) hg (hrn (h.own b)), own_kept h.kown hg (hrn h.kown), h.apart, h.kapart⟩
theorem grown_of {r : Option Nat} (hb : Below w.heap.size w w') : w.grownBy w' r := ⟨hb.os, hb.tape, hb.output, hb.size, fun k hk _ => hb.block k hk⟩
theorem WS.later (h : WS w base B M kv f n D pre) (hb : Below w.heap.size w w') : WS w' base B M kv f n D pre := h.grown (row := none) (grown_of hb) (fun r e => by cases e)
theorem WSx.grown (h : WSx w base B pre) {row : Option Nat} (hg : w.grownBy w' row) (hr : ∀ r, row = some r → ∃ cs t fr, w.heap[r]? = some (.cells cs t fr) ∧ t ≠ 45 ∧ t ≠ 132) : WSx w' base B pre := by
  obtain ⟨M, kv, f, n, D, h⟩ := h
  exact ⟨M, kv, f, n, D, h.grown hg hr⟩
theorem WSx.later (h : WSx w base B pre) (hb : Below w.heap.size w w') : WSx w' base B pre := by
  obtain ⟨M, kv, f, n, D, h⟩ := h
  exact ⟨M, kv, f, n, D, h.later hb⟩
theorem WSx.blt (h : WSx w base B pre) : B < w.heap.size := by obtain ⟨M, kv, f, n, D, h⟩ := h; exact h.blt
/-- What is neither a row of places nor a box stands, and what lies from block L on. -/
def KeepT (base L : Nat) (w w' : World) : Prop := Below base w w' ∧ (∀ (k : Nat) (cs : Array Value) (t : TypeId) (fr : Nat × Nat), w.heap[k]? = some (Obj.cells cs t fr) → t ≠ 45 → t ≠ 132 → w'.heap[k]? = some (Obj.cells cs t fr)) ∧ ∀ k, L ≤ k → k < w.heap.size → w'.heap[k]? = w.heap[k]?
theorem KeepT.trans {L : Nat} {a b c : World} (h : KeepT base L a b) (k : KeepT base L b c) : KeepT base L a c := ⟨h.1.trans k.1, fun i cs t fr hi h1 h2 => k.2.1 i cs t fr (h.2.1 i cs t fr hi h1 h2) h1 h2, fun i h1 h2 => (k.2.2 i h1 (Nat.lt_of_lt_of_le h2 h.1.size)).trans (h.2.2 i h1 h2)⟩
theorem KeepT.of_below {L : Nat} (hb : Below w.heap.size w w') (hs : base ≤ w.heap.size) : KeepT base L w w' := ⟨hb.mono hs, fun k _ _ _ hk _ _ => (hb.block k (Array.getElem?_eq_some_iff.1 hk).1).trans hk, fun k _ hk => hb.block k hk⟩
theorem KeepT.of_grown {L : Nat} {row : Option Nat} (hg : w.grownBy w' row) (hs : base ≤ w.heap.size) (hb : ∀ r, row = some r → base ≤ r) (hL : ∀ r, row = some r → r < L) (hr : ∀ r cs t fr, row = some r → w.heap[r]? = some (.cells cs t fr) → t = 45 ∨ t = 132) : KeepT base L w w' := by
  refine ⟨(Below.refl _ _).grown hg hs (fun k hk => hb k hk), fun k cs t fr hk h1 h2 => ?_, fun k h1 h2 => ?_⟩
  · refine (hg.block k (Array.getElem?_eq_some_iff.1 hk).1 (fun e => ?_)).trans hk
    rcases hr k cs t fr e.symm hk with h | h
    · exact h1 h
    · exact h2 h
  · refine hg.block k h2 (fun e => ?_)
    have := hL k e.symm
    omega
theorem grown_setW (w : World) (B j : Nat) (u : Value) : w.grownBy (w.setCell ⟨B, j, none⟩ u) (some B) := ⟨rfl, rfl, rfl, by simp, fun k _ hr => Below.heap_setCell w ⟨B, j, none⟩ u k (fun e => hr (by rw [e]))⟩
theorem box_set {x y u : Value} {T : TypeId} (h : w.heap[B]? = some (.cells #[x, y] T (0, 0))) : (w.setCell ⟨B, 1, none⟩ u).heap[B]? = some (.cells #[x, u] T (0, 0)) := by simp [World.setCell, Array.getElem?_modify, h]

theorem IsRow.nil : IsRow (.slice none 0 0) := .inl rfl
theorem kl_int (x : Int) : WideAt.IsKeyLit (.int .i64 x) := trivial
theorem lit_ne' {x y : Int} (h : ¬ x = y) : (Lit.int .i64 x) ≠ Lit.int .i64 y := fun e => h (by simpa using e)
/-- A put or a drop waits. -/
theorem WS.put {w1 w2 : World} {v' : Value} {p : PlaceV} (h : WS w base B M kv f n D pre) (hk : p.r.kind = 1 ∨ p.r.kind = 2) (hg : w.grownBy w1 (f p.r.batch).ownBlock) (ho : plSh.Own 45 w1 base v' (ofB pre p.r.batch ++ [p])) (hl : v'.ownBlock = (f p.r.batch).ownBlock ∨ ∃ g, v'.ownBlock = some g ∧ w.heap.size ≤ g)
    (hm : w2.ownsMap Tryz.prog 3 rowElem M (n + 1) (D.put (.int .i64 p.r.batch) (slD v'))) (hg2 : w1.grownBy w2 (some M)) : WS w2 base B M kv (fun c => if c = p.r.batch then v' else f c) (n + 1) (D.put (.int .i64 p.r.batch) (slD v')) (pre ++ [p]) := by
  have hoff := row_off h.box h.mheap (h.own p.r.batch)
  have hb1 : w1.heap[B]? = _ := (hg.block B h.blt (fun e => hoff.1 e.symm)).trans h.box
  have hm1 : ∃ es clock, w1.heap[M]? = some (.map es clock) := by
    obtain ⟨es, clock, hh⟩ := h.mheap
    exact ⟨es, clock, (hg.block M h.mlt (fun e => hoff.2 e.symm)).trans hh⟩
  have hb1l : B < w1.heap.size := (Array.getElem?_eq_some_iff.1 hb1).1
  have k2 : ∀ {v : Value} {xs : List PlaceV}, plSh.Own 45 w1 base v xs → plSh.Own 45 w2 base v xs := fun {v xs} hv => own_kept hv hg2 (.inr (row_off hb1 hm1 hv).2)
  have hob : ∀ c, ofB (pre ++ [p]) c = if c = p.r.batch then ofB pre p.r.batch ++ [p] else ofB pre c := fun c => by
    rw [ofB_snoc]
    by_cases e : c = p.r.batch
    · rw [if_pos e, e, ofStep_put _ _ _ rfl hk]
    · rw [if_neg e, ofStep_no _ _ _ (fun q => e q.symm)]
  have hkp : keptP (pre ++ [p]) = keptP pre := by
    rw [keptP_snoc]
    unfold kpStep
    rw [if_neg (by rcases hk with e | e <;> rw [e] <;> decide), if_neg (by rcases hk with e | e <;> rw [e] <;> decide)]
  -- the new row lies apart from any old one that is not the batch's own
  have hnew : ∀ {v : Value} {xs : List PlaceV}, plSh.Own 45 w base v xs → (v.ownBlock = none ∨ v.ownBlock ≠ (f p.r.batch).ownBlock) → v.ownBlock = none ∨ v.ownBlock ≠ v'.ownBlock := fun {v xs} hv hne => by
    rcases hl with e | ⟨g, e, hgl⟩
    · rw [e]; exact hne
    · cases hq : v.ownBlock with
      | none => exact .inl rfl
      | some j =>
        refine .inr (fun q => ?_)
        rw [e] at q
        cases q
        have := (hv.blk _ hq).2
        omega
  refine ⟨(hg2.block B hb1l (fun e => h.bm (by cases e; rfl))).trans hb1, h.hB, h.hM, hm, ?_, fun c => ?_, fun c => ?_, ?_, fun b c hbc => ?_, fun b => ?_⟩
  · rw [List.length_append, List.length_singleton]; have := h.num; omega
  · by_cases e : c = p.r.batch
    · subst e
      simp only [if_true]
      exact atKey_put_same h.map.isMap (kl_int _) _ _
    · simp only [if_neg e]
      rw [atKey_put_other (lit_ne' e)]
      exact h.at_ c
  · rw [hob]
    by_cases e : c = p.r.batch
    · simp only [if_pos e]
      exact k2 ho
    · simp only [if_neg e]
      exact k2 (own_kept (h.own c) hg (h.apart c p.r.batch e))
  · rw [hkp]
    refine k2 (own_kept h.kown hg ?_)
    rcases h.kapart p.r.batch with e | e
    · cases hq : kv.ownBlock with
      | none => exact .inl rfl
      | some j => rw [e]; exact .inr (by simp)
    · exact .inr (fun q => e q.symm)
  · by_cases e1 : b = p.r.batch
    · have e2 : ¬ c = p.r.batch := fun q => hbc (e1.trans q.symm)
      simp only [if_pos e1, if_neg e2]
      rcases hnew (h.own c) (h.apart c p.r.batch e2) with q | q
      · cases hv : v'.ownBlock with
        | none => exact .inl rfl
        | some j => rw [q]; exact .inr (by simp)
      · exact .inr (fun q2 => q q2.symm)
    · by_cases e2 : c = p.r.batch
      · simp only [if_neg e1, if_pos e2]
        exact hnew (h.own b) (h.apart b p.r.batch e1)
      · simp only [if_neg e1, if_neg e2]
        exact h.apart b c hbc
  · by_cases e1 : b = p.r.batch
    · simp only [if_pos e1]
      have hkk : kv.ownBlock = none ∨ kv.ownBlock ≠ (f p.r.batch).ownBlock := by
        rcases h.kapart p.r.batch with e | e
        · cases hq : kv.ownBlock with
          | none => exact .inl rfl
          | some j => rw [e]; exact .inr (by simp)
        · exact .inr (fun q => e q.symm)
      rcases hnew h.kown hkk with q | q
      · cases hv : v'.ownBlock with
        | none => exact .inl rfl
        | some j => rw [q]; exact .inr (by simp)
      · exact .inr (fun q2 => q q2.symm)
    · simp only [if_neg e1]
      exact h.kapart b
/-- A keep waits. -/
theorem WS.keep {w1 : World} {v' : Value} {p : PlaceV} (h : WS w base B M kv f n D pre) (hk : p.r.kind = 4) (hg : w.grownBy w1 kv.ownBlock) (ho : plSh.Own 45 w1 base v' (keptP pre ++ [p])) (hl : v'.ownBlock = kv.ownBlock ∨ ∃ g, v'.ownBlock = some g ∧ w.heap.size ≤ g) : WS (w1.setCell ⟨B, 1, none⟩ v') base B M v' f n D (pre ++ [p]) := by
  have hoff := row_off h.box h.mheap h.kown
  have hb1 : w1.heap[B]? = _ := (hg.block B h.blt (fun e => hoff.1 e.symm)).trans h.box
  have hm1 : w1.ownsMap Tryz.prog 3 rowElem M n D := h.map.kept hg (fun e => hoff.2 e.symm)
  have hmh : ∃ es clock, w1.heap[M]? = some (.map es clock) := by obtain ⟨es, clock, hh, _⟩ := hm1; exact ⟨es, clock, hh⟩
  have hg2 := grown_setW w1 B 1 v'
  have k2 : ∀ {v : Value} {xs : List PlaceV}, plSh.Own 45 w1 base v xs → plSh.Own 45 (w1.setCell ⟨B, 1, none⟩ v') base v xs := fun {v xs} hv => own_kept hv hg2 (.inr (row_off hb1 hmh hv).1)
  have hob : ∀ c, ofB (pre ++ [p]) c = ofB pre c := fun c => by rw [ofB_snoc, ofStep_other _ _ _ (by rw [hk]; decide) (by rw [hk]; decide) (by rw [hk]; decide)]
  have hkp : keptP (pre ++ [p]) = keptP pre ++ [p] := by
    rw [keptP_snoc]
    unfold kpStep
    rw [if_neg (by rw [hk]; decide), if_pos hk]
  refine ⟨box_set hb1, h.hB, h.hM, hm1.kept hg2 (fun e => h.bm (by cases e; rfl)), ?_, h.at_, fun c => ?_, ?_, h.apart, fun b => ?_⟩
  · rw [List.length_append]; have := h.num; omega
  · rw [hob]; exact k2 (own_kept (h.own c) hg (h.kapart c))
  · rw [hkp]; exact k2 ho
  · rcases hl with e | ⟨g, e, hgl⟩
    · rw [e]; exact h.kapart b
    · cases hq : (f b).ownBlock with
      | none => exact .inl rfl
      | some j =>
        refine .inr (fun q => ?_)
        rw [e] at q
        cases q
        have := ((h.own b).blk _ hq).2
        omega
/-- A seal: what waits for it waits no longer. -/
theorem WS.seal {w2 : World} {p : PlaceV} (h : WS w base B M kv f n D pre) (hk : p.r.kind = 3) (hm : w2.ownsMap Tryz.prog 3 rowElem M n (D.del (.int .i64 p.r.batch))) (hg2 : w.grownBy w2 (some M)) :
    WS w2 base B M kv (fun c => if c = p.r.batch then .slice none 0 0 else f c) n (D.del (.int .i64 p.r.batch)) (pre ++ [p]) ∧ plSh.Own 45 w2 base (f p.r.batch) (ofB pre p.r.batch) := by
  have k2 : ∀ {v : Value} {xs : List PlaceV}, plSh.Own 45 w base v xs → plSh.Own 45 w2 base v xs := fun {v xs} hv => own_kept hv hg2 (.inr (row_off h.box h.mheap hv).2)
  have hob : ∀ c, ofB (pre ++ [p]) c = if c = p.r.batch then [] else ofB pre c := fun c => by
    rw [ofB_snoc]
    by_cases e : c = p.r.batch
    · rw [if_pos e, ofStep_seal _ _ _ e.symm hk]
    · rw [if_neg e, ofStep_no _ _ _ (fun q => e q.symm)]
  have hkp : keptP (pre ++ [p]) = keptP pre := by
    rw [keptP_snoc]
    unfold kpStep
    rw [if_neg (by rw [hk]; decide), if_neg (by rw [hk]; decide)]
  refine ⟨⟨(hg2.block B h.blt (fun e => h.bm (by cases e; rfl))).trans h.box, h.hB, h.hM, hm, ?_, fun c => ?_, fun c => ?_, ?_, fun b c hbc => ?_, fun b => ?_⟩, k2 (h.own _)⟩
  · rw [List.length_append]; have := h.num; omega
  · by_cases e : c = p.r.batch
    · subst e
      simp only [if_true]
      exact atKey_del_same _
    · simp only [if_neg e]
      rw [atKey_del_other (lit_ne' e)]
      exact h.at_ c
  · rw [hob]
    by_cases e : c = p.r.batch
    · simp only [if_pos e]
      exact Shape.Own.nil plSh 45 w2 base
    · simp only [if_neg e]
      exact k2 (h.own c)
  · rw [hkp]; exact k2 h.kown
  · by_cases e1 : b = p.r.batch
    · simp only [if_pos e1]; exact .inl rfl
    · by_cases e2 : c = p.r.batch
      · simp only [if_neg e1, if_pos e2]
        cases hq : (f b).ownBlock with
        | none => exact .inl rfl
        | some j => exact .inr (by simp [Value.ownBlock])
      · simp only [if_neg e1, if_neg e2]; exact h.apart b c hbc
  · by_cases e1 : b = p.r.batch
    · simp only [if_pos e1]; exact .inl rfl
    · simp only [if_neg e1]; exact h.kapart b
/-- A mark: what is kept waits no longer. -/
theorem WS.mark {p : PlaceV} (h : WS w base B M kv f n D pre) (hk : p.r.kind = 5) : WS (w.setCell ⟨B, 1, none⟩ (.slice none 0 0)) base B M (.slice none 0 0) f n D (pre ++ [p]) ∧ plSh.Own 45 (w.setCell ⟨B, 1, none⟩ (.slice none 0 0)) base kv (keptP pre) := by
  have hg2 := grown_setW w B 1 (.slice none 0 0)
  have k2 : ∀ {v : Value} {xs : List PlaceV}, plSh.Own 45 w base v xs → plSh.Own 45 (w.setCell ⟨B, 1, none⟩ (.slice none 0 0)) base v xs := fun {v xs} hv => own_kept hv hg2 (.inr (row_off h.box h.mheap hv).1)
  have hob : ∀ c, ofB (pre ++ [p]) c = ofB pre c := fun c => by rw [ofB_snoc, ofStep_other _ _ _ (by rw [hk]; decide) (by rw [hk]; decide) (by rw [hk]; decide)]
  have hkp : keptP (pre ++ [p]) = [] := by
    rw [keptP_snoc]
    unfold kpStep
    rw [if_pos hk]
  refine ⟨⟨box_set h.box, h.hB, h.hM, h.map.kept hg2 (fun e => h.bm (by cases e; rfl)), ?_, h.at_, fun c => ?_, ?_, h.apart, fun b => ?_⟩, k2 h.kown⟩
  · rw [List.length_append]; have := h.num; omega
  · rw [hob]; exact k2 (h.own c)
  · rw [hkp]; exact Shape.Own.nil plSh 45 _ base
  · cases hq : (f b).ownBlock with
    | none => exact .inl rfl
    | some j => exact .inr (by simp [Value.ownBlock])
/-- Any other record. -/
theorem WS.other {p : PlaceV} (h : WS w base B M kv f n D pre) (h1 : ¬ p.r.kind = 1) (h2 : ¬ p.r.kind = 2) (h3 : ¬ p.r.kind = 3) (h4 : ¬ p.r.kind = 4) (h5 : ¬ p.r.kind = 5) : WS w base B M kv f n D (pre ++ [p]) := by
  refine ⟨h.box, h.hB, h.hM, h.map, ?_, h.at_, fun c => ?_, ?_, h.apart, h.kapart⟩
  · rw [List.length_append]; have := h.num; omega
  · rw [ofB_snoc, ofStep_other _ _ _ h3 h1 h2]; exact h.own c
  · rw [keptP_snoc]
    unfold kpStep
    rw [if_neg h5, if_neg h4]
    exact h.kown
/-- 'w.batches[b]': the row, where there is none the nil one. -/
theorem lookup_row (h : WS w base B M kv f n D pre) (b : Int) (hb : (Lit.int .i64 b).wf = true) : (Instr.lookup 130 (.map (some M)) (.int .i64 b) false).run Tryz.prog w = .ok (f b) w := by
  have hz : (zeroValue 36).run Tryz.prog w = .ok (.slice none 0 0) w := Tryz.zeroValue36 w
  obtain ⟨v, ps, hrun, hR⟩ := h.map.lookup keyLawW Tryz.underlying130 hz (zd := .nil) (zp := []) rfl (keyOf_int_mk Tryz.underlying3 hb : keyOf Tryz.prog 3 (.int .i64 b) = some (.int .i64 b))
  obtain ⟨hv, he⟩ := rowElem_row hR
  have e1 : slD (f b) = slD v := by
    rw [← h.at_ b]
    exact congrArg Prod.fst he
  obtain rfl : f b = v := slD_inj (own_isRow (h.own b)) hv e1
  exact hrun
end

end Go.Proofs.YtimpokbcfjgdaaaGreatDoor
