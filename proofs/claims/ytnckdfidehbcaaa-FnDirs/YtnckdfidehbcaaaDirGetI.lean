/-
  impl.DirGet and impl.DirKeys.
-/
import Derived.Test.YtnckdfidehbcaaaDirDropS
import Derived.Test.YtnckdfidehbcaaaDirKeysS
import Derived.Test.YtnckdfidehbcaaaShelf
import Derived.Lib.SliceRun
namespace Go.Proofs.Ytnckdfidehbcaaa
open Go.RowKit Go.Shelf Go.Lib
open Plain

/-- Where the first one stands of which p holds, or -1. -/
theorem idxFrom_is {α : Type} (p : α → Bool) (x : α) : ∀ (l : List α) (i : Nat), (idxByFrom (fun _ y => p y) x l i = -1 ∧ ∀ y, y ∈ l → p y = false) ∨ ∃ k, ∃ h : k < l.length, idxByFrom (fun _ y => p y) x l i = ((i + k : Nat) : Int) ∧ p (l[k]) = true ∧ ∀ y, y ∈ l.take k → p y = false
  | [], i => .inl ⟨rfl, fun y h => by simp at h⟩
  | z :: l, i => by
    by_cases hz : p z = true
    · refine .inr ⟨0, by simp, ?_, hz, fun y h => by simp at h⟩
      rw [idxByFrom, if_pos hz, Nat.add_zero]
    · have hz' : p z = false := by simpa using hz
      have e : idxByFrom (fun _ y => p y) x (z :: l) i = idxByFrom (fun _ y => p y) x l (i + 1) := by rw [idxByFrom, if_neg hz]
      rcases idxFrom_is p x l (i + 1) with ⟨h1, h2⟩ | ⟨k, hk, h1, h2, h3⟩
      · refine .inl ⟨by rw [e, h1], fun y hy => ?_⟩
        rcases List.mem_cons.1 hy with rfl | hy
        · exact hz'
        · exact h2 y hy
      · refine .inr ⟨k + 1, by simpa using hk, by rw [e, h1]; congr 1; omega, by simpa using h2, fun y hy => ?_⟩
        rw [List.take_succ_cons] at hy
        rcases List.mem_cons.1 hy with rfl | hy
        · exact hz'
        · exact h3 y hy

/-- slices.IndexFunc at a row of entries. -/
theorem idx_any (p : EntV → Bool) (g : Nat) (lb : Array Value) (eg : ∀ args w, (callFunc g args).run Try.prog w = .ok (.enter g args) w) (b off n c : Nat) (xs : List EntV) (w : World) (hr : entSh.Row w (some ⟨b, off, none⟩) n xs) (hb : b < w.heap.size) (hn : n ≤ 9223372036854775807)
    (hp : PredBelow Try.prog g lb (fun x => .agg (entSh.cells x).toArray) p w) :
    Calls Try.prog 28 #[.slice (some ⟨b, off, none⟩) n c, .func (.func g) #[] lb] w fun e w' => (∃ r : Int, e = .returned (.int .i64 r) ∧ ((r = -1 ∧ ∀ y, y ∈ xs → p y = false) ∨ ∃ k, ∃ h : k < xs.length, r = (k : Int) ∧ p (xs[k]) = true ∧ ∀ y, y ∈ xs.take k → p y = false)) ∧ Below w.heap.size w w' := by
  letI : Inhabited EntV := ⟨zeroE⟩
  have hcon := AnyQ.slices_IndexFunc Try.laysIdx 5 Try.isAgg26 Try.sizeOf26 entSh.cells (fun _ => rfl) p g lb eg b off n c xs w hp (by rw [hr.len]; exact Nat.le_refl _) hn hb (fun j hj i v hi => by
    obtain ⟨b', off', q0, -, h3⟩ := hr.cells j hj
    simp only [Option.some.injEq, Addr.mk.injEq] at q0
    obtain ⟨rfl, rfl, -⟩ := q0
    have e : xs[j]! = xs[j] := by simp [hj]
    rw [e] at hi
    have hi5 : i < 5 := by
      have := (List.getElem?_eq_some_iff.1 hi).1
      rw [entSh.len] at this
      exact this
    exact (h3 i hi5).trans hi)
  change Calls Try.prog 28 _ _ _ at hcon
  refine hcon.mono ?_
  rintro e w' ⟨rfl, hb'⟩
  refine ⟨⟨_, rfl, ?_⟩, hb'⟩
  rw [List.take_of_length_le (by rw [hr.len]; exact Nat.le_refl _)]
  unfold idxBy
  rcases idxFrom_is p default xs 0 with ⟨h1, h2⟩ | ⟨k, hk, h1, h2, h3⟩
  · exact .inl ⟨h1, h2⟩
  · exact .inr ⟨k, hk, by rw [h1, Nat.zero_add], h2, h3⟩

/-- DirGet's closure: is the key the one that it has captured? -/
theorem getPred (key : ByteArray) (B : Nat) (w : World) (hB : B < w.heap.size) (hcell : w.cell? ⟨B, 0, none⟩ = some (.string key)) :
    PredBelow Try.prog 33 #[.pointer (some ⟨B, 0, none⟩)] (fun x => .agg (entSh.cells x).toArray) (fun x => decide (x.key = key)) w := fun W x hb => by
  have hc : W.cell? ⟨B, 0, none⟩ = some (.string key) := (hb.cell (p := ⟨B, 0, none⟩) hB).trans hcell
  have hBW : B < W.heap.size := Nat.lt_of_lt_of_le hB hb.size
  have hne : B ≠ W.heap.size := by omega
  show Calls Try.prog 33 #[.agg #[.string x.key, .int .i64 x.seg, .int .i64 x.pos, .int .i64 x.len, .int .i64 x.bat], .pointer (some ⟨B, 0, none⟩)] W fun e w' => e = .returned (.bool (decide (x.key = key))) ∧ Below w.heap.size w w'
  by_cases hq : x.key = key
  · have t1 := str_eq _ _ hq
    rw [decide_eq_true hq]
    go_enter Try.func33, Try.ntmps33
    go_wp2
    go_ret
    exact ⟨rfl, hb.alloc hb.size _⟩
  · have t1 := str_ne _ _ hq
    rw [decide_eq_false hq]
    go_enter Try.func33, Try.ntmps33
    go_wp2
    go_ret
    exact ⟨rfl, hb.alloc hb.size _⟩

set_option maxRecDepth 100000 in
set_option maxHeartbeats 2000000 in
theorem implGet_any (w : World) (b off n cap : Nat) (xs : List EntV) (key : ByteArray) (hr : entSh.Row w (some ⟨b, off, none⟩) n xs) (hb : b < w.heap.size) (hn : n ≤ 1099511627776) :
    Calls Try.prog 11 #[.slice (some ⟨b, off, none⟩) n cap, .string key] w fun e w' => e = .returned (gotV (getE xs key)) ∧ Below w.heap.size w w' := by
  have hlen := hr.len
  obtain ⟨W, hW⟩ : ∃ W, W = (w.alloc (.cells #[.string key] 9)).alloc (.cells #[.string ⟨#[]⟩, .int .i64 0, .int .i64 0, .int .i64 0, .int .i64 0] 26) := ⟨_, rfl⟩
  have HB : Hid (Below w.heap.size w W) := hide (by rw [hW]; exact al2 w _ _)
  have HR := hide (hr.later HB.out)
  have HBW : Hid (b < W.heap.size) := hide (Nat.lt_of_lt_of_le hb HB.out.size)
  have HK : Hid (Blk5 W (w.heap.size + 1) zeroE) := hide (by
    rw [hW]
    have h := Blk5.new (w.alloc (.cells #[.string key] 9)) zeroE
    rw [World.size_alloc] at h
    exact h)
  have HP : Hid (PredBelow Try.prog 33 #[.pointer (some ⟨w.heap.size, 0, none⟩)] (fun x => .agg (entSh.cells x).toArray) (fun x => decide (x.key = key)) W) := hide (getPred key w.heap.size W (by rw [hW]; simp; omega) (by
    rw [hW, Below.cell ((Below.refl (w.heap.size + 1) (w.alloc (.cells #[.string key] 9))).alloc (by simp) _) (by show w.heap.size < _; omega)]
    simp))
  have HX := hide (idx_any (fun x => decide (x.key = key)) 33 _ (enters_of Try.func33 (by kernel_rfl) rfl) b off n cap xs W HR.out HBW.out (by omega) HP.out)
  clear hr hb
  go_enter Try.func11, Try.ntmps11
  go_wp2_with fail
  rw [← hW]
  clear hW HP
  refine HX.out.mono ?_
  rintro e w1 ⟨⟨r, rfl, hcase⟩, hb1⟩
  have HB1 := hide (HB.out.trans (hb1.mono HB.out.size))
  have HR1 := hide (HR.out.later hb1)
  have HK1 := hide (HK.out.later hb1 HK.out.lt)
  clear hb1 HX HB HR HK HBW
  obtain ⟨y0, y1, y2, y3, y4, f0, f1, f2, f3, f4⟩ := cells5 HK1.out
  rcases hcase with ⟨rfl, h2⟩ | ⟨k, hk, rfl, h2, h3⟩
  · have HV : Hid (getE xs key = none) := hide (List.find?_eq_none.2 (fun y hy => by rw [h2 y hy]; simp))
    clear h2
    go_wp2
    refine bodyPost_ret (v := .tuple #[.agg #[.string ⟨#[]⟩, .int .i64 0, .int .i64 0, .int .i64 0, .int .i64 0], .bool false]) (by simp [results, Try.results11, go_sem, *]) rfl ⟨by rw [HV.out]; rfl, ?_⟩
    exact below_set5 HB1.out (Nat.le_succ _) _ _ _ _ _
  · have HV : Hid (getE xs key = some (xs[k])) := hide (getE_here hk (List.find?_eq_none.2 (fun y hy => by rw [h3 y hy]; simp)) (of_decide_eq_true h2))
    obtain ⟨b', off', q0, hbw, e0, e1, e2, e3, e4⟩ := ent_cells HR1.out k hk
    simp only [Option.some.injEq, Addr.mk.injEq] at q0
    obtain ⟨rfl, rfl, -⟩ := q0
    obtain ⟨z, hz⟩ : ∃ z, xs[k] = z := ⟨_, rfl⟩
    rw [hz] at e0 e1 e2 e3 e4 HV
    have hkn : k < n := by omega
    clear h2 h3 hz
    go_wp2
    refine bodyPost_ret (v := .tuple #[.agg #[.string z.key, .int .i64 z.seg, .int .i64 z.pos, .int .i64 z.len, .int .i64 z.bat], .bool true]) (by simp [results, Try.results11, go_sem, *]) rfl ⟨by rw [HV.out]; rfl, ?_⟩
    exact below_set5 HB1.out (Nat.le_succ _) _ _ _ _ _

set_option maxRecDepth 100000 in
set_option maxHeartbeats 1000000 in
theorem implKeys_any (w : World) (a : Option Addr) (n cap : Nat) (xs : List EntV) (hr : entSh.Row w a n xs) (hn : n ≤ 1048577) :
    Calls Try.prog 12 #[.slice a n cap] w fun e w' => (∃ a' cap', e = .returned (.slice a' n cap') ∧ TOwn w' w.heap.size (.slice a' n cap') (xs.map EntV.key)) ∧ Below w.heap.size w w' := by
  have hlen := hr.len
  have HR := hide hr
  clear hr
  go_enter Try.func12, Try.ntmps12
  go_wp2
  go_loopw [3, 8] (fun v i wr => ∃ (k : Nat) (a' : Option Addr) (c' : Nat), k ≤ n ∧ v = .slice a' k c' ∧ i = .int .i64 k ∧ Hid (TOwn wr w.heap.size (.slice a' k c') ((xs.take k).map EntV.key)) ∧ Hid (Below w.heap.size w wr)) (fun _ i _ => n - (intOf i).toNat)
  case atStart => exact ⟨0, none, 0, by omega, rfl, rfl, hide (TOwn.nil _ _), hide (Below.refl _ _)⟩
  case round =>
    obtain ⟨k, a', c', hk, rfl, rfl, HO, HB⟩ := hrel
    by_cases hlt : k < n
    · have hkf : k < xs.length := by omega
      obtain ⟨b, off, rfl, hbw, e0, e1, e2, e3, e4⟩ := ent_cells (HR.out.later HB.out) k hkf
      have HL := hide HO.out.len
      have HE : Hid ((xs.take (k + 1)).map EntV.key = (xs.take k).map EntV.key ++ [(xs[k]).key]) := hide (by rw [List.take_succ_eq_append_getElem hkf, List.map_append]; rfl)
      obtain ⟨z, hz⟩ : ∃ z, xs[k] = z := ⟨_, rfl⟩
      rw [hz] at e0 e1 e2 e3 e4 HE
      clear hz
      have HO2 : Hid (TOwn (wr.alloc (.cells #[.string z.key, .int .i64 z.seg, .int .i64 z.pos, .int .i64 z.len, .int .i64 z.bat] 26)) w.heap.size (.slice a' k c') ((xs.take k).map EntV.key)) := hide (HO.out.later (al1 wr _) (Nat.le_refl _))
      have HB2 : Hid (Below w.heap.size w (wr.alloc (.cells #[.string z.key, .int .i64 z.seg, .int .i64 z.pos, .int .i64 z.len, .int .i64 z.bat] 26))) := hide (HB.out.alloc HB.out.size _)
      go_wp2_with (at_builtin; refine wpList_app_text rfl _ _ rfl z.key HO2.out HB2.out.size (by have := HL.out; omega) rfl rfl (by simp) ?_; intro a3 n3 cap3 w3 hn3 ho3 hb3; have hn4 := hide hn3; clear hn3)
      have HO3 := hide ho3
      have HB3 := hide (HB2.out.trans hb3)
      have e3 : n3 = k + 1 := by have := HL.out; have := hn4.out; omega
      subst e3
      clear ho3 hb3 HO HB HO2 HB2 hn4
      go_roundw
      case rel => exact ⟨k + 1, a3, cap3, by omega, rfl, by go_num, by rw [HE.out]; exact HO3, HB3⟩
      case measure => first | (simp [intOf]; done) | (simp [intOf]; omega)
    · obtain rfl : k = n := by omega
      have HT : Hid (xs.take k = xs) := hide (List.take_of_length_le (by omega))
      go_wp2
      go_ret
      exact ⟨⟨a', c', rfl, by have h := HO.out; rw [HT.out] at h; exact h⟩, HB.out⟩

end Go.Proofs.Ytnckdfidehbcaaa
