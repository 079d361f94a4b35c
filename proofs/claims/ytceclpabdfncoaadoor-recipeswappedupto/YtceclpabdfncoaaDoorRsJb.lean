/- Several texts in one: RsB, RsK. -/
import Derived.Test.YtceclpabdfncoaaDoorRsJa
import Derived.Shelf.Lay
import Derived.Ground.NamesProg
import Derived.Shelf.Strings.BuilderK
import Derived.Lib.AppendStr
import Derived.Handy
import Derived.Test.YtceclpabdfncoaaDoorRsI
/- The builder: copyCheck, WriteString, String. -/
namespace Go.Proofs.YtceclpabdfncoaaDoor.Re
open Go.RowKit
shelf_lay Lays.n169 Nm 169 at Tryd as Tryd.stL
set_option maxRecDepth 100000 in
set_option maxHeartbeats 1000000 in
theorem cc_used (b : Nat) (v : Value) (w : World) (h : w.heap[b]? = some (.cells #[.pointer (some ⟨b, 0, none⟩), v] 78 (0, 0))) : Calls Tryd.prog 39 #[.pointer (some ⟨b, 0, none⟩)] w fun e w' => e = .returned (.tuple #[]) ∧ w' = w := by
  have c0 : w.cell? ⟨b, 0, none⟩ = some (.pointer (some ⟨b, 0, none⟩)) := (cell_of_row w b 0 _ _ _ h).trans rfl
  clear h
  obtain ⟨j, hj, hjs⟩ := Option.map_eq_some_iff.1 (show (Tryd.prog.info? 78).map (·.size) = some 2 by kernel_rfl)
  go_enter Tryd.func39, Tryd.ntmps39
  go_wp2_with fail
  rw [Lib.run_neq_ptr_same w _ Tryd.underlying76 hj]
  simp only [Result.andThen]
  rw [Oper.upon_value]
  go_wp2
  go_end0
  exact ⟨rfl, rfl⟩
set_option maxRecDepth 100000 in
set_option maxHeartbeats 1000000 in
theorem cc_new (b : Nat) (v : Value) (w : World) (h : w.heap[b]? = some (.cells #[.pointer none, v] 78 (0, 0))) : Calls Tryd.prog 39 #[.pointer (some ⟨b, 0, none⟩)] w fun e w' => e = .returned (.tuple #[]) ∧ w' = w.setCell ⟨b, 0, none⟩ (.pointer (some ⟨b, 0, none⟩)) := by
  have c0 : w.cell? ⟨b, 0, none⟩ = some (.pointer none) := (cell_of_row w b 0 _ _ _ h).trans rfl
  have f0 : w.frozen? ⟨b, 0, none⟩ = false := frozen_of_row w _ _ _ _ h
  have h2 := heap_setCell_same w b 0 _ _ (.pointer (some ⟨b, 0, none⟩)) h
  have c1 : (w.setCell ⟨b, 0, none⟩ (.pointer (some ⟨b, 0, none⟩))).cell? ⟨b, 0, none⟩ = some (.pointer (some ⟨b, 0, none⟩)) := (cell_of_row _ b 0 _ _ _ h2).trans rfl
  have hsh : w.shape? b = some (78, 2) := by simp [World.shape?, h]
  obtain ⟨j, hj, hjs⟩ := Option.map_eq_some_iff.1 (show (Tryd.prog.info? 78).map (·.size) = some 2 by kernel_rfl)
  clear h h2
  go_enter Tryd.func39, Tryd.ntmps39
  go_wp2_with fail
  rw [Lib.run_to_unsafe w ⟨b, 0, none⟩ Tryd.underlying76 Tryd.underlying116 hj (by rw [hjs]; decide) hsh (Nat.zero_lt_succ 1)]
  simp only [Result.andThen]
  rw [Oper.upon_value]
  go_wp2_with fail
  rw [run_callFunc_extern Tryd.func56 (by kernel_rfl) (by kernel_rfl) (by kernel_rfl) (e := Extern.AbiNoEscape.same) (by kernel_rfl)]
  rw [Lib.run_noEscape]
  simp only [Result.andThen]
  rw [Oper.upon_value]
  go_wp2_with fail
  rw [Lib.run_from_unsafe w ⟨b, 0, none⟩ Tryd.underlying116 Tryd.underlying76 hj hsh (by kernel_rfl)]
  simp only [Result.andThen]
  rw [Oper.upon_value]
  go_wp2
  go_end0
  exact ⟨rfl, rfl⟩
theorem info5 : (Tryd.prog.info? 5).map (fun i => (i.zero, i.size, i.bytes)) = some (some (.int .u8 0), 1, 1) := by kernel_rfl
theorem own_sizeV {w : World} {B n : Nat} {v : Value} {xs : List Value} (h : w.ownsRow B 5 1 v n xs) : ∃ o c, v = .slice o n c := by
  obtain ⟨_, ⟨rfl, h0⟩ | ⟨g, cap, cur, rfl, _⟩⟩ := h
  · exact ⟨none, 0, by rw [h0]⟩
  · exact ⟨_, _, rfl⟩
/-- A text appended to bytes, kept shut. -/
def apT (ty : Nat) (vs : Array Value) : Sem Value := Builtin.append_ #[23, 9] ty vs
theorem toApT (ty : Nat) (vs : Array Value) : Builtin.append_ #[23, 9] ty vs = apT ty vs := rfl
theorem cc_any (B b : Nat) (xs : List Value) (w : World) (h : Lib.IsBuilder 78 5 B b xs w) :
    Calls Tryd.prog 39 #[.pointer (some ⟨b, 0, none⟩)] w fun e w' => e = .returned (.tuple #[]) ∧ Lib.BuilderAt 78 5 B b (.pointer (some ⟨b, 0, none⟩)) xs w' ∧ Below B w w' := by
  rcases h with ⟨h1, v, h2, h3, h4⟩ | h
  · refine (cc_new b v w h2).mono ?_
    rintro e w' ⟨he, rfl⟩
    refine ⟨he, ⟨h1, v, (heap_setCell_same w b 0 _ _ _ h2).trans rfl, ?_, h4⟩, (Below.refl B w).setCell (p := ⟨b, 0, none⟩) h1 _⟩
    obtain ⟨k1, k2⟩ := h3
    refine ⟨k1, k2.imp_right fun ⟨g, cap, cur, q1, q2, q3, q4⟩ => ⟨g, cap, cur, q1, q2, (heap_setCell_other _ _ _ _ (fun e => h4 (by rw [q1, e]; rfl))).trans q3, q4⟩⟩
  · obtain ⟨h1, v, h2, h3, h4⟩ := h
    refine (cc_used b v w h2).mono ?_
    rintro e w' ⟨he, rfl⟩
    exact ⟨he, ⟨h1, v, h2, h3, h4⟩, Below.refl _ _⟩
attribute [local go_sem ↓] toApT
set_option maxRecDepth 100000 in
set_option maxHeartbeats 1000000 in
theorem ws_any (B b : Nat) (xs : List Value) (s : ByteArray) (w : World) (h : Lib.IsBuilder 78 5 B b xs w) (hl : xs.length + s.size ≤ 8796093022208) (hB : B ≤ w.heap.size) :
    Calls Tryd.prog 30 #[.pointer (some ⟨b, 0, none⟩), .string s] w fun e w' => e = .returned (.tuple #[.int .i64 (s.size : Int), .nilIface]) ∧ Lib.IsBuilder 78 5 B b (xs ++ Lib.strCells s) w' ∧ Below B w w' := by
  have C : Hid _ := cc_any B b xs w h
  clear h
  go_enter Tryd.func30, Tryd.ntmps30
  go_wp2_with fail
  refine Calls.mono C.out ?_
  rintro e W ⟨rfl, ⟨h1, v, h2, h3, h4⟩, hb⟩
  clear C
  obtain ⟨i0, hi0, hz0, hz1, hz2⟩ := info_parts info5
  obtain ⟨v', W2, r, ho, hg, -⟩ := Lib.run_append_own_string (P := Tryd.prog) (w := W) B 23 9 23 5 i0 Tryd.underlying23 Tryd.underlying9 hi0 hz0 hz1 hz2 v xs.length xs h3 s (by unfold maxLen; omega) (by omega) (Nat.le_trans hB hb.size)
  obtain ⟨o, c, hv⟩ := own_sizeV h3
  subst hv
  obtain ⟨o', c', hv'⟩ := own_sizeV ho
  subst hv'
  have r' : (apT 23 #[.slice o xs.length c, .string s]).run Tryd.prog W = .ok (.slice o' (xs.length + s.size) c') W2 := r
  have bz : b < W.heap.size := (Array.getElem?_eq_some_iff.1 h2).1
  have h22 : W2.heap[b]? = _ := (hg.block b bz (fun e => h4 e.symm)).trans h2
  have c1 : W.cell? ⟨b, 1, none⟩ = some (.slice o xs.length c) := (cell_of_row W b 1 _ _ _ h2).trans rfl
  have c2 : W2.cell? ⟨b, 1, none⟩ = some (.slice o xs.length c) := (cell_of_row W2 b 1 _ _ _ h22).trans rfl
  have f2 : W2.frozen? ⟨b, 1, none⟩ = false := frozen_of_row W2 _ _ _ _ h22
  have HE : Hid (Lib.IsBuilder 78 5 B b (xs ++ Lib.strCells s) (W2.setCell ⟨b, 1, none⟩ (.slice o' (xs.length + s.size) c')) ∧ Below B w (W2.setCell ⟨b, 1, none⟩ (.slice o' (xs.length + s.size) c'))) := by
    have hbW : Below B w W2 := hb.trans ⟨hg.os, hg.tape, hg.output, hg.size, fun j hj => hg.block j (by have := hb.size; omega) (fun e => by have := (h3.lt j e.symm).1; omega)⟩
    have hlen : (xs ++ Lib.strCells s).length = xs.length + s.size := by rw [List.length_append, Lib.strCells_length]
    have hne : (Value.slice o' (xs.length + s.size) c').ownBlock ≠ some b := by
      intro e
      obtain ⟨k1, ⟨q1, q2⟩ | ⟨g, cap, cur, q1, q2, q3, q4⟩⟩ := ho
      · rw [q1] at e; cases e
      · have : g = b := by rw [q1] at e; cases e; rfl
        rw [this, h22] at q3
        simp at q3
    refine ⟨.inr ⟨h1, _, (heap_setCell_same W2 b 1 _ _ _ h22).trans rfl, ?_, hne⟩, hbW.setCell (p := ⟨b, 1, none⟩) h1 _⟩
    rw [hlen]
    obtain ⟨k1, k2⟩ := ho
    refine ⟨k1, k2.imp_right fun ⟨g, cap, cur, q1, q2, q3, q4⟩ => ⟨g, cap, cur, q1, q2, (heap_setCell_other _ _ _ _ (fun e => hne (by rw [q1, e]; rfl))).trans q3, q4⟩⟩
  clear h2 h3 h4 ho hg h22 r hb
  go_wp2
  go_ret2
  exact ⟨rfl, HE.out⟩
theorem stX : Builder.Extra Tryd.prog Tryd.stL_ren where
  sizeBuilder := by kernel_rfl
  liesBuilder := by kernel_rfl
  t5 := Tryd.underlying5
  a5 := Tryd.isAgg5
  z5 := Tryd.sizeOf5
  v5 := Tryd.zeroValue5
  infoByte := by kernel_rfl
  cellsByte := by kernel_rfl
  sizeByte := by kernel_rfl
  neB5 := by decide
theorem bs_app2 (a b : ByteArray) : (⟨(a.data.toList ++ b.data.toList).toArray⟩ : ByteArray) = a ++ b := by
  apply ByteArray.ext
  rw [ByteArray.data_append]
  simp
theorem own_belowV {W W' : World} {B n : Nat} {v : Value} {xs : List Value} (h : W.ownsRow B 5 1 v n xs) (hb : Below W.heap.size W W') : W'.ownsRow B 5 1 v n xs := by
  obtain ⟨k1, k2⟩ := h
  exact ⟨k1, k2.imp_right fun ⟨g, cap, cur, q1, q2, q3, q4⟩ => ⟨g, cap, cur, q1, q2, (hb.block g (Array.getElem?_eq_some_iff.1 q3).1).trans q3, q4⟩⟩
theorem isB_below {W W' : World} {B b : Nat} {xs : List Value} (h : Lib.IsBuilder 78 5 B b xs W) (hb : Below W.heap.size W W') : Lib.IsBuilder 78 5 B b xs W' := by
  rcases h with ⟨h1, v, h2, h3, h4⟩ | ⟨h1, v, h2, h3, h4⟩
  · exact .inl ⟨h1, v, (hb.block b (Array.getElem?_eq_some_iff.1 h2).1).trans h2, own_belowV h3 hb, h4⟩
  · exact .inr ⟨h1, v, (hb.block b (Array.getElem?_eq_some_iff.1 h2).1).trans h2, own_belowV h3 hb, h4⟩
end Go.Proofs.YtceclpabdfncoaaDoor.Re

/- The texts exchanged: in. -/
namespace Go.Proofs.YtceclpabdfncoaaDoor.Re
open Go.RowKit
/-- A text written into a builder: blocks of other kinds stay. -/
theorem cc_any2 (B b : Nat) (xs : List Value) (w : World) (h : Lib.IsBuilder 78 5 B b xs w) :
    Calls Tryd.prog 39 #[.pointer (some ⟨b, 0, none⟩)] w fun e w' => e = .returned (.tuple #[]) ∧ Lib.BuilderAt 78 5 B b (.pointer (some ⟨b, 0, none⟩)) xs w' ∧ Below B w w' ∧ ∀ j, j ≠ b → w'.heap[j]? = w.heap[j]? := by
  rcases h with ⟨h1, v, h2, h3, h4⟩ | h
  · refine (cc_new b v w h2).mono ?_
    rintro e w' ⟨he, rfl⟩
    refine ⟨he, ⟨h1, v, (heap_setCell_same w b 0 _ _ _ h2).trans rfl, ?_, h4⟩, (Below.refl B w).setCell (p := ⟨b, 0, none⟩) h1 _, fun j hj => heap_setCell_other _ _ _ _ hj⟩
    obtain ⟨k1, k2⟩ := h3
    refine ⟨k1, k2.imp_right fun ⟨g, cap, cur, q1, q2, q3, q4⟩ => ⟨g, cap, cur, q1, q2, (heap_setCell_other _ _ _ _ (fun e => h4 (by rw [q1, e]; rfl))).trans q3, q4⟩⟩
  · obtain ⟨h1, v, h2, h3, h4⟩ := h
    refine (cc_used b v w h2).mono ?_
    rintro e w' ⟨he, rfl⟩
    exact ⟨he, ⟨h1, v, h2, h3, h4⟩, Below.refl _ _, fun _ _ => rfl⟩
section
attribute [local go_sem ↓] toApT
set_option maxRecDepth 100000 in
set_option maxHeartbeats 1000000 in
theorem ws_far (B b : Nat) (xs : List Value) (s : ByteArray) (w : World) (h : Lib.IsBuilder 78 5 B b xs w) (hl : xs.length + s.size ≤ 8796093022208) (hB : B ≤ w.heap.size) (g : Nat) (C : Array Value) (hg0 : w.heap[g]? = some (.cells C 66 (0, 0))) :
    Calls Tryd.prog 30 #[.pointer (some ⟨b, 0, none⟩), .string s] w fun e w' => e = .returned (.tuple #[.int .i64 (s.size : Int), .nilIface]) ∧ Lib.IsBuilder 78 5 B b (xs ++ Lib.strCells s) w' ∧ Below B w w' ∧ w'.heap[g]? = some (.cells C 66 (0, 0)) := by
  have hgb : g ≠ b := by
    rintro rfl
    rcases h with ⟨h1, v, h2, -⟩ | ⟨h1, v, h2, -⟩ <;> (rw [h2] at hg0; simp at hg0)
  have C0 : Hid _ := cc_any2 B b xs w h
  have HG0 : Hid (w.heap[g]? = some (.cells C 66 (0, 0))) := hg0
  clear h hg0
  go_enter Tryd.func30, Tryd.ntmps30
  go_wp2_with fail
  refine Calls.mono C0.out ?_
  rintro e W ⟨rfl, ⟨h1, v, h2, h3, h4⟩, hb, hfr⟩
  have HG1 : Hid (W.heap[g]? = some (.cells C 66 (0, 0))) := (hfr g hgb).trans HG0.out
  clear C0 HG0 hfr
  obtain ⟨i0, hi0, hz0, hz1, hz2⟩ := info_parts info5
  obtain ⟨v', W2, r, ho, hg, -⟩ := Lib.run_append_own_string (P := Tryd.prog) (w := W) B 23 9 23 5 i0 Tryd.underlying23 Tryd.underlying9 hi0 hz0 hz1 hz2 v xs.length xs h3 s (by unfold maxLen; omega) (by omega) (Nat.le_trans hB hb.size)
  have hgo : some g ≠ v.ownBlock := by
    intro e
    obtain ⟨k1, ⟨q1, q2⟩ | ⟨g', cap, cur, q1, q2, q3, q4⟩⟩ := h3
    · rw [q1] at e; cases e
    · have : g' = g := by rw [q1] at e; cases e; rfl
      rw [this, HG1.out] at q3
      simp at q3
  obtain ⟨o, c, hv⟩ := own_sizeV h3
  subst hv
  obtain ⟨o', c', hv'⟩ := own_sizeV ho
  subst hv'
  have r' : (apT 23 #[.slice o xs.length c, .string s]).run Tryd.prog W = .ok (.slice o' (xs.length + s.size) c') W2 := r
  have bz : b < W.heap.size := (Array.getElem?_eq_some_iff.1 h2).1
  have h22 : W2.heap[b]? = _ := (hg.block b bz (fun e => h4 e.symm)).trans h2
  have c1 : W.cell? ⟨b, 1, none⟩ = some (.slice o xs.length c) := (cell_of_row W b 1 _ _ _ h2).trans rfl
  have c2 : W2.cell? ⟨b, 1, none⟩ = some (.slice o xs.length c) := (cell_of_row W2 b 1 _ _ _ h22).trans rfl
  have f2 : W2.frozen? ⟨b, 1, none⟩ = false := frozen_of_row W2 _ _ _ _ h22
  have HE : Hid (Lib.IsBuilder 78 5 B b (xs ++ Lib.strCells s) (W2.setCell ⟨b, 1, none⟩ (.slice o' (xs.length + s.size) c')) ∧ Below B w (W2.setCell ⟨b, 1, none⟩ (.slice o' (xs.length + s.size) c')) ∧ (W2.setCell ⟨b, 1, none⟩ (.slice o' (xs.length + s.size) c')).heap[g]? = some (.cells C 66 (0, 0))) := by
    have hbW : Below B w W2 := hb.trans ⟨hg.os, hg.tape, hg.output, hg.size, fun j hj => hg.block j (by have := hb.size; omega) (fun e => by have := (h3.lt j e.symm).1; omega)⟩
    have hlen : (xs ++ Lib.strCells s).length = xs.length + s.size := by rw [List.length_append, Lib.strCells_length]
    have hne : (Value.slice o' (xs.length + s.size) c').ownBlock ≠ some b := by
      intro e
      obtain ⟨k1, ⟨q1, q2⟩ | ⟨g, cap, cur, q1, q2, q3, q4⟩⟩ := ho
      · rw [q1] at e; cases e
      · have : g = b := by rw [q1] at e; cases e; rfl
        rw [this, h22] at q3
        simp at q3
    refine ⟨.inr ⟨h1, _, (heap_setCell_same W2 b 1 _ _ _ h22).trans rfl, ?_, hne⟩, hbW.setCell (p := ⟨b, 1, none⟩) h1 _, (heap_setCell_other _ _ _ _ hgb).trans ((hg.block g (Array.getElem?_eq_some_iff.1 HG1.out).1 hgo).trans HG1.out)⟩
    rw [hlen]
    obtain ⟨k1, k2⟩ := ho
    refine ⟨k1, k2.imp_right fun ⟨g, cap, cur, q1, q2, q3, q4⟩ => ⟨g, cap, cur, q1, q2, (heap_setCell_other _ _ _ _ (fun e => hne (by rw [q1, e]; rfl))).trans q3, q4⟩⟩
  clear h2 h3 h4 ho hg h22 r hb hgo HG1
  go_wp2
  go_ret2
  exact ⟨rfl, HE.out⟩
end
/-- The builder and the changes' box. -/
structure Ib (W : World) (lv : Value) (least : Nat) (O : Bts) (wr : World) : Prop where
  bel : Below W.heap.size W wr
  box : wr.heap[W.heap.size]? = some (.cells #[lv, .int .i64 (least : Int)] 53 (0, 0))
  bld : Lib.IsBuilder 78 5 (W.heap.size + 1) (W.heap.size + 1) (Lib.byteCells O) wr
theorem Ib.below {W : World} {lv : Value} {least : Nat} {O : Bts} {wr w' : World} (h : Ib W lv least O wr) (hb : Below wr.heap.size wr w') : Ib W lv least O w' := ⟨h.bel.trans (hb.mono h.bel.size), (hb.block _ (Array.getElem?_eq_some_iff.1 h.box).1).trans h.box, isB_below h.bld hb⟩
theorem Ib.sz {W : World} {lv : Value} {least : Nat} {O : Bts} {wr : World} (h : Ib W lv least O wr) : W.heap.size + 1 < wr.heap.size := by
  rcases h.bld with ⟨h1, v, h2, -⟩ | ⟨h1, v, h2, -⟩ <;> exact (Array.getElem?_eq_some_iff.1 h2).1
theorem Ib.write {W : World} {lv : Value} {least : Nat} {O : Bts} {wr w' : World} (h : Ib W lv least O wr) {O' : Bts} (hb : Lib.IsBuilder 78 5 (W.heap.size + 1) (W.heap.size + 1) (Lib.byteCells O') w') (hl : Below (W.heap.size + 1) wr w') : Ib W lv least O' w' := ⟨h.bel.trans (hl.mono (by omega)), (hl.block _ (by omega)).trans h.box, hb⟩
/-- A text written behind what is there. -/
theorem Ib.wrote {W : World} {lv : Value} {least : Nat} {O : Bts} {wr : World} (h : Ib W lv least O wr) (s : S) (hl : O.length + s.size ≤ 8796093022208) (g : Nat) (c : Array Value) (hg : wr.heap[g]? = some (.cells c 66 (0, 0))) :
    Calls Tryd.prog 30 #[.pointer (some ⟨W.heap.size + 1, 0, none⟩), .string s] wr fun e w' => e = .returned (.tuple #[.int .i64 (s.size : Int), .nilIface]) ∧ Ib W lv least (O ++ bl s) w' ∧ w'.heap[g]? = some (.cells c 66 (0, 0)) := by
  have hc : (Lib.byteCells O).length = O.length := by simp [Lib.byteCells]
  refine (ws_far (W.heap.size + 1) (W.heap.size + 1) _ s wr h.bld (by rw [hc]; exact hl) (by have := h.sz; omega) g c hg).mono ?_
  rintro e w' ⟨he, hb, hbl, hg'⟩
  refine ⟨he, h.write ?_ hbl, hg'⟩
  rw [Lib.byteCells_append]
  exact hb
def szOf : Value → Nat
  | .string s => s.size
  | _ => 0
section
attribute [local go_sem ↓] toStC toLdH
set_option maxRecDepth 100000 in
set_option maxHeartbeats 3200000 in
theorem swin_any (W : World) (lv : Value) (C : List Pai) (least : Nat) (h : Chs W lv C least) (hp : PF C) (hne : NE C) (t : S) (ht : t.size ≤ 4000000000) (hM : (SW C (bl t)).length ≤ 8796093022208) : Calls Tryd.prog 15 #[.agg #[lv, .int .i64 (least : Int)], .string t] W fun e w' => e = .returned (.string (swS C t)) ∧ Below W.heap.size W w' := by
  obtain ⟨oa, cap, hlv⟩ := h.ls.form
  obtain ⟨n, hn⟩ : ∃ n, (C.map eR).length = n := ⟨_, rfl⟩
  rw [hn] at hlv
  subst hlv
  obtain ⟨B0, hB0⟩ : ∃ B, (W.alloc (.cells #[.slice oa n cap, .int .i64 (least : Int)] 53)).alloc (.cells #[.pointer none, .slice none 0 0] 78) = B := ⟨_, rfl⟩
  have f0 : Ib W (.slice oa n cap) least [] B0 := by
    rw [← hB0]
    refine ⟨((Below.refl _ W).alloc (Nat.le_refl _) _).alloc (by simp) _, (alo _ _ (by simp)).trans (heap_alloc_new _ _), .inl ⟨Nat.le_refl _, .slice none 0 0, ?_, World.ownsRow_nil _ _ _ _, (fun q => by cases q)⟩⟩
    have := heap_alloc_new (W.alloc (.cells #[.slice oa n cap, .int .i64 (least : Int)] 53)) (.cells #[.pointer none, .slice none 0 0] 78)
    simpa using this
  have HF0 : Hid (Ib W (.slice oa n cap) least [] B0) := f0
  have HB0 : Hid (_ = B0) := hB0
  have HCs : Hid (∀ (s : S) w, s.size ≤ 4000000000 → Below W.heap.size W w → Calls Tryd.prog 24 #[.agg #[.slice oa n cap, .int .i64 (least : Int)], .string s] w (FiP w C (bl s))) := fun s w hs hw => first_any w _ C least (h.below hw) hp hne s hs
  have HG : Hid (NE C ∧ t.size ≤ 4000000000 ∧ (SW C (bl t)).length ≤ 8796093022208 ∧ ∀ x ∈ C, x.1.size ≤ 2000000) := ⟨hne, ht, hM, fun x hx => (h.sz x hx).1⟩
  have SN : ∀ (w : World) (a b : S), _ := fun w a b => st_Cnew w a b
  clear h hp hne ht hn hB0 f0 hM
  go_enter Tryd.func15, Tryd.ntmps15
  go_wp2_with fail
  rw [HB0.out]
  go_loopw [1, 6, 7, 8] (fun tv _ _ _ wr => ∃ (s : S), tv = .string s ∧ Hid (∃ O : Bts, s.size ≤ 4000000000 ∧ Ib W (.slice oa n cap) least O wr ∧ O ++ SW C (bl s) = SW C (bl t))) (fun tv _ _ _ _ => szOf tv)
  case atStart => exact ⟨t, rfl, [], HG.out.2.1, HF0.out, rfl⟩
  case round =>
    obtain ⟨s, rfl, HI⟩ := hrel
    obtain ⟨O, hs, ib, he⟩ := HI.out
    have l1 := ld_H wr W.heap.size _ rfl ib.box
    have HC1 : Hid _ := HCs.out s wr hs ib.bel
    have HIB : Hid (Ib W (.slice oa n cap) least O wr ∧ O ++ SW C (bl s) = SW C (bl t) ∧ s.size ≤ 4000000000) := ⟨ib, he, hs⟩
    clear hs ib he HI
    go_wp2_with fail
    refine Calls.mono HC1.out ?_
    rintro e Y ⟨k, ⟨x1, x2⟩, b, rfl, h1, h2, bY⟩
    have ibY := HIB.out.1.below bY
    have ibV := ibY.below ((Below.refl _ Y).alloc (Nat.le_refl _) (.cells #[.string x1, .string x2] 66))
    unfold eR
    clear HC1 l1 bY
    cases b with
    | false =>
      have hall := h2 rfl
      have hsw : SW C (bl s) = bl s := SW_all HG.out.1 hall
      have HSt : Hid _ := Any.Builder_String_any Tryd.stL stX (W.heap.size + 1) (W.heap.size + 1) O (Y.alloc (.cells #[.string x1, .string x2] 66)) ibV.bld (by have := ibV.sz; omega)
      have HSt2 : Hid (Calls Tryd.prog 29 #[.pointer (some ⟨W.heap.size + 1, 0, none⟩)] (Y.alloc (.cells #[.string x1, .string x2] 66)) fun e w' => e = .returned (.string ⟨O.toArray⟩) ∧ Below (W.heap.size + 1) (Y.alloc (.cells #[.string x1, .string x2] 66)) w') := HSt.out
      have HE : Hid ((⟨O.toArray⟩ : ByteArray) ++ s = swS C t ∧ Below W.heap.size W (Y.alloc (.cells #[.string x1, .string x2] 66))) := ⟨bl_inj (by
        rw [bl_app, bl_swS, ← HIB.out.2.1, hsw]
        simp [bl]), ibV.bel⟩
      clear h1 h2 hall hsw HSt ibY ibV
      go_wp2_with fail
      refine Calls.mono HSt2.out ?_
      rintro e w2 ⟨rfl, b2⟩
      have HF : Hid (Below W.heap.size W w2) := HE.out.2.trans (b2.mono (by omega))
      have hcat : ¬ (9223372036854775807 < O.length + s.size) := by
        have h1 := congrArg List.length HIB.out.2.1
        have h2 := HG.out.2.2.1
        have h3 := HIB.out.2.2
        rw [List.length_append] at h1
        omega
      clear b2
      go_wp2_with fail
      go_ret
      exact ⟨by rw [← HE.out.1]; rfl, HF.out⟩
    | true =>
      obtain ⟨hk, hno, hh⟩ := h1 rfl
      rw [bl_len] at hk
      have hx := hit_some hh
      have hpl := hx.2.length_le
      rw [List.length_drop, bl_len, bl_len] at hpl
      have hpl : x1.size ≤ s.size - k := hpl
      have hpos : 0 < x1.size := by rw [← bl_len]; exact List.length_pos_iff.2 (HG.out.1 _ hx.1)
      have e1 : SW C (bl s) = (bl s).take k ++ (bl x2 ++ SW C ((bl s).drop (k + x1.size))) := by
        rw [SW_skip HG.out.1 k (bl s) (by rw [bl_len]; exact hk) hno, SW_hit HG.out.1 hh, List.drop_drop, bl_len]
      have he := HIB.out.2.1
      rw [e1, ← List.append_assoc, ← List.append_assoc] at he
      have hlen := congrArg List.length he
      simp only [List.length_append, List.length_take, bl_len] at hlen
      have hM := HG.out.2.2.1
      have e2 : bl (s.extract 0 k) = (bl s).take k := by rw [bl_ext, List.drop_zero]
      have hkz : (s.extract 0 k).size = k := by rw [← bl_len, e2, List.length_take, bl_len]; omega
      have HW1 : Hid _ := ibV.wrote (s.extract 0 k) (by rw [hkz]; omega) Y.heap.size _ (heap_alloc_new _ _)
      rw [e2] at HW1
      have HNX : Hid ((O ++ (bl s).take k ++ bl x2) ++ SW C (bl (s.extract (k + x1.size) s.size)) = SW C (bl t) ∧ (O ++ (bl s).take k).length + x2.size ≤ 8796093022208 ∧ (s.extract (k + x1.size) s.size).size + x1.size ≤ s.size ∧ 0 < x1.size) := by
        have e3 : bl (s.extract (k + x1.size) s.size) = (bl s).drop (k + x1.size) := by rw [bl_ext, List.take_of_length_le (by rw [bl_len]; exact Nat.le_refl _)]
        refine ⟨by rw [e3]; exact he, by rw [List.length_append, List.length_take, bl_len]; omega, ?_, hpos⟩
        rw [← bl_len, e3, List.length_drop, bl_len]
        omega
      have hk0 : (0 : Int) ≤ (k : Int) := by omega
      have hk1 : (k : Int) ≤ (s.size : Int) := by omega
      have hk2 : (k : Int) + (x1.size : Int) ≤ (s.size : Int) := by omega
      have hk3 : (0 : Int) ≤ (k : Int) + (x1.size : Int) := by omega
      have hk4 : ((k : Int) + (x1.size : Int)).toNat = k + x1.size := by omega
      have wk : IntKind.i64.wrap ((k : Int) + (x1.size : Int)) = (k : Int) + (x1.size : Int) := by rw [IntKind.wrap_i64]; have := HIB.out.2.2; omega
      clear h1 h2 hk hno hh hx hpl hpos e1 he hlen hM e2 hkz ibY ibV
      go_wp2_with fail
      refine Calls.mono HW1.out ?_
      rintro e w2 ⟨rfl, ib2, r2⟩
      have HW2 : Hid _ := ib2.wrote x2 HNX.out.2.1 Y.heap.size _ r2
      have c2 : w2.cell? ⟨Y.heap.size, 1, none⟩ = some (.string x2) := c1 r2 rfl
      clear HW1 ib2 r2
      go_wp2_with fail
      refine Calls.mono HW2.out ?_
      rintro e w3 ⟨rfl, ib3, r3⟩
      have c3 : w3.cell? ⟨Y.heap.size, 0, none⟩ = some (.string x1) := c1 r3 rfl
      have HI3 : Hid (Ib W (.slice oa n cap) least (O ++ (bl s).take k ++ bl x2) w3) := ib3
      clear HW2 ib3 r3
      go_wp2_with fail
      go_roundw
      case rel => exact ⟨s.extract (k + x1.size) s.size, by simp, _, by have := HNX.out.2.2.1; have := HIB.out.2.2; omega, HI3.out, HNX.out.1⟩
      case measure => have := HNX.out.2.2; simp [szOf]; omega
end
end Go.Proofs.YtceclpabdfncoaaDoor.Re
