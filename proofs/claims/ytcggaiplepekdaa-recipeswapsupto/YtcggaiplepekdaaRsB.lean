/- The builder: copyCheck, WriteString, String. -/
import Derived.Test.YtcggaiplepekdaaRsA
import Derived.Shelf.Lay
import Derived.Ground.NamesProg
import Derived.Shelf.Strings.BuilderK
import Derived.Lib.AppendStr
import Derived.Handy
namespace Go.Proofs.Ytcggaiplepekdaa
open Go.RowKit
shelf_lay Lays.n169 Nm 169 at Try as Try.stL
set_option maxRecDepth 100000 in
set_option maxHeartbeats 1000000 in
theorem cc_used (b : Nat) (v : Value) (w : World) (h : w.heap[b]? = some (.cells #[.pointer (some ⟨b, 0, none⟩), v] 76 (0, 0))) : Calls Try.prog 45 #[.pointer (some ⟨b, 0, none⟩)] w fun e w' => e = .returned (.tuple #[]) ∧ w' = w := by
  have c0 : w.cell? ⟨b, 0, none⟩ = some (.pointer (some ⟨b, 0, none⟩)) := (cell_of_row w b 0 _ _ _ h).trans rfl
  clear h
  obtain ⟨j, hj, hjs⟩ := Option.map_eq_some_iff.1 (show (Try.prog.info? 76).map (·.size) = some 2 by kernel_rfl)
  go_enter Try.func45, Try.ntmps45
  go_wp2_with fail
  rw [Lib.run_neq_ptr_same w _ Try.underlying73 hj]
  simp only [Result.andThen]
  rw [Oper.upon_value]
  go_wp2
  go_end0
  exact ⟨rfl, rfl⟩
set_option maxRecDepth 100000 in
set_option maxHeartbeats 1000000 in
theorem cc_new (b : Nat) (v : Value) (w : World) (h : w.heap[b]? = some (.cells #[.pointer none, v] 76 (0, 0))) : Calls Try.prog 45 #[.pointer (some ⟨b, 0, none⟩)] w fun e w' => e = .returned (.tuple #[]) ∧ w' = w.setCell ⟨b, 0, none⟩ (.pointer (some ⟨b, 0, none⟩)) := by
  have c0 : w.cell? ⟨b, 0, none⟩ = some (.pointer none) := (cell_of_row w b 0 _ _ _ h).trans rfl
  have f0 : w.frozen? ⟨b, 0, none⟩ = false := frozen_of_row w _ _ _ _ h
  have h2 := heap_setCell_same w b 0 _ _ (.pointer (some ⟨b, 0, none⟩)) h
  have c1 : (w.setCell ⟨b, 0, none⟩ (.pointer (some ⟨b, 0, none⟩))).cell? ⟨b, 0, none⟩ = some (.pointer (some ⟨b, 0, none⟩)) := (cell_of_row _ b 0 _ _ _ h2).trans rfl
  have hsh : w.shape? b = some (76, 2) := by simp [World.shape?, h]
  obtain ⟨j, hj, hjs⟩ := Option.map_eq_some_iff.1 (show (Try.prog.info? 76).map (·.size) = some 2 by kernel_rfl)
  clear h h2
  go_enter Try.func45, Try.ntmps45
  go_wp2_with fail
  rw [Lib.run_to_unsafe w ⟨b, 0, none⟩ Try.underlying73 Try.underlying102 hj (by rw [hjs]; decide) hsh (Nat.zero_lt_succ 1)]
  simp only [Result.andThen]
  rw [Oper.upon_value]
  go_wp2_with fail
  rw [run_callFunc_extern Try.func59 (by kernel_rfl) (by kernel_rfl) (by kernel_rfl) (e := Extern.AbiNoEscape.same) (by kernel_rfl)]
  rw [Lib.run_noEscape]
  simp only [Result.andThen]
  rw [Oper.upon_value]
  go_wp2_with fail
  rw [Lib.run_from_unsafe w ⟨b, 0, none⟩ Try.underlying102 Try.underlying73 hj hsh (by kernel_rfl)]
  simp only [Result.andThen]
  rw [Oper.upon_value]
  go_wp2
  go_end0
  exact ⟨rfl, rfl⟩
theorem info5 : (Try.prog.info? 5).map (fun i => (i.zero, i.size, i.bytes)) = some (some (.int .u8 0), 1, 1) := by kernel_rfl
theorem own_sizeV {w : World} {B n : Nat} {v : Value} {xs : List Value} (h : w.ownsRow B 5 1 v n xs) : ∃ o c, v = .slice o n c := by
  obtain ⟨_, ⟨rfl, h0⟩ | ⟨g, cap, cur, rfl, _⟩⟩ := h
  · exact ⟨none, 0, by rw [h0]⟩
  · exact ⟨_, _, rfl⟩
/-- A text appended to bytes, kept shut. -/
def apT (ty : Nat) (vs : Array Value) : Sem Value := Builtin.append_ #[74, 9] ty vs
theorem toApT (ty : Nat) (vs : Array Value) : Builtin.append_ #[74, 9] ty vs = apT ty vs := rfl
theorem cc_any (B b : Nat) (xs : List Value) (w : World) (h : Lib.IsBuilder 76 5 B b xs w) :
    Calls Try.prog 45 #[.pointer (some ⟨b, 0, none⟩)] w fun e w' => e = .returned (.tuple #[]) ∧ Lib.BuilderAt 76 5 B b (.pointer (some ⟨b, 0, none⟩)) xs w' ∧ Below B w w' := by
  rcases h with ⟨h1, v, h2, h3, h4⟩ | h
  · refine (cc_new b v w h2).mono ?_
    rintro e w' ⟨he, rfl⟩
    refine ⟨he, ⟨h1, v, (heap_setCell_same w b 0 _ _ _ h2).trans rfl, ?_, h4⟩, (Below.refl B w).setCell (p := ⟨b, 0, none⟩) h1 _⟩
    obtain ⟨k1, k2⟩ := h3
    refine ⟨k1, k2.imp_right fun ⟨g, cap, cur, q1, q2, q3, q4⟩ => ⟨g, cap, cur, q1, q2, (heap_setCell_other _ _ _ _ (fun e => h4 (by rw [q1, e]; rfl))).trans q3, q4⟩⟩
  · obtain ⟨h1, v, h2, h3, h4⟩ := h
    refine (cc_used b v w h2).mono ?_
    rintro e w' ⟨he, rfl⟩
    exact ⟨he, ⟨h1, v, h2, h3, h4⟩, Below.refl _ _⟩
attribute [local go_sem ↓] toApT
set_option maxRecDepth 100000 in
set_option maxHeartbeats 1000000 in
theorem ws_any (B b : Nat) (xs : List Value) (s : ByteArray) (w : World) (h : Lib.IsBuilder 76 5 B b xs w) (hl : xs.length + s.size ≤ 8796093022208) (hB : B ≤ w.heap.size) :
    Calls Try.prog 38 #[.pointer (some ⟨b, 0, none⟩), .string s] w fun e w' => e = .returned (.tuple #[.int .i64 (s.size : Int), .nilIface]) ∧ Lib.IsBuilder 76 5 B b (xs ++ Lib.strCells s) w' ∧ Below B w w' := by
  have C : Hid _ := cc_any B b xs w h
  clear h
  go_enter Try.func38, Try.ntmps38
  go_wp2_with fail
  refine Calls.mono C.out ?_
  rintro e W ⟨rfl, ⟨h1, v, h2, h3, h4⟩, hb⟩
  clear C
  obtain ⟨i0, hi0, hz0, hz1, hz2⟩ := info_parts info5
  obtain ⟨v', W2, r, ho, hg, -⟩ := Lib.run_append_own_string (P := Try.prog) (w := W) B 74 9 74 5 i0 Try.underlying74 Try.underlying9 hi0 hz0 hz1 hz2 v xs.length xs h3 s (by unfold maxLen; omega) (by omega) (Nat.le_trans hB hb.size)
  obtain ⟨o, c, hv⟩ := own_sizeV h3
  subst hv
  obtain ⟨o', c', hv'⟩ := own_sizeV ho
  subst hv'
  have r' : (apT 74 #[.slice o xs.length c, .string s]).run Try.prog W = .ok (.slice o' (xs.length + s.size) c') W2 := r
  have bz : b < W.heap.size := (Array.getElem?_eq_some_iff.1 h2).1
  have h22 : W2.heap[b]? = _ := (hg.block b bz (fun e => h4 e.symm)).trans h2
  have c1 : W.cell? ⟨b, 1, none⟩ = some (.slice o xs.length c) := (cell_of_row W b 1 _ _ _ h2).trans rfl
  have c2 : W2.cell? ⟨b, 1, none⟩ = some (.slice o xs.length c) := (cell_of_row W2 b 1 _ _ _ h22).trans rfl
  have f2 : W2.frozen? ⟨b, 1, none⟩ = false := frozen_of_row W2 _ _ _ _ h22
  have HE : Hid (Lib.IsBuilder 76 5 B b (xs ++ Lib.strCells s) (W2.setCell ⟨b, 1, none⟩ (.slice o' (xs.length + s.size) c')) ∧ Below B w (W2.setCell ⟨b, 1, none⟩ (.slice o' (xs.length + s.size) c'))) := by
    have hbW : Below B w W2 := hb.trans ⟨hg.os, hg.tape, hg.output, hg.size, fun j hj => hg.block j (by have := hb.size; omega) (fun e => by have := (h3.lt j e.symm).1; omega)⟩
    have hlen : (xs ++ Lib.strCells s).length = xs.length + s.size := by rw [List.length_append, Lib.strCells_length]
    have hne : (Value.slice o' (xs.length + s.size) c').ownBlock ≠ some b := by
      intro e
      obtain ⟨k1, ⟨q1, q2⟩ | ⟨g, cap, cur, q1, q2, q3, q4⟩⟩ := ho
      · rw [q1] at e; cases e
      · have : g = b := by rw [q1] at e; cases e; rfl
        rw [this, h22] at q3
        simp at q3
    refine ⟨.inr ⟨h1, _, (heap_setCell_same W2 b 1 _ _ _ h22).trans rfl, ?_, hne⟩, hbW.setCell (p := ⟨b, 1, none⟩) h1 _⟩
    rw [hlen]
    obtain ⟨k1, k2⟩ := ho
    refine ⟨k1, k2.imp_right fun ⟨g, cap, cur, q1, q2, q3, q4⟩ => ⟨g, cap, cur, q1, q2, (heap_setCell_other _ _ _ _ (fun e => hne (by rw [q1, e]; rfl))).trans q3, q4⟩⟩
  clear h2 h3 h4 ho hg h22 r hb
  go_wp2
  go_ret2
  exact ⟨rfl, HE.out⟩
theorem stX : Builder.Extra Try.prog Try.stL_ren where
  sizeBuilder := by kernel_rfl
  liesBuilder := by kernel_rfl
  t5 := Try.underlying5
  a5 := Try.isAgg5
  z5 := Try.sizeOf5
  v5 := Try.zeroValue5
  infoByte := by kernel_rfl
  cellsByte := by kernel_rfl
  sizeByte := by kernel_rfl
  neB5 := by decide
theorem bs_app2 (a b : ByteArray) : (⟨(a.data.toList ++ b.data.toList).toArray⟩ : ByteArray) = a ++ b := by
  apply ByteArray.ext
  rw [ByteArray.data_append]
  simp
theorem own_belowV {W W' : World} {B n : Nat} {v : Value} {xs : List Value} (h : W.ownsRow B 5 1 v n xs) (hb : Below W.heap.size W W') : W'.ownsRow B 5 1 v n xs := by
  obtain ⟨k1, k2⟩ := h
  exact ⟨k1, k2.imp_right fun ⟨g, cap, cur, q1, q2, q3, q4⟩ => ⟨g, cap, cur, q1, q2, (hb.block g (Array.getElem?_eq_some_iff.1 q3).1).trans q3, q4⟩⟩
theorem isB_below {W W' : World} {B b : Nat} {xs : List Value} (h : Lib.IsBuilder 76 5 B b xs W) (hb : Below W.heap.size W W') : Lib.IsBuilder 76 5 B b xs W' := by
  rcases h with ⟨h1, v, h2, h3, h4⟩ | ⟨h1, v, h2, h3, h4⟩
  · exact .inl ⟨h1, v, (hb.block b (Array.getElem?_eq_some_iff.1 h2).1).trans h2, own_belowV h3 hb, h4⟩
  · exact .inr ⟨h1, v, (hb.block b (Array.getElem?_eq_some_iff.1 h2).1).trans h2, own_belowV h3 hb, h4⟩
end Go.Proofs.Ytcggaiplepekdaa
