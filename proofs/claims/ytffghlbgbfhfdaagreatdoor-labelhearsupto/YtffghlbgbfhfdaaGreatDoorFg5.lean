/- headOf: its parts. -/
import Derived.Test.YtffghlbgbfhfdaaGreatDoorFg4
import Derived.Shelf.Strconv.Itoa3
namespace Go.Proofs.YtffghlbgbfhfdaaGreatDoor
open Go.RowKit Go.Shelf Go.Sort
shelf_lay Lays.n171 Nm 171 at Tryz as Tryz.itL
def itoaT (i : Nat) : ByteArray := ⟨(Lib.decDigits i).toArray⟩
theorem itoa_any (i : Nat) (hi : i < 100) (w : World) : Calls Tryz.prog 39 #[.int .i64 (i : Int)] w fun e w' => e = .returned (.string (itoaT i)) ∧ w' = w := Any.strconv_Itoa_small Tryz.itL i hi w
/-- A text written into a builder: blocks of other kinds stay. -/
theorem cc_any2 (B b : Nat) (xs : List Value) (w : World) (h : Lib.IsBuilder 80 5 B b xs w) :
    Calls Tryz.prog 53 #[.pointer (some ⟨b, 0, none⟩)] w fun e w' => e = .returned (.tuple #[]) ∧ Lib.BuilderAt 80 5 B b (.pointer (some ⟨b, 0, none⟩)) xs w' ∧ Below B w w' ∧ ∀ j, j ≠ b → w'.heap[j]? = w.heap[j]? := by
  rcases h with ⟨h1, v, h2, h3, h4⟩ | h
  · refine (cc_new b v w h2).mono ?_
    rintro e w' ⟨he, rfl⟩
    refine ⟨he, ⟨h1, v, (heap_setCell_same w b 0 _ _ _ h2).trans rfl, ?_, h4⟩, (Below.refl B w).setCell (p := ⟨b, 0, none⟩) h1 _, fun j hj => heap_setCell_other _ _ _ _ hj⟩
    obtain ⟨k1, k2⟩ := h3
    refine ⟨k1, k2.imp_right fun ⟨g, cap, cur, q1, q2, q3, q4⟩ => ⟨g, cap, cur, q1, q2, (heap_setCell_other _ _ _ _ (fun e => h4 (by rw [q1, e]; rfl))).trans q3, q4⟩⟩
  · obtain ⟨h1, v, h2, h3, h4⟩ := h
    refine (cc_used b v w h2).mono ?_
    rintro e w' ⟨he, rfl⟩
    exact ⟨he, ⟨h1, v, h2, h3, h4⟩, Below.refl _ _, fun _ _ => rfl⟩
attribute [local go_sem ↓] toApT
set_option maxRecDepth 100000 in
set_option maxHeartbeats 1000000 in
theorem ws_far (B b : Nat) (xs : List Value) (s : ByteArray) (w : World) (h : Lib.IsBuilder 80 5 B b xs w) (hl : xs.length + s.size ≤ 1099511627776) (hB : B ≤ w.heap.size) (g : Nat) (C : Array Value) (hg0 : w.heap[g]? = some (.cells C 51 (0, 0))) :
    Calls Tryz.prog 36 #[.pointer (some ⟨b, 0, none⟩), .string s] w fun e w' => e = .returned (.tuple #[.int .i64 (s.size : Int), .nilIface]) ∧ Lib.IsBuilder 80 5 B b (xs ++ Lib.strCells s) w' ∧ Below B w w' ∧ w'.heap[g]? = some (.cells C 51 (0, 0)) := by
  have hgb : g ≠ b := by
    rintro rfl
    rcases h with ⟨h1, v, h2, -⟩ | ⟨h1, v, h2, -⟩ <;> (rw [h2] at hg0; simp at hg0)
  have C0 : Hid _ := cc_any2 B b xs w h
  have HG0 : Hid (w.heap[g]? = some (.cells C 51 (0, 0))) := hg0
  clear h hg0
  go_enter Tryz.func36, Tryz.ntmps36
  go_wp2_with fail
  refine Calls.mono C0.out ?_
  rintro e W ⟨rfl, ⟨h1, v, h2, h3, h4⟩, hb, hfr⟩
  have HG1 : Hid (W.heap[g]? = some (.cells C 51 (0, 0))) := (hfr g hgb).trans HG0.out
  clear C0 HG0 hfr
  obtain ⟨i0, hi0, hz0, hz1, hz2⟩ := info_parts info5
  obtain ⟨v', W2, r, ho, hg, -⟩ := Lib.run_append_own_string (P := Tryz.prog) (w := W) B 38 9 38 5 i0 Tryz.underlying38 Tryz.underlying9 hi0 hz0 hz1 hz2 v xs.length xs h3 s (by unfold maxLen; omega) (by omega) (Nat.le_trans hB hb.size)
  have hgo : some g ≠ v.ownBlock := by
    intro e
    obtain ⟨k1, ⟨q1, q2⟩ | ⟨g', cap, cur, q1, q2, q3, q4⟩⟩ := h3
    · rw [q1] at e; cases e
    · have : g' = g := by rw [q1] at e; cases e; rfl
      rw [this, HG1.out] at q3
      simp at q3
  obtain ⟨o, c, hv⟩ := own_sizeV h3
  subst hv
  obtain ⟨o', c', hv'⟩ := own_sizeV ho
  subst hv'
  have r' : (apT 38 #[.slice o xs.length c, .string s]).run Tryz.prog W = .ok (.slice o' (xs.length + s.size) c') W2 := r
  have bz : b < W.heap.size := (Array.getElem?_eq_some_iff.1 h2).1
  have h22 : W2.heap[b]? = _ := (hg.block b bz (fun e => h4 e.symm)).trans h2
  have c1 : W.cell? ⟨b, 1, none⟩ = some (.slice o xs.length c) := (cell_of_row W b 1 _ _ _ h2).trans rfl
  have c2 : W2.cell? ⟨b, 1, none⟩ = some (.slice o xs.length c) := (cell_of_row W2 b 1 _ _ _ h22).trans rfl
  have f2 : W2.frozen? ⟨b, 1, none⟩ = false := frozen_of_row W2 _ _ _ _ h22
  have HE : Hid (Lib.IsBuilder 80 5 B b (xs ++ Lib.strCells s) (W2.setCell ⟨b, 1, none⟩ (.slice o' (xs.length + s.size) c')) ∧ Below B w (W2.setCell ⟨b, 1, none⟩ (.slice o' (xs.length + s.size) c')) ∧ (W2.setCell ⟨b, 1, none⟩ (.slice o' (xs.length + s.size) c')).heap[g]? = some (.cells C 51 (0, 0))) := by
    have hbW : Below B w W2 := hb.trans ⟨hg.os, hg.tape, hg.output, hg.size, fun j hj => hg.block j (by have := hb.size; omega) (fun e => by have := (h3.lt j e.symm).1; omega)⟩
    have hlen : (xs ++ Lib.strCells s).length = xs.length + s.size := by rw [List.length_append, Lib.strCells_length]
    have hne : (Value.slice o' (xs.length + s.size) c').ownBlock ≠ some b := by
      intro e
      obtain ⟨k1, ⟨q1, q2⟩ | ⟨g, cap, cur, q1, q2, q3, q4⟩⟩ := ho
      · rw [q1] at e; cases e
      · have : g = b := by rw [q1] at e; cases e; rfl
        rw [this, h22] at q3
        simp at q3
    refine ⟨.inr ⟨h1, _, (heap_setCell_same W2 b 1 _ _ _ h22).trans rfl, ?_, hne⟩, hbW.setCell (p := ⟨b, 1, none⟩) h1 _, (heap_setCell_other _ _ _ _ hgb).trans ((hg.block g (Array.getElem?_eq_some_iff.1 HG1.out).1 hgo).trans HG1.out)⟩
    rw [hlen]
    obtain ⟨k1, k2⟩ := ho
    refine ⟨k1, k2.imp_right fun ⟨g, cap, cur, q1, q2, q3, q4⟩ => ⟨g, cap, cur, q1, q2, (heap_setCell_other _ _ _ _ (fun e => hne (by rw [q1, e]; rfl))).trans q3, q4⟩⟩
  clear h2 h3 h4 ho hg h22 r hb hgo HG1
  go_wp2
  go_ret2
  exact ⟨rfl, HE.out⟩
theorem itoa_len : ∀ i : Fin 100, (Lib.decDigits i.val).length ≤ 2 := by decide +kernel
theorem itoaT_size (i : Nat) (hi : i < 100) : (itoaT i).size ≤ 2 := by
  have := itoa_len ⟨i, hi⟩
  show (Lib.decDigits i).toArray.size ≤ 2
  simpa using this
/-- What stands ahead of a reference's base. -/
def colS : ByteArray := ⟨#[58, 47, 103, 114, 97, 102, 116, 47, 115, 116, 111, 114, 101, 47]⟩
def selfT : ByteArray := ⟨#[58, 115, 101, 108, 102]⟩
def refT (x : Lb) : ByteArray := colS ++ baseS x.h x.s
theorem refT_size (x : Lb) : (refT x).size = 47 + x.s.size := by
  unfold refT
  rw [app_size, baseS_size x.h x.s x.hl]
  show 14 + (33 + x.s.size) = _
  omega
/-- The cells of the references' texts. -/
def refC (M : List Lb) : List Value := M.flatMap fun x => Lib.strCells (refT x)
theorem refC_snoc (M : List Lb) (x : Lb) : refC (M ++ [x]) = refC M ++ Lib.strCells (refT x) := by unfold refC; simp
theorem refC_len : ∀ M : List Lb, (∀ x ∈ M, x.s.size ≤ 211) → (refC M).length ≤ 258 * M.length
  | [], _ => by simp [refC]
  | x :: r, h => by
    have h1 := h x (by simp)
    have h2 := refC_len r (fun y hy => h y (by simp [hy]))
    have h3 := refT_size x
    have : refC (x :: r) = Lib.strCells (refT x) ++ refC r := by unfold refC; simp
    rw [this, List.length_append, Lib.strCells_length, List.length_cons, h3]
    omega
/-- What may be said has this. -/
structure Ok (f : Fg) : Prop where
  k1 : 1 ≤ f.k
  k4 : f.k ≤ 4
  un : unV f = false
  nm : okN f.nm = 0
  out : f.k = 3 → okN f.out = 0
  i0 : 0 ≤ f.ix
  i6 : f.ix < 64
  ln : f.L.length ≤ 256
  rf : ∀ x ∈ f.L, okN x.s = 0
theorem badN_ok : ∀ L : List Lb, badN L = 0 → ∀ x ∈ L, okN x.s = 0
  | [], _, _, h => by simp at h
  | y :: r, h, x, hx => by
    rw [badN] at h
    by_cases e : okN y.s = 0
    · rw [if_pos e] at h
      rcases List.mem_cons.1 hx with rfl | hx
      · exact e
      · exact badN_ok r h x hx
    · rw [if_neg e] at h
      exact absurd h e
theorem ok_of {f : Fg} (h : chkV f = 0) : Ok f := by
  unfold chkV at h
  split at h
  · cases h
  · rename_i h1
    split at h
    · cases h
    · rename_i h2
      split at h
      · rename_i h3; exact absurd h h3
      · rename_i h3
        split at h
        · rename_i h4; exact absurd h h4.2
        · rename_i h4
          split at h
          · cases h
          · rename_i h5
            unfold refV at h
            split at h
            · cases h
            · rename_i h6
              exact ⟨by omega, by omega, by simpa using h2, by omega, fun e => by
                by_cases q : okN f.out = 0
                · exact q
                · exact absurd ⟨e, q⟩ h4, by omega, by omega, by omega, badN_ok _ h⟩
def kwV (k : Int) : ByteArray := if k = 1 then kwT else if k = 2 then kwS else if k = 3 then kwO else kwM
/-- What stands behind the references. -/
def tlC (f : Fg) : List Value := (if f.self then Lib.strCells selfT else []) ++ (if f.k = 3 then Lib.strCells (colw ++ f.out) else if f.k = 4 then Lib.strCells (colw ++ itoaT f.ix.toNat) else [])
def tlT (f : Fg) : ByteArray := (if f.self then selfT else ⟨#[]⟩) ++ (if f.k = 3 then colw ++ f.out else if f.k = 4 then colw ++ itoaT f.ix.toNat else ⟨#[]⟩)
def refsT : List Lb → ByteArray
  | [] => ⟨#[]⟩
  | x :: r => refT x ++ refsT r
/-- The head. -/
def headT (f : Fg) : ByteArray := kwV f.k ++ refsT (dd (srt f.L)) ++ tlT f
theorem strC_app (a b : ByteArray) : Lib.strCells (a ++ b) = Lib.strCells a ++ Lib.strCells b := by
  rw [Lib.strCells_eq, Lib.strCells_eq, Lib.strCells_eq, ← Lib.byteCells_append, ByteArray.data_append]
  simp
theorem strC_nil : Lib.strCells ⟨#[]⟩ = [] := by rw [Lib.strCells_eq]; rfl
theorem refC_eq : ∀ M : List Lb, refC M = Lib.strCells (refsT M)
  | [] => by rw [refsT, strC_nil]; rfl
  | x :: r => by
    rw [refsT, strC_app, ← refC_eq r]
    unfold refC
    simp
theorem tlC_eq (f : Fg) : tlC f = Lib.strCells (tlT f) := by
  have h1 : (if f.self then Lib.strCells selfT else []) = Lib.strCells (if f.self then selfT else ⟨#[]⟩) := by
    split
    · rfl
    · rw [strC_nil]
  have h2 : (if f.k = 3 then Lib.strCells (colw ++ f.out) else if f.k = 4 then Lib.strCells (colw ++ itoaT f.ix.toNat) else []) = Lib.strCells (if f.k = 3 then colw ++ f.out else if f.k = 4 then colw ++ itoaT f.ix.toNat else ⟨#[]⟩) := by
    split
    · rfl
    · split
      · rfl
      · rw [strC_nil]
  unfold tlC tlT
  rw [h1, h2]
  exact (strC_app _ _).symm
theorem head_cells (f : Fg) : Lib.strCells (kwV f.k) ++ refC (dd (srt f.L)) ++ tlC f = Lib.strCells (headT f) := by
  unfold headT
  rw [strC_app, strC_app, refC_eq, tlC_eq]
end Go.Proofs.YtffghlbgbfhfdaaGreatDoor
