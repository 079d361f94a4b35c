/- JournalDevices: the operations as they lie; done. -/
import Derived.Test.YtdiflmckjpmngaaJv2
namespace Go.Proofs.Ytdiflmckjpmngaa
open Go.RowKit
/-- The document's device with its operations. -/
structure Ro [Inhabited HoleT] (lo : Nat) (W : World) (v : Nat) (ov : Value) (B : List Nat × List Nat) (s : Fl × Fl) (xs : List (Array Value)) (os : List Opn) : Prop where
  rw : Rw lo W v ov B s.1 s.2
  own : W.ownsRow lo 68 4 ov xs.length (flat xs)
  len : os.length = xs.length
  hb : holeB ≤ W.heap.size
  each : ∀ (i : Nat) a o, xs[i]? = some a → os[i]? = some o → ∃ pv, a = opA o pv ∧ Bq (Qd lo W v ov) W pv o.2.2.1
theorem Rw.keep [Inhabited HoleT] {lo v : Nat} {W W' : World} {ov : Value} {B : List Nat × List Nat} {x y : Fl} (h : Rw lo W v ov B x y) (hb : Below W.heap.size W W') : Rw lo W' v ov B x y := by
  obtain ⟨b0, b1, s0, s1, l0, l1, hr, hb0, hb1, hs0, hs1, hl0, hl1⟩ := h.row
  have k : ∀ u l, Bq (Qd lo W v ov) W u l → Bq (Qd lo W' v ov) W' u l := fun u l q => q.keep (fun j hj => hb.block j hj.2.1) (fun j hj => ⟨hj.1, Nat.lt_of_lt_of_le hj.2.1 hb.size, hj.2.2⟩)
  exact ⟨⟨b0, b1, s0, s1, l0, l1, (hb.block v (Array.getElem?_eq_some_iff.1 hr).1).trans hr, k _ _ hb0, k _ _ hb1, k _ _ hs0, k _ _ hs1, k _ _ hl0, k _ _ hl1⟩, h.lov, h.lims⟩
theorem own_keep {W W' : World} {lo e sz n : Nat} {v : Value} {xs : List Value} (h : W.ownsRow lo e sz v n xs) (hb : ∀ g, v.ownBlock = some g → W'.heap[g]? = W.heap[g]?) : W'.ownsRow lo e sz v n xs := by
  obtain ⟨h0, h1⟩ := h
  refine ⟨h0, ?_⟩
  rcases h1 with h1 | ⟨g, cap, cur, rfl, hB, hg, hr⟩
  · exact .inl h1
  · exact .inr ⟨g, cap, cur, rfl, hB, (hb g rfl).trans hg, hr⟩
theorem Ro.below [Inhabited HoleT] {lo v : Nat} {W W' : World} {ov : Value} {B : List Nat × List Nat} {s : Fl × Fl} {xs : List (Array Value)} {os : List Opn} (h : Ro lo W v ov B s xs os) (hb : Below W.heap.size W W') : Ro lo W' v ov B s xs os :=
  ⟨h.rw.keep hb, own_keep h.own (fun g hg => hb.block g (h.own.lt g hg).2), h.len, Nat.le_trans h.hb hb.size, fun i a o h1 h2 => by
    obtain ⟨pv, e, q⟩ := h.each i a o h1 h2
    exact ⟨pv, e, q.keep (fun j hj => hb.block j hj.2.1) (fun j hj => ⟨hj.1, Nat.lt_of_lt_of_le hj.2.1 hb.size, hj.2.2⟩)⟩⟩
theorem Ro.ownrow [Inhabited HoleT] {lo v : Nat} {W : World} {ov : Value} {B : List Nat × List Nat} {s : Fl × Fl} {xs : List (Array Value)} {os : List Opn} (h : Ro lo W v ov B s xs os) : ov.ownBlock ≠ some v := fun e => by
  obtain ⟨b0, b1, s0, s1, l0, l1, hr, -⟩ := h.rw.row
  rcases h.own.2 with ⟨h1, _⟩ | ⟨g', cap, cur, h1, h2, h3, _⟩
  · rw [h1] at e; cases e
  · rw [h1] at e
    obtain rfl : g' = v := by simpa [Value.ownBlock] using e
    have := hr.symm.trans h3
    injection this with e1
    injection e1 with e1 e2
    cases e2
def apO (ty : Nat) (vs : Array Value) : Sem Value := Builtin.append_ #[62, 62] ty vs
theorem toApO (ty : Nat) (vs : Array Value) : Builtin.append_ #[62, 62] ty vs = apO ty vs := rfl
theorem infoO : (Try.prog.info? 68).map (fun i => (i.zero, i.size, i.bytes)) = some (some (.agg #[.int .i64 0, .int .i64 0, .slice none 0 0, .int .i64 0]), 4, 48) := by kernel_rfl
/-- One operation more. -/
theorem run_apO1 (w : World) (base n : Nat) (v : Value) (ls : List (Array Value)) (t : Array Value) (hown : w.ownsRow base 68 4 v n (flat ls)) (ht : t.size = 4) (h1 : t.all (·.oneCell') = true) (hb : n + 1 ≤ 1000000) (hbase : base ≤ w.heap.size) :
    ∃ v' w', (apO 62 #[v, .slice (some ⟨w.heap.size, 0, none⟩) 1 1]).run Try.prog (w.alloc (.cells t 68)) = .ok v' w' ∧ w'.ownsRow base 68 4 v' (n + 1) (flat (ls ++ [t])) ∧ (w.alloc (.cells t 68)).grownBy w' v.ownBlock ∧ (v'.ownBlock = v.ownBlock ∨ v'.ownBlock = some (w.heap.size + 1)) := by
  obtain ⟨i0, hi0, hz0, hz1, hz2⟩ := info_parts infoO
  obtain ⟨v', w', hr, ho, hg, _, hat⟩ := run_append_own_at (P := Try.prog) (w.alloc (.cells t 68)) base 62 62 68 i0 _ 4 48 Try.underlying62 hi0 hz0 hz1 hz2 rfl (by omega) v n _ (hown.alloc _) ⟨w.heap.size, 0, none⟩ 1 1 t.toList (by simp [ht]) (fun j u hu => cells_new w t _ j u hu) (fun u hu => by
      have := Array.all_eq_true_iff_forall_mem.1 h1 u (by simpa using hu)
      exact this) (by unfold maxLen; omega) (by omega) (by simp; omega)
  refine ⟨v', w', hr, ?_, hg, ?_⟩
  · rw [flat_app, show flat [t] = t.toList by simp [flat]]
    exact ho
  · simpa using hat
def ldO (p : Value) : Sem Value := Instr.loadAt 68 p
theorem toLdO (p : Value) : Instr.loadAt 68 p = ldO p := rfl
theorem sizeO : (Try.prog.info? 68).map (·.size) = some 4 := by kernel_rfl
theorem ld_O (w : World) (g o : Nat) (c : Array Value) (hc : c.size = 4) (h : w.rangeAt g o c.toList) : (ldO (.pointer (some ⟨g, o, none⟩))).run Try.prog w = .ok (.agg c) w := by
  have := run_loadAt_mid (P := Try.prog) w g o 68 c.toList _ h Try.underlying68 rfl (by rw [sizeO]; simp [hc])
  simpa [ldO] using this
theorem ld_Orow (w : World) (g : Nat) (c : Array Value) (hc : c.size = 4) (h : w.heap[g]? = some (.cells c 68 (0, 0))) : (ldO (.pointer (some ⟨g, 0, none⟩))).run Try.prog w = .ok (.agg c) w := by
  refine ld_O w g 0 c hc ?_
  have := World.rangeAt_of_block h 0 4
  rwa [show c.extract 0 (0 + 4) = c by rw [← hc, Nat.zero_add]; simp] at this
/-- One operation more on a device. -/
theorem Ro.more [Inhabited HoleT] {lo v : Nat} {W X V : World} {ov v' : Value} {B : List Nat × List Nat} {s t : Fl × Fl} {xs : List (Array Value)} {os : List Opn} {o : Opn} {pv : Value} (h : Ro lo W v ov B s xs os) (hp : Bq (Qd lo W v ov) W pv o.2.2.1)
    (hX : Fv W X v) (hrw : Rw lo X v ov B t.1 t.2) (ho : V.ownsRow lo 68 4 v' (xs.length + 1) (flat (xs ++ [opA o pv]))) (hg : (X.alloc (.cells (opA o pv) 68)).grownBy V ov.ownBlock) (hat : v'.ownBlock = ov.ownBlock ∨ v'.ownBlock = some (X.heap.size + 1)) :
    V.cell? ⟨v, 2, none⟩ = some ov ∧ V.frozen? ⟨v, 2, none⟩ = false ∧ Ro lo (V.setCell ⟨v, 2, none⟩ v') v v' B t (xs ++ [opA o pv]) (os ++ [o]) ∧ Fr W (V.setCell ⟨v, 2, none⟩ v') v ov := by
  obtain ⟨b0, b1, s0, s1, l0, l1, hr, hb0, hb1, hs0, hs1, hl0, hl1⟩ := hrw.row
  have hvX : v < X.heap.size := (Array.getElem?_eq_some_iff.1 hr).1
  have hzs := hX.size
  have hza : (X.alloc (.cells (opA o pv) 68)).heap.size = X.heap.size + 1 := by simp
  have hzV : X.heap.size + 1 ≤ V.heap.size := by have := hg.size; omega
  have kp : ∀ j, j < X.heap.size → ov.ownBlock ≠ some j → V.heap[j]? = X.heap[j]? := fun j hj hn => (hg.block j (by omega) (fun e => hn e.symm)).trans (heap_alloc_old _ _ (h := hj))
  have hvo := h.ownrow
  have hvo' : v'.ownBlock ≠ some v := fun e => by
    rcases hat with q | q
    · exact hvo (q.symm.trans e)
    · rw [q] at e; injection e with e; omega
  have rV : V.heap[v]? = some (.cells #[b0, b1, ov, s0, s1, l0, l1] 64 (0, 0)) := (kp v hvX hvo).trans hr
  have oth : ∀ j, j ≠ v → (V.setCell ⟨v, 2, none⟩ v').heap[j]? = V.heap[j]? := fun j hj => heap_setCell_other _ _ _ _ (by show j ≠ v; exact hj)
  have qd : ∀ j, Qd lo X v ov j → (V.setCell ⟨v, 2, none⟩ v').heap[j]? = X.heap[j]? ∧ Qd lo (V.setCell ⟨v, 2, none⟩ v') v v' j := fun j hj => by
    obtain ⟨h1, h2, h3, h4⟩ := hj
    refine ⟨(oth j h3).trans (kp j h2 h4), h1, by show j < (V.setCell _ _).heap.size; simp; omega, h3, fun e => ?_⟩
    rcases hat with q | q
    · exact h4 (q.symm.trans e)
    · rw [q] at e; injection e with e; omega
  have k : ∀ u l, Bq (Qd lo X v ov) X u l → Bq (Qd lo (V.setCell ⟨v, 2, none⟩ v') v v') (V.setCell ⟨v, 2, none⟩ v') u l := fun u l q => q.keep (fun j hj => (qd j hj).1) (fun j hj => (qd j hj).2)
  have kW : ∀ u l, Bq (Qd lo W v ov) W u l → Bq (Qd lo X v ov) X u l := fun u l q => q.keep (fun j hj => hX.block j hj.2.1 hj.2.2.1) (fun j hj => ⟨hj.1, Nat.lt_of_lt_of_le hj.2.1 hzs, hj.2.2⟩)
  refine ⟨by rw [cell_of_row _ _ _ _ _ _ rV]; rfl, frozen_of_row _ _ _ _ _ rV, ⟨⟨⟨b0, b1, s0, s1, l0, l1, heap_setCell_same _ _ _ _ _ _ rV, k _ _ hb0, k _ _ hb1, k _ _ hs0, k _ _ hs1, k _ _ hl0, k _ _ hl1⟩, hrw.lov, hrw.lims⟩, ?_, by rw [List.length_append, List.length_append, h.len]; rfl, by have := h.hb; simp; omega, fun i a o' h1 h2 => ?_⟩, ?_⟩
  · rw [List.length_append]
    exact own_keep ho (fun g hg2 => oth g (fun e => hvo' (by rw [hg2, e])))
  · rcases Nat.lt_or_ge i xs.length with hi | hi
    · obtain ⟨pw, e, q⟩ := h.each i a o' (by rwa [List.getElem?_append_left hi] at h1) (by rwa [List.getElem?_append_left (by rw [h.len]; exact hi)] at h2)
      exact ⟨pw, e, k _ _ (kW _ _ q)⟩
    · have hi2 : i = xs.length := by
        have := (List.getElem?_eq_some_iff.1 h1).1
        simp at this
        omega
      subst hi2
      obtain rfl : opA o pv = a := by simpa using h1
      obtain rfl : o = o' := by
        rw [← h.len] at h2
        simpa using h2
      exact ⟨pv, rfl, k _ _ (kW _ _ hp)⟩
  · have b1 : Below 0 X (X.alloc (.cells (opA o pv) 68)) := (Below.refl 0 X).alloc (Nat.zero_le _) _
    have b2 : Below 0 V (V.setCell ⟨v, 2, none⟩ v') := (Below.refl 0 V).setCell (Nat.zero_le _) _
    exact ⟨b2.os.trans (hg.os.trans (b1.os.trans hX.os)), b2.tape.trans (hg.tape.trans (b1.tape.trans hX.tape)), b2.output.trans (hg.output.trans (b1.output.trans hX.output)), by simp; omega, fun j hj hn ho => (oth j hn).trans ((kp j (by omega) ho).trans (hX.block j hj hn))⟩
end Go.Proofs.Ytdiflmckjpmngaa
