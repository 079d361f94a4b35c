/- JournalDevices: done. -/
import Derived.Test.YtdiflmckjpmngaaJv3
namespace Go.Proofs.Ytdiflmckjpmngaa
open Go.RowKit
/-- What an operation of the document's device leaves. -/
def DnP [Inhabited HoleT] (lo : Nat) (W : World) (v : Nat) (ov : Value) (B : List Nat × List Nat) (s : Fl × Fl) (xs : List (Array Value)) (os : List Opn) (o : Opn) (e : Ending) (w' : World) : Prop := e = .returned (.int .i64 0) ∧ ∃ ov' a, Ro lo w' v ov' B (stepD o s) (xs ++ [a]) (os ++ [o]) ∧ Fr W w' v ov
section
attribute [local go_sem ↓] toLdO toApO
set_option maxRecDepth 100000 in
set_option maxHeartbeats 3200000 in
theorem done_any [Inhabited HoleT] {lo v : Nat} {W : World} {ov : Value} {B : List Nat × List Nat} {s : Fl × Fl} {xs : List (Array Value)} {os : List Opn} (h : Ro lo W v ov B s xs os) (hlo : lo ≤ W.heap.size) (hbig : xs.length < 1000000) (o : Opn) (pv : Value) (hp : Bq (Qd lo W v ov) W pv o.2.2.1) (hk : okO o s) :
    Calls Try.prog 34 #[.pointer (some ⟨v, 0, none⟩), .agg (opA o pv)] W (DnP lo W v ov B s xs os o) := by
  obtain ⟨W1, hW1⟩ : ∃ W1, W.alloc (.cells (opA o pv) 68) = W1 := ⟨_, rfl⟩
  have b1 : Below W.heap.size W W1 := by rw [← hW1]; exact (Below.refl _ W).alloc (Nat.le_refl _) _
  have hz1 : W1.heap.size = W.heap.size + 1 := by rw [← hW1]; simp
  have r1 : W1.heap[W.heap.size]? = some (.cells (opA o pv) 68 (0, 0)) := by rw [← hW1]; exact heap_alloc_new _ _
  have h1 := h.below b1
  have hp1 : Bq (Qd lo W1 v ov) W1 pv o.2.2.1 := hp.keep (fun j hj => b1.block j hj.2.1) (fun j hj => ⟨hj.1, Nat.lt_of_lt_of_le hj.2.1 b1.size, hj.2.2⟩)
  obtain ⟨oV, nV, cV, hov⟩ := own_sl' h.own
  have C : Hid _ := does_any h1.rw (by omega) h1.hb (fun g hg => (h1.own.lt g hg).2) ⟨_, _, _, hov⟩ o pv (hp1.keep (fun _ _ => rfl) (fun j hj => ⟨hj.2.1, hj.2.2.1⟩)) hk
  have ldw := ld_Orow W1 W.heap.size (opA o pv) rfl r1
  obtain ⟨op, cp, hpp, -⟩ := id hp
  obtain ⟨b0', b1', s0', s1', l0', l1', hr0, -⟩ := h.rw.row
  have hvW : v < W.heap.size := (Array.getElem?_eq_some_iff.1 hr0).1
  have HD : Hid (Ro lo W1 v ov B s xs os ∧ Below W.heap.size W W1 ∧ W1.heap.size = W.heap.size + 1 ∧ lo ≤ W.heap.size ∧ xs.length < 1000000 ∧ Bq (Qd lo W1 v ov) W1 pv o.2.2.1 ∧ W1.heap[W.heap.size]? = some (.cells (opA o pv) 68 (0, 0)) ∧ v < W.heap.size) := ⟨h1, b1, hz1, hlo, hbig, hp1, r1, hvW⟩
  have HW : Hid (W.alloc (.cells (opA o pv) 68) = W1) := hW1
  have HP : Hid (pv = .slice op o.2.2.1.length cp ∧ ov = .slice oV nV cV) := ⟨hpp, hov⟩
  clear h hlo hbig hp hk hW1 b1 hz1 r1 h1 hp1 hr0 hvW
  obtain ⟨q, hq⟩ : ∃ q, opA o pv = q := ⟨_, rfl⟩
  obtain ⟨k0, hk0⟩ : ∃ k : Int, (o.1 : Int) = k := ⟨_, rfl⟩
  obtain ⟨k1, hk1⟩ : ∃ k : Int, (o.2.1 : Int) = k := ⟨_, rfl⟩
  obtain ⟨k3, hk3⟩ : ∃ k : Int, (o.2.2.2 : Int) = k := ⟨_, rfl⟩
  obtain ⟨k2, hk2⟩ : ∃ k : Nat, o.2.2.1.length = k := ⟨_, rfl⟩
  have hq2 : opA o pv = #[.int .i64 k0, .int .i64 k1, .slice op k2 cp, .int .i64 k3] := by unfold opA; rw [hk0, hk1, hk3, hpp, hk2]
  have HQ : Hid (opA o pv = #[.int .i64 k0, .int .i64 k1, .slice op k2 cp, .int .i64 k3]) := hq2
  rw [hq2] at C ldw HW ⊢
  have ldw2 := ldw
  rw [← HW.out] at ldw2
  clear ldw
  clear hq hk0 hk1 hk2 hk3 hq2 hpp hov
  go_enter Try.func34, Try.ntmps34
  go_wp2_with fail
  rw [HW.out]
  refine Calls.mono C.out ?_
  rintro e X ⟨rfl, hrw, hX⟩
  obtain ⟨D1, D2, D3, D4, D5, D6, D7, D8⟩ := HD.out
  have rX : X.heap[W.heap.size]? = some (.cells (opA o pv) 68 (0, 0)) := (hX.block _ (by omega) (by omega)).trans D7
  have oX : X.ownsRow lo 68 4 ov xs.length (flat xs) := own_keep D1.own (fun g hg => hX.block g (D1.own.lt g hg).2 (fun e => D1.ownrow (by rw [hg, e])))
  have hXs := hX.size
  have bd : Below X.heap.size X X.drew := ⟨rfl, rfl, rfl, Nat.le_refl _, fun _ _ => rfl⟩
  have one : (opA o pv).all (·.oneCell') = true := by unfold opA; rw [HP.out.1]; simp [Value.oneCell']
  obtain ⟨v', V, hr, ho, hg, hat⟩ := run_apO1 X.drew lo xs.length ov xs (opA o pv) (own_keep oX (fun _ _ => rfl)) rfl one (by omega) (by show lo ≤ X.heap.size; omega)
  have hXd : Fv W1 X.drew v := ⟨hX.os, hX.tape, hX.output, hX.size, hX.block⟩
  obtain ⟨g2, f2, hR, hF⟩ := D1.more (o := o) (pv := pv) D6 hXd (hrw.keep bd) ho hg hat
  have HFIN : Hid (Ro lo (V.setCell ⟨v, 2, none⟩ v') v v' B (stepD o s) (xs ++ [opA o pv]) (os ++ [o]) ∧ Fr W (V.setCell ⟨v, 2, none⟩ v') v ov) := ⟨hR, hF.os.trans D2.os, hF.tape.trans D2.tape, hF.output.trans D2.output, Nat.le_trans D2.size hF.size, fun j hj hn ho => (hF.block j (by omega) hn ho).trans (D2.block j hj)⟩
  obtain ⟨o', n', c', hv'⟩ := own_sl' ho
  obtain ⟨b0, b1, s0, s1, l0, l1, hrX, -⟩ := hrw.row
  have hvX : v < X.heap.size := (Array.getElem?_eq_some_iff.1 hrX).1
  have c2 : X.drew.cell? ⟨v, 2, none⟩ = some ov := by show X.cell? _ = _; rw [cell_of_row _ _ _ _ _ _ hrX]; rfl
  have c2' : (X.alloc (.cells (opA o pv) 68)).drew.cell? ⟨v, 2, none⟩ = some ov := by show (X.alloc _).cell? _ = _; rw [cell_of_row _ _ _ _ _ _ ((heap_alloc_old _ _ (h := hvX)).trans hrX)]; rfl
  have ld2 := ld_Orow X.drew W.heap.size (opA o pv) rfl rX
  have hr2 : (apO 62 #[ov, .slice (some ⟨X.heap.size, 0, none⟩) 1 1]).run Try.prog (X.alloc (.cells (opA o pv) 68)).drew = .ok v' V := hr
  rw [HQ.out] at c2' ld2 hr2
  rw [HP.out.2] at c2 c2' hr2 g2
  rw [hv'] at hr2
  rw [hv'] at HFIN
  clear hrw hX D1 D2 D3 D4 D5 D6 D7 D8 rX oX hXs bd one hr ho hg hat hXd hR hF hrX hvX
  clear hv'
  go_wp2_with fail
  go_region
  go_wp2_with fail
  go_ret
  exact ⟨rfl, _, _, HFIN.out.1, HFIN.out.2⟩
end
end Go.Proofs.Ytdiflmckjpmngaa
