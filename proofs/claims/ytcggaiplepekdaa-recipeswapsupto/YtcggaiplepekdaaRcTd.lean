/- Recipes: turn. -/
import Derived.Test.YtcggaiplepekdaaRcTc
namespace Go.Proofs.Ytcggaiplepekdaa
open Go.RowKit
def NUL : S := ⟨#[48]⟩
def ZED : S := ⟨#[122]⟩
def tO1 (R : Rcp) : Rcp := match R.o[0]? with
  | some x => { R with o := R.o.set 0 (x.1, x.2.1, x.2.2.1, x.2.2.2 ++ NUL) }
  | none => R
def tO2 (R : Rcp) : Rcp := match R.o[R.o.length - 1]? with
  | some y => { R with o := R.o.set (R.o.length - 1) (y.1 ++ ZED, y.2) }
  | none => R
def turnR (R : Rcp) : Rcp := tE (tA (tS (tN (tO2 (tO1 R)))))
theorem sm_tO1 {R : Rcp} (h : Sm R) : Sm (tO1 R) := by
  unfold tO1
  split
  · unfold Sm at h ⊢
    simpa using h
  · exact h
theorem sm_tO2 {R : Rcp} (h : Sm R) : Sm (tO2 R) := by
  unfold tO2
  split
  · unfold Sm at h ⊢
    simpa using h
  · exact h
theorem sm_turn {R : Rcp} (h : Sm R) : Sm (turnR R) := sm_tE (sm_tA (sm_tS (sm_tN (sm_tO2 (sm_tO1 h)))))
theorem tO_a (R : Rcp) : (tO2 (tO1 R)).a = R.a ∧ (tO2 (tO1 R)).e = R.e := by
  have h1 : (tO1 R).a = R.a ∧ (tO1 R).e = R.e := by unfold tO1; split <;> exact ⟨rfl, rfl⟩
  have h2 : ∀ Q : Rcp, (tO2 Q).a = Q.a ∧ (tO2 Q).e = Q.e := fun Q => by unfold tO2; split <;> exact ⟨rfl, rfl⟩
  exact ⟨(h2 _).1.trans h1.1, (h2 _).2.trans h1.2⟩
theorem Tr.start {W : World} {base rb : Nat} {o n s a e l : Value} {us ls : List Value} {R : Rcp} (h : Rl base W o n s a e l us ls R) (hr : W.heap[rb]? = some (.cells (rmV o n s a e l) 30 (0, 0))) (hb : base ≤ W.heap.size) (C : Array Value) : Tr W base rb C o n s a e l us ls R ((W.alloc (.cells C 27)).alloc (.cells zR 27)) :=
  ⟨(below2 W _ _).mono hb, row2 _ _ _, row2n _ _ _, ((below2 W _ _).block rb (Array.getElem?_eq_some_iff.1 hr).1).trans hr, h.below (below2 _ _ _), hb⟩
set_option maxRecDepth 100000 in
set_option maxHeartbeats 3200000 in
theorem turn_any (W : World) (base rb : Nat) (hb : base ≤ W.heap.size) (ro rn rs ra re : Value) (sys bld : S) (o n s a e l : Value) (us ls : List Value) (R : Rcp) (hs : Sm R) (hz : ∀ p ∈ R.e, p.2.size ≤ 1000000000) (hza : ∀ x ∈ R.a, x.size ≤ 1000000000) (hzo : ∀ x ∈ R.o, x.1.size ≤ 1000000000 ∧ x.2.2.2.size ≤ 1000000000) (hr : W.heap[rb]? = some (.cells (rmV o n s a e l) 30 (0, 0))) (h : Rl base W o n s a e l us ls R) :
    Calls Try.prog 7 #[.pointer (some ⟨rb, 0, none⟩), .agg (rV ro rn rs sys bld ra re)] W (TuP W base rb sys bld o n s a e l us ls (turnR R)) := by
  have h0 := Tr.start h hr hb (rV ro rn rs sys bld ra re)
  obtain ⟨B0, hB0⟩ : ∃ B0, (W.alloc (.cells (rV ro rn rs sys bld ra re) 27)).alloc (.cells zR 27) = B0 := ⟨_, rfl⟩
  rw [hB0] at h0
  obtain ⟨xo, co, rfl, -⟩ := h.fo.form
  have el : ((R.o ++ [ONE]).map oR).length = R.o.length + 1 := by simp
  rw [el] at h0 ⊢
  have HS : Hid (Sm R ∧ (∀ p ∈ (tO2 (tO1 R)).e, p.2.size ≤ 1000000000) ∧ ∀ x ∈ (tO2 (tO1 R)).a, x.size ≤ 1000000000) := ⟨hs, by rw [(tO_a R).2]; exact hz, by rw [(tO_a R).1]; exact hza⟩
  obtain ⟨N, hN⟩ : ∃ N, R.o.length + 1 = N := ⟨_, rfl⟩
  rw [hN] at h0 ⊢
  have k4 : B0.cell? ⟨rb, 0, none⟩ = some (.slice xo N co) := c1 h0.rm rfl
  have HB : Hid (_ = B0) := hB0
  unfold rV zR at HB
  cases hq : R.o[0]? with
  | none =>
    have e0 : tO2 (tO1 R) = R := by
      have hl := List.getElem?_eq_none_iff.1 hq
      have e1 : tO1 R = R := by unfold tO1; rw [hq]
      rw [e1]
      unfold tO2
      rw [List.getElem?_eq_none (by omega)]
    have hN1 : ¬ ((1 : Int) < (N : Int)) := by
      have := List.getElem?_eq_none_iff.1 hq
      omega
    have HH : Hid _ := h0
    unfold turnR
    rw [e0] at HS ⊢
    rw [← HB.out] at k4
    unfold rV
    clear h hs el hN hq e0 hz hza hzo h0 hr hB0
    go_enter Try.func7, Try.ntmps7
    go_upto_region 1 with fail
    rename_i K2 h2 K1 h1
    have HT : Hid (∀ q w, Code.wp Try.prog (tl 4) (bodyPost Try.prog Try.f7 (TuP W base rb sys bld (.slice xo N co) n s a e l us ls (tE (tA (tS (tN R)))))) q w → K2 q w) := h2
    clear h2
    go_wp2_with fail
    rw [HB.out]
    exact HT.out _ _ (tail4 W base rb ro rn rs ra re sys bld _ _ _ _ _ _ us ls R HS.out.1 HS.out.2.1 HS.out.2.2 B0 HH.out)
  | some x =>
    have hi := (List.getElem?_eq_some_iff.1 hq).1
    have e1 : tO1 R = { R with o := R.o.set 0 (x.1, x.2.1, x.2.2.1, x.2.2.2 ++ NUL) } := by unfold tO1; rw [hq]
    obtain ⟨R1, hR1⟩ : ∃ Q, tO1 R = Q := ⟨_, rfl⟩
    have l1 : R1.o.length = R.o.length := by rw [← hR1, e1]; simp
    obtain ⟨k, hk⟩ : ∃ k, R.o.length - 1 = k := ⟨_, rfl⟩
    obtain ⟨y, hy⟩ : ∃ y, R1.o[k]? = some y := ⟨_, List.getElem?_eq_getElem (by omega)⟩
    have e2 : tO2 R1 = { R1 with o := R1.o.set k (y.1 ++ ZED, y.2) } := by unfold tO2; rw [l1, hk, hy]
    have ysz : y.1.size ≤ 1000000000 := by
      have hy' := hy
      rw [← hR1, e1] at hy'
      rcases List.mem_or_eq_of_mem_set (List.mem_of_getElem? hy') with z | z
      · exact (hzo _ z).1
      · rw [z]
        exact (hzo _ (List.mem_of_getElem? hq)).1
    have xsz := (hzo _ (List.mem_of_getElem? hq)).2
    have hN1 : (1 : Int) < (N : Int) := by omega
    obtain ⟨g, rfl⟩ := h0.rl.fo.own (by omega)
    have hd := h0.drew
    have cv : B0.drew.cell? ⟨g, 3, none⟩ = some (.string x.2.2.2) := hd.rl.fo.cel 0 3 _ _ (get_app oR R.o x ONE 0 hq) rfl
    have fz : B0.drew.frozen? ⟨g, 3, none⟩ = false := hd.rl.fo.fro _
    have kd : B0.drew.cell? ⟨rb, 0, none⟩ = some (.slice (some ⟨g, 0, none⟩) N co) := k4
    have hF1 : Tr W base rb (rV ro rn rs sys bld ra re) (.slice (some ⟨g, 0, none⟩) N co) n s a e l us ls R1 (B0.drew.setCell ⟨g, 3, none⟩ (.string (x.2.2.2 ++ NUL))) := by
      rw [← hR1, e1]
      exact hd.put hd.rl.fo rfl (by decide) (by decide) (hd.rl.setO (i := 0) (j := 3) (x' := (x.1, x.2.1, x.2.2.1, x.2.2.2 ++ NUL)) hq (by omega) rfl)
    obtain ⟨Z1, hZ1⟩ : ∃ Z, B0.drew.setCell ⟨g, 3, none⟩ (.string (x.2.2.2 ++ NUL)) = Z := ⟨_, rfl⟩
    rw [hZ1] at hF1
    have hd1 := hF1.drew
    have cv2 : Z1.drew.cell? ⟨g, k * 4, none⟩ = some (.string y.1) := hd1.rl.fo.cel k 0 _ _ (get_app oR R1.o y ONE k hy) rfl
    have fz2 : Z1.drew.frozen? ⟨g, k * 4, none⟩ = false := hd1.rl.fo.fro _
    have kd2 : Z1.drew.cell? ⟨rb, 0, none⟩ = some (.slice (some ⟨g, 0, none⟩) N co) := c1 hF1.rm rfl
    have hF2 : Tr W base rb (rV ro rn rs sys bld ra re) (.slice (some ⟨g, 0, none⟩) N co) n s a e l us ls (tO2 R1) (Z1.drew.setCell ⟨g, k * 4, none⟩ (.string (y.1 ++ ZED))) := by
      rw [e2]
      exact hd1.put hd1.rl.fo rfl (by decide) (by decide) (hd1.rl.setO (i := k) (j := 0) (x' := (y.1 ++ ZED, y.2)) hy (by omega) rfl)
    obtain ⟨Z2, hZ2⟩ : ∃ Z, Z1.drew.setCell ⟨g, k * 4, none⟩ (.string (y.1 ++ ZED)) = Z := ⟨_, rfl⟩
    rw [hZ2] at hF2
    have HH : Hid (Tr W base rb (rV ro rn rs sys bld ra re) (.slice (some ⟨g, 0, none⟩) N co) n s a e l us ls (tO2 (tO1 R)) Z2) := by rw [hR1]; exact hF2
    have hN0 : (0 : Int) < (N : Int) := by omega
    have wk : IntKind.i64.wrap ((N : Int) - 2) = (k : Int) := by rw [IntKind.wrap_i64]; have := hs.1; omega
    have hk0 : (0 : Int) ≤ (k : Int) := by omega
    have hk1 : (k : Int) < (N : Int) := by omega
    obtain ⟨x1, x2, x3, x4⟩ := x
    obtain ⟨y1, y2⟩ := y
    have h6 : ¬ (9223372036854775807 < x4.size + 1) := by have : x4.size ≤ 1000000000 := xsz; omega
    have h7 : ¬ (9223372036854775807 < y1.size + 1) := by have : y1.size ≤ 1000000000 := ysz; omega
    have HS2 : Hid (Sm (tO2 (tO1 R))) := sm_tO2 (sm_tO1 HS.out.1)
    unfold turnR
    unfold NUL at hZ1
    unfold ZED at hZ2
    unfold rV
    have k4' := k4
    rw [← HB.out] at k4'
    clear h hs el hN hq e1 e2 hR1 l1 hk hy hz hza hzo h0 hr hB0 hi ysz xsz hd hF1 hd1 hF2
    go_enter Try.func7, Try.ntmps7
    go_upto_region 1 with fail
    rename_i K2 h2 K1 h1
    have HT : Hid (∀ q w, Code.wp Try.prog (tl 4) (bodyPost Try.prog Try.f7 (TuP W base rb sys bld (.slice (some ⟨g, 0, none⟩) N co) n s a e l us ls (tE (tA (tS (tN (tO2 (tO1 R)))))))) q w → K2 q w) := h2
    clear h2
    rw [HB.out]
    clear k4'
    go_wp2_with fail
    go_region
    go_wp2_with fail
    go_region
    go_wp2_with fail
    exact HT.out _ _ (tail4 W base rb ro rn rs ra re sys bld _ _ _ _ _ _ us ls (tO2 (tO1 R)) HS2.out HS.out.2.1 HS.out.2.2 Z2 HH.out)
end Go.Proofs.Ytcggaiplepekdaa
