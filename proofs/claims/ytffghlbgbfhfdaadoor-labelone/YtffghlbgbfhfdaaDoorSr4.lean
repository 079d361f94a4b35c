/- LabelSorts: Compact, the walk. -/
import Derived.Test.YtffghlbgbfhfdaaDoorSr3
namespace Go.Proofs.YtffghlbgbfhfdaaDoor
open Go.RowKit Go.Shelf Go.Sort
/-- The row while twins are dropped. -/
structure Cp (g : Nat) (D A : List Lb) (k0 k k2 : Nat) (w wr : World) : Prop where
  len : A.length = D.length
  pre : A.take k = dd (D.take (k0 + k2))
  kl : k = (dd (D.take (k0 + k2))).length
  post : ∀ i, k0 + k2 ≤ i + 1 → A[i]? = D[i]?
  kle : k + 1 ≤ k0 + k2
  row : Lr g 0 A wr
  th : wr.there g 0 (D.length * 21)
  but : But1 g w wr
theorem getD_of {D : List Lb} {i : Nat} {x : Lb} (h : D[i]? = some x) : D.getD i default = x := by simp [List.getD, h]
theorem Cp.same {g : Nat} {D A : List Lb} {k0 k k2 : Nat} {w wr : World} (h : Cp g D A k0 k (k2 + 1) w wr) (hb : k0 + k2 + 1 < D.length) {x : Lb} (hx : D[k0 + k2 + 1]? = some x) (hy : D[k0 + k2]? = some x) (q : Nat) : Cp g D A k0 k (k2 + 2) w (wr.drewN q) := by
  have hd := dd_take (D := D) (k := k0 + k2) hb
  rw [getD_of hx, getD_of hy, if_pos rfl] at hd
  have e : k0 + (k2 + 2) = k0 + k2 + 2 := by omega
  have e1 : k0 + (k2 + 1) = k0 + k2 + 1 := by omega
  have pre := h.pre
  have kl := h.kl
  rw [e1] at pre kl
  exact ⟨h.len, by rw [e, hd]; exact pre, by rw [e, hd]; exact kl, fun i hi => h.post i (by omega), by have := h.kle; omega, h.row, h.th, h.but.drewN q⟩
theorem Cp.next {g : Nat} {D A : List Lb} {k0 k k2 : Nat} {w wr : World} (h : Cp g D A k0 k (k2 + 1) w wr) (hb : k0 + k2 + 1 < D.length) {x y : Lb} (hx : D[k0 + k2 + 1]? = some x) (hy : D[k0 + k2]? = some y) (hne : x ≠ y) (q : Nat) : Cp g D (A.set k x) k0 (k + 1) (k2 + 2) w ((wr.drewN q).setCells g (k * 21) (enc x)) := by
  have hd := dd_take (D := D) (k := k0 + k2) hb
  rw [getD_of hx, getD_of hy, if_neg hne] at hd
  have e : k0 + (k2 + 2) = k0 + k2 + 2 := by omega
  have e1 : k0 + (k2 + 1) = k0 + k2 + 1 := by omega
  have pre := h.pre
  have kl := h.kl
  rw [e1] at pre kl
  have kle := h.kle
  have hkA : k < A.length := by rw [h.len]; omega
  refine ⟨by rw [List.length_set]; exact h.len, ?_, by rw [e, hd, List.length_append, ← kl]; rfl, fun i hi => ?_, by omega, ?_, ?_, (h.but.drewN q).setCells _ _⟩
  · rw [e, hd, ← pre, List.take_succ_eq_append_getElem (by rw [List.length_set]; exact hkA), List.take_set_of_le (by omega)]
    simp
  · rw [List.getElem?_set_ne (by omega)]
    exact h.post i (by omega)
  · exact lr_set (w := wr.drewN q) h.row hkA (by rw [h.len]; exact h.th)
  · exact World.there_setCells (w := wr.drewN q) h.th g (k * 21) (enc x)
theorem lr_take {g : Nat} {A : List Lb} {w : World} (h : Lr g 0 A w) (k : Nat) : Lr g 0 (A.take k) w := fun i x hx => h i x (by
  have := (List.getElem?_eq_some_iff.1 hx).1
  rw [List.getElem?_take, if_pos (by simp at this; omega)] at hx
  exact hx)
theorem lr_apart {g o : Nat} {A : List Lb} {w : World} (h : Lr g 0 A w) (vs : List Value) (ho : A.length * 21 ≤ o) : Lr g 0 A (w.setCells g o vs) := fun i x hx => by
  have hi := (List.getElem?_eq_some_iff.1 hx).1
  exact World.rangeAt_setCells_apart (h i x hx) g o vs (.inr (.inl (by rw [enc_len]; omega)))
attribute [local go_sem ↓] toLd toSt toEq toSlL
def clR (ty : Nat) (vs : Array Value) : Sem Value := Builtin.clear_ #[22] ty vs
theorem toCl (ty : Nat) (vs : Array Value) : Builtin.clear_ #[22] ty vs = clR ty vs := rfl
attribute [local go_sem ↓] toCl
set_option maxRecDepth 100000 in
set_option maxHeartbeats 4000000 in
theorem compact_any (D : List Lb) (hn : D.length ≤ 4398046511104) (g c : Nat) (hc : D.length ≤ c) (w : World) (hL : Lr g 0 D w) (hT : w.there g 0 (D.length * 21)) :
    Calls Tryd.prog 23 #[.slice (some ⟨g, 0, none⟩) D.length c] w fun e w' => e = .returned (.slice (some ⟨g, 0, none⟩) (dd D).length c) ∧ (dd D).length ≤ c ∧ Lr g 0 (dd D) w' ∧ But1 g w w' := by
  by_cases h2 : D.length < 2
  · have h2' : (D.length : Int) < 2 := by omega
    have hd : dd D = D := by
      match D, h2 with
      | [], _ => rfl
      | [x], _ => rfl
    go_enter Tryd.func23, Tryd.ntmps23
    go_wp2
    go_ret
    exact ⟨by rw [hd]; rfl, by rw [hd]; exact hc, by rw [hd]; exact hL, But1.refl _ _⟩
  have h2' : ¬ ((D.length : Int) < 2) := by omega
  have HL : Hid (Lr g 0 D w) := hL
  have HT : Hid (w.there g 0 (D.length * 21)) := hT
  clear hL hT
  obtain ⟨n, hn0⟩ : ∃ n, n = D.length := ⟨_, rfl⟩
  rw [← hn0] at h2' h2 hn hc
  have HN : Hid (n = D.length) := hn0
  rw [← hn0]
  clear hn0
  go_enter Tryd.func23, Tryd.ntmps23
  go_wp2_with fail
  go_loopw [3] (fun iv wr => ∃ k : Nat, iv = .int .i64 ((k : Int)) ∧ 1 ≤ k ∧ k ≤ n ∧ Hid (dd (D.take k) = D.take k) ∧ Hid (∃ q, wr = w.drewN q)) (fun iv _ => n - (intOf iv).toNat)
  case atStart => exact ⟨1, rfl, by omega, by omega, dd_one D, ⟨0, rfl⟩⟩
  case round =>
    obtain ⟨k, rfl, hk1, hkn, HD, HQ⟩ := hrel
    have HB : Hid (But1 g w wr ∧ Lr g 0 D wr ∧ wr.there g 0 (D.length * 21)) := by
      obtain ⟨q, rfl⟩ := HQ.out
      exact ⟨(But1.refl g w).drewN q, HL.out, HT.out⟩
    by_cases hlt : k < n
    · have hlt' : (k : Int) < (n : Int) := by omega
      have hk0 : (0 : Int) ≤ (k : Int) := by omega
      obtain ⟨j, hkj⟩ : ∃ j, k = j + 1 := ⟨k - 1, by omega⟩
      obtain ⟨x, hx⟩ : ∃ x, D[k]? = some x := ⟨_, List.getElem?_eq_getElem (by have := HN.out; omega)⟩
      obtain ⟨y, hy⟩ : ∃ y, D[j]? = some y := ⟨_, List.getElem?_eq_getElem (by have := HN.out; omega)⟩
      have lx := fun q => run_ldx (wr.drewN q) g _ x (HB.out.2.1 _ _ hx)
      have ly := fun q => run_ldx (wr.drewN q) g _ y (HB.out.2.1 _ _ hy)
      have heq := fun q => run_eqR (wr.drewN q) x.h y.h x.s y.s x.hl y.hl
      have hj1 : IntKind.i64.wrap ((k : Int) - 1) = (j : Int) := by rw [IntKind.wrap_i64]; omega
      have hj0 : (0 : Int) ≤ (j : Int) := by omega
      have hjn : (j : Int) < (n : Int) := by omega
      have HX : Hid (D[k]? = some x ∧ D[j]? = some y) := ⟨hx, hy⟩
      have HJ : Hid (k = j + 1) := hkj
      clear hx hy hkj
      simp only [Nat.zero_add] at lx ly
      by_cases hxy : x = y
      · have he : (decide (x.h = y.h ∧ x.s = y.s)) = true := by subst hxy; simp
        rw [he] at heq
        have HXY : Hid (x = y) := hxy
        clear he hxy
        have cl := fun q => run_cutl (wr.drewN q) g 0 n c k (by omega) (by omega)
        simp only [Nat.zero_add] at cl
        go_wp2_with fail
        go_quiet (fail)
        clear lx ly heq
        have HC0 : Hid (Cp g D D k k 1 w (wr.drewN nq)) := by
          have hd := dd_take (D := D) (k := j) (by have := HN.out; have := HJ.out; omega)
          have hx := HX.out.1
          rw [HJ.out] at hx
          rw [getD_of hx, getD_of HX.out.2, if_pos HXY.out] at hd
          have hk2 : k + 1 = j + 2 := by have := HJ.out; omega
          have hdk : dd (D.take (j + 1)) = D.take (j + 1) := by have := HD.out; rw [HJ.out] at this; exact this
          refine ⟨rfl, by rw [hk2, hd, hdk, HJ.out], ?_, fun _ _ => rfl, by omega, HB.out.2.1, HB.out.2.2, HB.out.1.drewN nq⟩
          rw [hk2, hd, hdk, List.length_take]
          have := HJ.out
          have := HN.out
          omega
        go_wp2_with fail
        go_loopw [3, 5] (fun kv iv wq => ∃ (kk k2 : Nat) (A : List Lb), kv = .int .i64 (kk : Int) ∧ iv = .int .i64 ((k2 : Int)) ∧ 1 ≤ k2 ∧ k + k2 ≤ n ∧ kk < n ∧ Hid (Cp g D A k kk k2 w wq)) (fun _ iv _ => n - (intOf iv).toNat)
        case atStart => exact ⟨k, 1, D, rfl, rfl, by omega, by omega, by omega, HC0⟩
        case round =>
          clear HC0
          obtain ⟨kk, k2, A, rfl, rfl, hk2, hk2n, hkkn, HC⟩ := hrel
          by_cases hl2 : k + k2 < n
          · have hl2' : (k2 : Int) < ((n - k : Nat) : Int) := by omega
            have hk20 : (0 : Int) ≤ (k2 : Int) := by omega
            obtain ⟨m, hm⟩ : ∃ m, k2 = m + 1 := ⟨k2 - 1, by omega⟩
            obtain ⟨u, hu⟩ : ∃ u, D[k + k2]? = some u := ⟨_, List.getElem?_eq_getElem (by have := HN.out; omega)⟩
            obtain ⟨v, hv⟩ : ∃ v, D[k + m]? = some v := ⟨_, List.getElem?_eq_getElem (by have := HN.out; omega)⟩
            have ru := HC.out.row (k + k2) u ((HC.out.post _ (by omega)).trans hu)
            have rv := HC.out.row (k + m) v ((HC.out.post _ (by omega)).trans hv)
            rw [Nat.zero_add, Nat.add_mul] at ru rv
            have lu := fun q => run_ldx (wr.drewN q) g _ u ru
            have lv := fun q => run_ldx (wr.drewN q) g _ v rv
            have heq := fun q => run_eqR (wr.drewN q) u.h v.h u.s v.s u.hl v.hl
            have hm1 : IntKind.i64.wrap ((k2 : Int) - 1) = (m : Int) := by rw [IntKind.wrap_i64]; omega
            have hm0 : (0 : Int) ≤ (m : Int) := by omega
            have hmn : (m : Int) < ((n - k : Nat) : Int) := by omega
            have HM : Hid (k2 = m + 1) := hm
            have HU : Hid (D[k + k2]? = some u ∧ D[k + m]? = some v) := ⟨hu, hv⟩
            have hkk0 : (0 : Int) ≤ (kk : Int) := by omega
            have hkkn' : (kk : Int) < (n : Int) := by omega
            clear hm hu hv ru rv
            by_cases huv : u = v
            · have he : (decide (u.h = v.h ∧ u.s = v.s)) = true := by subst huv; simp
              rw [he] at heq
              have HUV : Hid (u = v) := huv
              clear he huv
              go_wp2_with fail
              go_quiet (fail)
              clear lu lv heq
              have HC2 : Hid (Cp g D A k kk (k2 + 1) w (wr.drewN nq)) := by
                have hm := HM.out
                have h1 := HU.out.1
                have h2 := HU.out.2
                rw [← HUV.out] at h2
                rw [hm] at h1
                have hc := HC.out
                rw [hm] at hc ⊢
                exact hc.same (by have := HN.out; omega) h1 h2 nq
              clear HC
              go_wp2
              exact ⟨⟨kk, k2 + 1, A, rfl, by rfl, by omega, by omega, hkkn, HC2⟩, by simp only [intOf]; omega⟩
            · have he : (decide (u.h = v.h ∧ u.s = v.s)) = false := decide_eq_false (fun h => huv (Lb.ext' h.1 h.2))
              rw [he] at heq
              have st := fun q => run_stx (wr.drewN q) g (kk * 21) u (fun j hj => by
                have := HC.out.th (kk * 21 + j) (by have := HN.out; omega)
                rw [Nat.zero_add] at this
                exact this)
              have HUV : Hid (u ≠ v) := huv
              clear he huv
              go_wp2_with fail
              go_quiet (fail)
              clear lv heq
              have HC2 : Hid (Cp g D (A.set kk u) k (kk + 1) (k2 + 1) w ((wr.drewN nq).setCells g (kk * 21) (enc u))) := by
                have hm := HM.out
                have h1 := HU.out.1
                rw [hm] at h1
                have hc := HC.out
                rw [hm] at hc ⊢
                exact hc.next (by have := HN.out; omega) h1 HU.out.2 HUV.out nq
              have hkk2 : kk + 1 < n := by have := HC.out.kle; omega
              clear HC
              go_wp2
              exact ⟨⟨kk + 1, k2 + 1, A.set kk u, by rfl, by rfl, by omega, by omega, hkk2, HC2⟩, by simp only [intOf]; omega⟩
          · have hl2' : ¬ ((k2 : Int) < ((n - k : Nat) : Int)) := by omega
            have hke : k + k2 = n := by omega
            have HE : Hid (A.take kk = dd D ∧ kk = (dd D).length) := by
              have h1 := HC.out.pre
              have h2 := HC.out.kl
              have hD : D.take n = D := List.take_of_length_le (by have := HN.out; omega)
              rw [hke, hD] at h1 h2
              exact ⟨h1, h2⟩
            have cl2 := run_cutl wr g 0 n c kk (by omega) (by omega)
            obtain ⟨vs, hvl, hcl⟩ := run_clearK wr g (0 + kk * 21) (n - kk) (c - kk) (by omega) (fun j hj => by
              have := HC.out.th (kk * 21 + j) (by have := HN.out; omega)
              rw [Nat.zero_add] at this
              rw [Nat.zero_add]
              exact this)
            have ch := fun W : World => run_cuth W g 0 n c kk (by omega)
            have HF : Hid ((dd D).length ≤ c ∧ Lr g 0 (dd D) (wr.setCells g (kk * 21) vs) ∧ But1 g w (wr.setCells g (kk * 21) vs)) := by
              refine ⟨by rw [← HE.out.2]; omega, ?_, HC.out.but.setCells _ _⟩
              rw [← HE.out.1]
              exact lr_apart (lr_take HC.out.row kk) vs (by rw [List.length_take]; have := HC.out.len; have := HN.out; omega)
            simp only [Nat.zero_add, toCl] at cl2 hcl
            clear HC
            go_wp2_with fail
            go_ret
            exact ⟨by rw [← HE.out.2]; rfl, HF.out⟩
      · have he : (decide (x.h = y.h ∧ x.s = y.s)) = false := decide_eq_false (fun h => hxy (Lb.ext' h.1 h.2))
        rw [he] at heq
        have HXY : Hid (x ≠ y) := hxy
        clear he hxy
        go_wp2_with fail
        go_quiet (fail)
        clear lx ly heq
        have HD2 : Hid (dd (D.take (k + 1)) = D.take (k + 1)) := by
          show _ = _
          have hb : j + 1 < D.length := by have := HN.out; have := HJ.out; omega
          have hd := dd_take (D := D) (k := j) hb
          have hx := HX.out.1
          rw [HJ.out] at hx
          rw [getD_of hx, getD_of HX.out.2, if_neg HXY.out] at hd
          have hdk : dd (D.take (j + 1)) = D.take (j + 1) := by have := HD.out; rw [HJ.out] at this; exact this
          rw [HJ.out]
          show dd (D.take (j + 2)) = D.take (j + 2)
          rw [hd, hdk, (take_snoc hb).1, (take_snoc hb).2, getD_of hx]
          simp
        have HQ2 : Hid (∃ q, wr.drewN nq = w.drewN q) := by
          obtain ⟨q, hq⟩ := HQ.out
          exact ⟨q + nq, by rw [hq]; unfold World.drewN; simp [Nat.add_assoc]⟩
        clear HD HQ HB
        go_wp2
        exact ⟨⟨k + 1, by rfl, by omega, by omega, HD2, HQ2⟩, by simp only [intOf]; omega⟩
    · have hlt' : ¬ ((k : Int) < (n : Int)) := by omega
      have HE : Hid (dd D = D) := by have := HD.out; rw [List.take_of_length_le (by have := HN.out; omega)] at this; exact this
      go_wp2
      go_ret
      have hb := HB.out
      rw [HE.out]
      exact ⟨by rw [← HN.out]; rfl, by rw [← HN.out]; exact hc, hb.2.1, hb.1⟩
end Go.Proofs.YtffghlbgbfhfdaaDoor
