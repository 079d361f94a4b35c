/- LabelSorts: sameLabels. -/
import Derived.Test.YtffghlbgbfhfdaaGreatDoorSr6
import Derived.Test.YtffghlbgbfhfdaaGreatDoorFg4
namespace Go.Proofs.YtffghlbgbfhfdaaGreatDoor
open Go.RowKit Go.Shelf Go.Sort
theorem take_succ_eq {A B : List Lb} {k : Nat} (h : A.take k = B.take k) (ha : k < A.length) (hb : k < B.length) (he : A[k] = B[k]) : A.take (k + 1) = B.take (k + 1) := by
  rw [List.take_succ_eq_append_getElem ha, List.take_succ_eq_append_getElem hb, h, he]
attribute [local go_sem ↓] toLd toEq
set_option maxRecDepth 100000 in
set_option maxHeartbeats 2000000 in
theorem same_any (A B : List Lb) (hA : A.length ≤ 1099511627776) (hB : B.length ≤ 1099511627776) (va vb : Value) (w : World) (ha : Ls va A w) (hb : Ls vb B w) :
    Calls Tryz.prog 11 #[va, vb] w fun e w' => e = .returned (.bool (decide (A = B))) ∧ ∃ q, w' = w.drewN q := by
  by_cases hl : A.length = B.length
  · by_cases h0 : A.length = 0
    · have e1 : A = [] := List.length_eq_zero_iff.1 h0
      have e2 : B = [] := List.length_eq_zero_iff.1 (by omega)
      subst e1 e2
      obtain ⟨o, c, rfl, -, -⟩ := ha.form
      obtain ⟨o', c', rfl, -, -⟩ := hb.form
      simp only [List.length_nil]
      have hv : Hid (decide (([] : List Lb) = []) = true) := by show _ = _; simp
      clear ha hb hA hB hl h0
      go_enter Tryz.func11, Tryz.ntmps11
      go_wp2_with fail
      go_loopw [5] (fun iv wr => iv = .int .i64 0 ∧ wr = w) (fun _ _ => 0)
      case atStart => exact ⟨rfl, rfl⟩
      case round =>
        obtain ⟨rfl, rfl⟩ := hrel
        go_wp2
        go_ret
        exact ⟨by rw [hv.out]; rfl, 0, rfl⟩
    · obtain ⟨b, off, c, rfl, -, -, -, hr⟩ := ha.at (by omega)
      obtain ⟨b', off', c', rfl, -, -, -, hr'⟩ := hb.at (by omega)
      rw [← hl]
      obtain ⟨n, hn⟩ : ∃ n, n = A.length := ⟨_, rfl⟩
      rw [← hn]
      have HN : Hid (n = A.length ∧ n = B.length) := ⟨hn, by omega⟩
      have HR : Hid (Lr b off A w ∧ Lr b' off' B w) := ⟨hr, hr'⟩
      rw [← hn] at hA
      clear ha hb hr hr' hn hl h0 hB
      go_enter Tryz.func11, Tryz.ntmps11
      go_wp2_with fail
      go_loopw [5] (fun iv wr => ∃ k : Nat, iv = .int .i64 (k : Int) ∧ k ≤ n ∧ Hid (A.take k = B.take k) ∧ Hid (∃ q, wr = w.drewN q)) (fun iv _ => n - (intOf iv).toNat)
      case atStart => exact ⟨0, rfl, by omega, by show _ = _; simp, ⟨0, rfl⟩⟩
      case round =>
        obtain ⟨k, rfl, hk, HK, HQ⟩ := hrel
        by_cases hlt : k < n
        · have hlt' : (k : Int) < (n : Int) := by omega
          have hk0 : (0 : Int) ≤ (k : Int) := by omega
          have hkA : k < A.length := by have := HN.out.1; omega
          have hkB : k < B.length := by have := HN.out.2; omega
          obtain ⟨x, hx⟩ : ∃ x, A[k] = x := ⟨_, rfl⟩
          obtain ⟨y, hy⟩ : ∃ y, B[k] = y := ⟨_, rfl⟩
          have hx' : A[k]? = some x := by rw [List.getElem?_eq_getElem hkA, hx]
          have hy' : B[k]? = some y := by rw [List.getElem?_eq_getElem hkB, hy]
          have hLr : Lr b off A wr ∧ Lr b' off' B wr := by obtain ⟨q, rfl⟩ := HQ.out; exact HR.out
          have lx := fun q => run_ldx (wr.drewN q) b _ x (hLr.1 _ _ hx')
          have ly := fun q => run_ldx (wr.drewN q) b' _ y (hLr.2 _ _ hy')
          have heq := fun q => run_eqR (wr.drewN q) x.h y.h x.s y.s x.hl y.hl
          have HQ2 : Hid (∀ m, ∃ q, wr.drewN m = w.drewN q) := fun m => by
            obtain ⟨q, hq⟩ := HQ.out
            exact ⟨q + m, by rw [hq]; unfold World.drewN; simp [Nat.add_assoc]⟩
          clear hLr hx' hy' HQ
          by_cases hxy : x = y
          · have he : (decide (x.h = y.h ∧ x.s = y.s)) = true := by subst hxy; simp
            rw [he] at heq
            have HK2 : Hid (A.take (k + 1) = B.take (k + 1)) := take_succ_eq HK.out hkA hkB (by rw [hx, hy, hxy])
            clear he hxy hx hy hkA hkB HK
            go_wp2_with fail
            go_quiet (fail)
            go_wp2
            exact ⟨⟨k + 1, by rfl, by omega, HK2, HQ2.out nq⟩, by simp only [intOf]; omega⟩
          · have he : (decide (x.h = y.h ∧ x.s = y.s)) = false := decide_eq_false (fun h => hxy (Lb.ext' h.1 h.2))
            rw [he] at heq
            have hv : Hid (decide (A = B) = false) := by
              show _ = _
              refine decide_eq_false fun h => hxy ?_
              subst h
              rw [← hx, ← hy]
            clear he hxy hx hy hkA hkB HK
            go_wp2_with fail
            go_quiet (fail)
            go_wp2
            go_ret
            exact ⟨by rw [hv.out]; rfl, HQ2.out nq⟩
        · have hlt' : ¬ ((k : Int) < (n : Int)) := by omega
          have hv : Hid (decide (A = B) = true) := by
            show _ = _
            have := HK.out
            rw [List.take_of_length_le (by have := HN.out.1; omega), List.take_of_length_le (by have := HN.out.2; omega)] at this
            exact decide_eq_true this
          go_wp2
          go_ret
          exact ⟨by rw [hv.out]; rfl, HQ.out⟩
  · have hv : Hid (decide (A = B) = false) := by
      show _ = _
      exact decide_eq_false fun h => hl (by rw [h])
    have hl' : ¬ ((A.length : Int) = (B.length : Int)) := by omega
    obtain ⟨o, c, rfl, -, -⟩ := ha.form
    obtain ⟨o', c', rfl, -, -⟩ := hb.form
    clear ha hb hl
    go_enter Tryz.func11, Tryz.ntmps11
    go_wp2
    go_ret
    exact ⟨by rw [hv.out]; rfl, 0, rfl⟩
end Go.Proofs.YtffghlbgbfhfdaaGreatDoor
