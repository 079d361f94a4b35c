/- SieveBegins: made. -/
import Derived.Test.YtceaklefdahfkabBg7
namespace Go.Proofs.Ytceaklefdahfkab
open Go.RowKit
/-- Both, or neither. -/
def Both (B : Nat) (l : List ByteArray) (p q : Option Addr) (w : World) : Prop := (p = none ∧ q = none) ∨ ∃ g h, p = some ⟨g, 0, none⟩ ∧ q = some ⟨h, 0, none⟩ ∧ TwoB B l g h w
theorem Both.keep {B : Nat} {l : List ByteArray} {p q : Option Addr} {w w' : World} (t : Both B l p q w) (hs : w.heap.size ≤ w'.heap.size) (hb : ∀ j, B ≤ j → j < w.heap.size → w'.heap[j]? = w.heap[j]?) : Both B l p q w' := by
  rcases t with t | ⟨g, h, h1, h2, t⟩
  · exact .inl t
  · exact .inr ⟨g, h, h1, h2, t.keep hs hb⟩
/-- Are they both there? -/
theorem Both.nils {B : Nat} {l : List ByteArray} {p q : Option Addr} {w : World} (t : Both B l p q w) : (p = none ∧ q = none) ∨ ∃ g h, p = some ⟨g, 0, none⟩ ∧ q = some ⟨h, 0, none⟩ := by
  rcases t with t | ⟨g, h, h1, h2, _⟩
  · exact .inl t
  · exact .inr ⟨g, h, h1, h2⟩
set_option maxRecDepth 100000 in
set_option maxHeartbeats 1600000 in
theorem made_any (l : List ByteArray) (hl : l.length ≤ 1073741824) (hz : ∀ s ∈ l, s.size ≤ 1073741824) (v : Value) (w : World) (hv : St v l w) :
    Calls Try.prog 26 #[v] w fun e w' => ∃ p q, e = .returned (.tuple #[.pointer p, .pointer q, .bool true]) ∧ Both (w.heap.size + 1) l p q w' ∧ Below w.heap.size w w' ∧ w.heap.size < w'.heap.size := by
  have CT : Hid _ := texts_any l hl v w hv
  have HZ : Hid _ := hz
  have HV : Hid (St v l w) := hv
  obtain ⟨ov, cv, rfl, _⟩ := hv.form
  clear hv hz
  obtain ⟨G, hG⟩ : ∃ G, G = w.heap.size := ⟨_, rfl⟩
  have HG : Hid (G = w.heap.size) := hG
  rw [← hG] at CT ⊢
  clear hG
  obtain ⟨N, hN⟩ : ∃ N, N = l.length + 2 := ⟨_, rfl⟩
  have HN : Hid (N = l.length + 2) := hN
  rw [← hN] at CT
  clear hN
  go_enter Try.func26, Try.ntmps26
  go_wp2_with fail
  refine Calls.mono CT.out ?_
  rintro e w1 ⟨rfl, hR1, hb1⟩
  clear CT
  have gz1 : Hid (G < w1.heap.size) := (Array.getElem?_eq_some_iff.1 hR1).1
  have hS1 : St (.slice (some ⟨G, 0, none⟩) l.length N) l w1 := .inr ⟨G, 0, N, rfl, by rw [HN.out]; omega, by have := HN.out; unfold maxLen; omega, gz1.out, fun j s hj => by
    have hj2 : j < l.length := (List.getElem?_eq_some_iff.1 hj).1
    rw [Nat.zero_add, cell_of_row w1 _ _ _ _ _ hR1, sk_get _ _ (by simp; omega)]
    have : txt (l ++ [mrk, ⟨#[]⟩]) j = s := by unfold txt; rw [List.getD, List.getElem?_append_left hj2, hj]; rfl
    rw [this]⟩
  have CN : Hid _ := new_b l (by omega) (fun s hs => by have := HZ.out s hs; omega) (fun v w h hv => byText_b l h v w hv) _ w1 hS1
  have HR1 : Hid _ := hR1
  have HB1 : Hid (Below G w w1) := hb1
  have HV1 : Hid (St (.slice ov l.length cv) l w1) := HV.out.below (by rw [← HG.out]; exact hb1)
  clear hR1 hb1 hS1 HV
  go_wp2_with fail
  refine Calls.mono CN.out ?_
  rintro e w2 ⟨hP2, hb2⟩
  clear CN
  obtain ⟨p, er, rfl⟩ := newPb_form hP2
  have HP2 : Hid _ := hP2
  have HB12 : Hid (Below w1.heap.size w1 w2) := hb2
  have CR : Hid _ := newR_any l hl HZ.out _ w2 (HV1.out.below hb2)
  clear hP2 hb2
  go_wp2_with fail
  refine Calls.mono CR.out ?_
  rintro e w3 ⟨hP3, hb3⟩
  clear CR
  obtain ⟨q, rfl, hbo⟩ := nw_pair HP2.out HB12.out.size hP3 hb3
  have hb13 : Below w1.heap.size w1 w3 := HB12.out.trans (hb3.mono HB12.out.size)
  have HB3 : Hid (Below G w w3) := HB1.out.trans (hb13.mono (by have := gz1.out; omega))
  have hR3 : w3.heap[G]? = some (.cells (sk (l ++ [mrk, ⟨#[]⟩])) 9 (0, 0)) := (hb13.block G gz1.out).trans HR1.out
  have HO : Hid (Both (G + 1) l p q w3) := by
    rcases hbo with t | ⟨g, h, h1, h2, t1, t2, t3, t4, t5, ns, t6, gt, lv, fv, t7, t8, t9⟩
    · exact .inl t
    · have gz := gz1.out
      refine .inr ⟨g, h, h1, h2, t1, t2, t3, by omega, by omega, ns, t6, gt, lv, fv, t7, ?_, t9⟩
      obtain ⟨u1, u2, vl, vd, vf, vb, vr, vv, u3, u4, u5⟩ := t8
      exact ⟨by omega, u2, vl, vd, vf, vb, vr, vv, u3, u4, fun v hv k hk => ⟨by have := (u5 v hv k hk).1; omega, (u5 v hv k hk).2⟩⟩
  have CS : Hid (Calls Try.prog 38 #[.slice (some ⟨G, 0, none⟩) l.length N, .slice ov l.length cv] w3 fun e w' => e = .returned (.bool true) ∧ Hid (Below w3.heap.size w3 w')) := by
    have := stood_any l hl G _ w3 hR3 ((HV1.out.below hb13))
    rw [← HN.out] at this
    exact this
  have HR3 : Hid (∃ x : List ByteArray, x.length = N ∧ w3.heap[G]? = some (.cells (sk x) 9 (0, 0))) := ⟨_, by rw [HN.out]; simp, hR3⟩
  have hcase := HO.out.nils
  obtain ⟨Q, hQ⟩ : ∃ Q : World → Prop, Q = Both (G + 1) l p q := ⟨_, rfl⟩
  have HO5 : Hid (Q w3) := by rw [hQ]; exact HO.out
  have HK : Hid (∀ w w', Q w → w.heap.size ≤ w'.heap.size → (∀ j, G + 1 ≤ j → j < w.heap.size → w'.heap[j]? = w.heap[j]?) → Q w') := fun w w' h h1 h2 => by
    rw [hQ] at h ⊢
    exact h.keep h1 h2
  have HQ : Hid (∀ w, Q w → Both (G + 1) l p q w) := fun w h => by rw [hQ] at h; exact h
  clear hQ HO
  clear hbo hb3 hP3 hb13 hR3 HP2 HB12 HR1 HV1 HB1 gz1
  rcases hcase with ⟨rfl, rfl⟩ | ⟨g, h, rfl, rfl⟩
  all_goals
    go_wp2_with fail
    refine Calls.mono CS.out ?_
    rintro e w4 ⟨rfl, HB34⟩
    clear CS
    have HB4 : Hid (Below G w w4) := HB3.out.trans (HB34.out.mono (by rw [HG.out]; exact HB3.out.size))
    have HR4 : Hid (∃ x : List ByteArray, x.length = N ∧ w4.heap[G]? = some (.cells (sk x) 9 (0, 0))) := by
      obtain ⟨x, h1, h2⟩ := HR3.out
      exact ⟨x, h1, (HB34.out.block G (Array.getElem?_eq_some_iff.1 h2).1).trans h2⟩
    have HO4 : Hid (Q w4) := HK.out _ _ HO5.out HB34.out.size fun j _ hj => HB34.out.block j hj
    clear HB34 HR3 HO5 HB3
    go_wp2_with fail
    go_loopw [11] (fun iv wr => ∃ k : Nat, iv = .int .i64 (k : Int) ∧ k ≤ l.length ∧ Hid (∃ x : List ByteArray, x.length = N ∧ wr.heap[G]? = some (.cells (sk x) 9 (0, 0))) ∧ Hid (Below G w wr) ∧ Hid (Q wr)) (fun iv _ => l.length - (intOf iv).toNat)
    case atStart => exact ⟨0, rfl, by omega, HR4, HB4, HO4⟩
    case round =>
      clear HR4 HB4 HO4
      obtain ⟨k, rfl, hk, HR, HB, HO⟩ := hrel
      by_cases hlt : k < l.length
      · have hk1 : (k : Int) < (l.length : Int) := by omega
        have hk0 : (0 : Int) ≤ (k : Int) := by omega
        obtain ⟨x, hx, hrow⟩ := HR.out
        have c1 : wr.cell? ⟨G, k, none⟩ = some (.string (txt x k)) := by
          rw [cell_of_row wr _ _ _ _ _ hrow, sk_get _ _ (by have := HN.out; omega)]
        have f1 : wr.frozen? ⟨G, k, none⟩ = false := frozen_of_row wr _ _ _ _ hrow
        have HR2 : ∀ u, Hid (∃ y : List ByteArray, y.length = N ∧ (wr.setCell ⟨G, k, none⟩ (.string u)).heap[G]? = some (.cells (sk y) 9 (0, 0))) := fun u => ⟨x.set k u, by rw [List.length_set]; exact hx, by rw [← sk_set]; exact heap_setCell_same _ _ _ _ _ _ hrow⟩
        have HB2 : ∀ u, Hid (Below G w (wr.setCell ⟨G, k, none⟩ u)) := fun u => HB.out.setCell (Nat.le_refl _) _
        have HO2 : ∀ u, Hid (Q (wr.setCell ⟨G, k, none⟩ u)) := fun u => HK.out _ _ HO.out (by simp [World.setCell]) fun j hj _ => Below.heap_setCell _ _ _ _ (by show j ≠ G; omega)
        clear hx hrow HR HB HO
        go_wp2
        exact ⟨⟨k + 1, by rfl, by omega, HR2 _, HB2 _, HO2 _⟩, by simp only [intOf]; omega⟩
      · have hk1 : ¬ ((k : Int) < (l.length : Int)) := by omega
        have HZ2 : Hid (G < wr.heap.size) := by obtain ⟨x, _, hx⟩ := HR.out; exact (Array.getElem?_eq_some_iff.1 hx).1
        clear HR
        go_wp2
        go_ret3
        exact ⟨_, _, rfl, HQ.out _ HO.out, HB.out, HZ2.out⟩
end Go.Proofs.Ytceaklefdahfkab
