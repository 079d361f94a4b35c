/- LabelSorts: the document's Sort. -/
import Derived.Test.YtjbomhihhgblbaaSr9
namespace Go.Proofs.Ytjbomhihhgblbaa
open Go.RowKit Go.Shelf Go.Sort
attribute [local go_sem ↓] toLd toSl toAp toBs1
def insL (L : List Lb) : List Lb := L.foldl (fun s x => ins (ltOf cf) x s) []
theorem own_slice {w : World} {B n : Nat} {v : Value} {O : List Lb} (h : w.ownsRow B 29 21 v n (cells O)) : ∃ o c, v = .slice o O.length c := by
  obtain ⟨-, ⟨rfl, rfl⟩ | ⟨g, cap, rfl, _⟩⟩ := own_ls h
  · exact ⟨none, 0, rfl⟩
  · exact ⟨_, cap, rfl⟩
set_option maxRecDepth 100000 in
set_option maxHeartbeats 4000000 in
theorem sortR_any (L : List Lb) (hn : L.length ≤ 1073741823) (v : Value) (w : World) (hv : Ls v L w) :
    Calls Try.prog 7 #[v] w fun e w' => ∃ u, e = .returned u ∧ w'.ownsRow w.heap.size 29 21 u (insL L).length (cells (insL L)) ∧ Below w.heap.size w w' := by
  by_cases h0 : L.length = 0
  · have e1 : L = [] := List.length_eq_zero_iff.1 h0
    subst e1
    obtain ⟨o, c, rfl, -, -⟩ := hv.form
    simp only [List.length_nil]
    clear hv hn h0
    go_enter Try.func7, Try.ntmps7
    go_wp2_with fail
    go_loopw [3, 4] (fun ov iv wr => ov = .slice none 0 0 ∧ iv = .int .i64 0 ∧ wr = w) (fun _ _ _ => 0)
    case atStart => exact ⟨rfl, rfl, rfl⟩
    case round =>
      obtain ⟨rfl, rfl, rfl⟩ := hrel
      go_wp2
      go_ret
      exact ⟨_, rfl, by show wr.ownsRow _ 29 21 _ 0 (cells []); rw [cells_nil]; exact World.ownsRow_nil _ _ _ _, Below.refl _ _⟩
  · obtain ⟨b, off, c, rfl, -, -, hbw, hr⟩ := hv.at (by omega)
    obtain ⟨n, hn0⟩ : ∃ n, n = L.length := ⟨_, rfl⟩
    have HN : Hid (n = L.length) := hn0
    have HR : Hid (Lr b off L w) := hr
    rw [← hn0] at hn ⊢
    clear hv hr hn0 h0
    go_enter Try.func7, Try.ntmps7
    go_wp2_with fail
    go_loopw [3, 4] (fun ov iv wr => ∃ (i : Nat) (O : List Lb), iv = .int .i64 (i : Int) ∧ i ≤ n ∧ O.length ≤ i ∧ Hid (wr.ownsRow w.heap.size 29 21 ov O.length (cells O)) ∧ Hid ((L.take i).foldl (fun s x => ins (ltOf cf) x s) [] = O) ∧ Hid (Below w.heap.size w wr)) (fun _ iv _ => n - (intOf iv).toNat)
    case atStart => exact ⟨0, [], rfl, by omega, Nat.le_refl _, by show w.ownsRow _ 29 21 _ 0 (cells []); rw [cells_nil]; exact World.ownsRow_nil _ _ _ _, rfl, Below.refl _ _⟩
    case round =>
      rename_i ov _
      obtain ⟨i, O, rfl, hin, hOi, HOW, HF, HBW⟩ := hrel
      by_cases hlt : i < n
      · have hlt' : (i : Int) < (n : Int) := by omega
        have hi0 : (0 : Int) ≤ (i : Int) := by omega
        have hiL : i < L.length := by have := HN.out; omega
        obtain ⟨x, hx⟩ : ∃ x, L[i]? = some x := ⟨_, List.getElem?_eq_getElem hiL⟩
        have HFS : Hid ((L.take (i + 1)).foldl (fun s x => ins (ltOf cf) x s) [] = ins (ltOf cf) x O) := by
          show _ = _
          rw [List.take_succ_eq_append_getElem hiL, List.foldl_append, HF.out]
          have : L[i] = x := (List.getElem?_eq_some_iff.1 hx).2
          rw [this]
          rfl
        have hxr : w.rangeAt b (off + i * 21) (enc x) := HR.out i x hx
        have HXW : Hid (∀ X, Below w.heap.size w X → X.rangeAt b (off + i * 21) (enc x)) := fun X hX j u hu => (World.cell?_of_block (w := w) (hX.block b hbw)).trans (hxr j u hu)
        obtain ⟨ob, oc, hov⟩ := own_slice HOW.out
        subst hov
        obtain ⟨WO, rfl⟩ : ∃ WO, WO = wr := ⟨_, rfl⟩
        clear hx hxr hiL
        go_wp2_with fail
        go_loopw [5, 6] (fun av cv wq => ∃ (k : Nat) (r : Int), av = .int .i64 (k : Int) ∧ cv = .int .i64 r ∧ k ≤ O.length ∧ Hid (∀ j y, j < k → O[j]? = some y → ltOf cf x y = false ∧ x ≠ y) ∧ Hid (Below WO.heap.size WO wq)) (fun av _ _ => O.length - (intOf av).toNat)
        case atStart => exact ⟨0, -1, rfl, rfl, Nat.zero_le _, fun j y hj => absurd hj (by omega), Below.refl _ _⟩
        case round =>
          obtain ⟨k, r, rfl, rfl, hkO, HLO, HBQ⟩ := hrel
          have HSZ : Hid (w.heap.size ≤ wr.heap.size) := by show _ ≤ _; have := HBQ.out.size; have := HBW.out.size; omega
          have HWQ : Hid (Below w.heap.size w wr) := HBW.out.trans (HBQ.out.mono HBW.out.size)
          by_cases hk : k < O.length
          · have hk' : (k : Int) < (O.length : Int) := by omega
            have hk0 : (0 : Int) ≤ (k : Int) := by omega
            obtain ⟨y, hy⟩ : ∃ y, O[k]? = some y := ⟨_, List.getElem?_eq_getElem hk⟩
            obtain ⟨g, he, hg, hrO⟩ : ∃ g, ob = some ⟨g, 0, none⟩ ∧ g < WO.heap.size ∧ Lr g 0 O WO := by
              obtain ⟨-, ⟨rfl, -⟩ | ⟨g, cap, he, -, hg, -, -, hr⟩⟩ := own_ls HOW.out
              · simp at hk
              · simp only [Value.slice.injEq] at he
                exact ⟨g, he.1, hg, hr⟩
            subst he
            have HY : Hid (O[k]? = some y) := hy
            have hyr : WO.rangeAt g (k * 21) (enc y) := by have := hrO k y hy; rw [Nat.zero_add] at this; exact this
            have HLX : Hid (∀ W, Below WO.heap.size WO W → (Instr.loadAt 29 (.pointer (some ⟨b, off + i * 21, none⟩))).run Try.prog W = .ok (.agg (lab x.h x.s)) W) := fun W hW => run_ldx W b _ x (HXW.out W (HBW.out.trans (hW.mono HBW.out.size)))
            have HLY : Hid (∀ W, Below WO.heap.size WO W → (Instr.loadAt 29 (.pointer (some ⟨g, k * 21, none⟩))).run Try.prog W = .ok (.agg (lab y.h y.s)) W) := fun W hW => run_ldx W g _ y (fun j u hu => (World.cell?_of_block (w := WO) (hW.block g hg)).trans (hyr j u hu))
            have HCM : Hid (∀ W, Below WO.heap.size WO W → Calls Try.prog 13 #[.agg (lab x.h x.s), .agg (lab y.h y.s)] W fun e w' => e = .returned (.int .i64 (cf x y)) ∧ Below WO.heap.size WO w') := fun W hW => (cmpR_any x.h y.h x.s y.s x.hl y.hl W).mono fun e w' ⟨a, b⟩ => ⟨a, hW.trans (b.mono hW.size)⟩
            obtain ⟨R, hR⟩ : ∃ R, R = cf x y := ⟨_, rfl⟩
            rw [← hR] at HCM
            have HRR : Hid (R = cf x y) := hR
            clear hy hyr hrO hR hg
            go_wp2_with fail
            refine wp_region_vals (ops := reg8) (V := V8 b off n c g O.length oc i k x y R) (S := fun _ W => Below WO.heap.size WO W) (by kernel_rfl) (fun i o ho => (okR_at okR8 ho).1) (fun i j o oj d ho hj q1 q2 => (okR_at okR8 ho).2.2 j oj d hj q1 q2) (fun i o d ho q => (okR_at okR8 ho).2.1 d q)
              (step8 _ b off n c g O.length oc i k x y R _ _ rfl rfl rfl rfl (fun _ _ _ _ h => h) (fun _ W h _ _ _ => HCM.out W h) (fun _ W h _ _ _ => ⟨W, HLX.out W h, h⟩) (fun _ W h _ _ _ => ⟨W, HLY.out W h, h⟩) hi0 hlt' hk0 hk') ⟨HBQ.out.os, HBQ.out.tape, HBQ.out.output, HBQ.out.size, HBQ.out.block⟩ (fun wE hE => ?_)
            rw [put8]
            dsimp only [V8]
            have HBE : Hid (Below WO.heap.size WO wE) := hE
            have HWE : Hid (Below w.heap.size w wE) := HBW.out.trans (hE.mono HBW.out.size)
            have HSE : Hid (w.heap.size ≤ wE.heap.size) := by show _ ≤ _; have := HWE.out.size; omega
            clear hE HCM HLX HLY HBQ HWQ HSZ
            by_cases hR1 : 0 < R
            · have hR1' : ¬ (R ≤ 0) := by omega
              have HLO2 : Hid (∀ j y, j < k + 1 → O[j]? = some y → ltOf cf x y = false ∧ x ≠ y) := fun j z hj hz => by
                by_cases e : j = k
                · subst e
                  obtain rfl := Option.some.inj (HY.out.symm.trans hz)
                  exact cf_pos (by rw [← HRR.out]; exact hR1)
                · exact HLO.out j z (by omega) hz
              clear HLO HOW
              go_wp2
              exact ⟨⟨k + 1, R, by rfl, rfl, by omega, HLO2, HBE⟩, by simp only [intOf]; omega⟩
            · have hR1' : R ≤ 0 := by omega
              by_cases hR2 : R = 0
              · have HXY : Hid (x = y) := cf_zero (by rw [← HRR.out]; exact hR2)
                have HF2 : Hid ((L.take (i + 1)).foldl (fun s x => ins (ltOf cf) x s) [] = O) := by
                  show _ = _
                  rw [HFS.out]
                  exact ins_in x O k HLO.out (by rw [HXY.out]; exact HY.out)
                have HO2 : Hid (wE.ownsRow w.heap.size 29 21 (.slice (some ⟨g, 0, none⟩) O.length oc) O.length (cells O)) := own_below HOW.out HBE.out
                subst hR2
                clear HLO HOW
                go_wp2
                exact ⟨⟨i + 1, O, by rfl, by omega, by omega, HO2, HF2, HWE⟩, by simp only [intOf]; omega⟩
              · have hR2' : ¬ (R = 0) := hR2
                have HOQ : Hid (wE.ownsRow w.heap.size 29 21 (.slice (some ⟨g, 0, none⟩) O.length oc) O.length (cells O)) := own_below HOW.out HBE.out
                obtain ⟨u1, u2, u3, u4, u5', X1, X2, X3, r1, a1, rb, a2, r4, a3, o5, b01, b03⟩ := step_app HOQ.out HSE.out (by omega) k hkO x
                have lx1 := run_ldx X1 b _ x (HXW.out X1 (HWE.out.trans (b01.mono HWE.out.size)))
                have HF5 : Hid (X3.ownsRow w.heap.size 29 21 u5' (O.take k ++ x :: O.drop k).length (cells (O.take k ++ x :: O.drop k)) ∧ (L.take (i + 1)).foldl (fun s x => ins (ltOf cf) x s) [] = O.take k ++ x :: O.drop k ∧ Below w.heap.size w X3 ∧ (O.take k ++ x :: O.drop k).length ≤ i + 1) := by
                  have hlen : (O.take k ++ x :: O.drop k).length = O.length + 1 := by rw [List.length_append, List.length_cons, List.length_take, List.length_drop]; omega
                  refine ⟨by rw [hlen]; exact o5, ?_, HWE.out.trans (b03.mono HWE.out.size), by omega⟩
                  rw [HFS.out]
                  exact ins_end x O k hkO HLO.out (.inr ⟨y, HY.out, cf_neg (by rw [← HRR.out]; omega)⟩)
                clear o5 b01 b03 HOW HOQ HLO
                go_wp2_with fail
                exact ⟨⟨i + 1, O.take k ++ x :: O.drop k, by rfl, by omega, HF5.out.2.2.2, HF5.out.1, HF5.out.2.1, HF5.out.2.2.1⟩, by simp only [intOf]; omega⟩
          · have hk' : ¬ ((k : Int) < (O.length : Int)) := by omega
            have HBE : Hid (Below WO.heap.size WO wr) := HBQ
            have HWE : Hid (Below w.heap.size w wr) := HWQ
            have HSE : Hid (w.heap.size ≤ wr.heap.size) := HSZ
            clear HBQ HWQ HSZ
            have HOQ : Hid (wr.ownsRow w.heap.size 29 21 (.slice ob O.length oc) O.length (cells O)) := own_below HOW.out HBE.out
            obtain ⟨u1, u2, u3, u4, u5', X1, X2, X3, r1, a1, rb, a2, r4, a3, o5, b01, b03⟩ := step_app HOQ.out HSE.out (by omega) k hkO x
            have lx1 := run_ldx X1 b _ x (HXW.out X1 (HWE.out.trans (b01.mono HWE.out.size)))
            have HF5 : Hid (X3.ownsRow w.heap.size 29 21 u5' (O.take k ++ x :: O.drop k).length (cells (O.take k ++ x :: O.drop k)) ∧ (L.take (i + 1)).foldl (fun s x => ins (ltOf cf) x s) [] = O.take k ++ x :: O.drop k ∧ Below w.heap.size w X3 ∧ (O.take k ++ x :: O.drop k).length ≤ i + 1) := by
              have hlen : (O.take k ++ x :: O.drop k).length = O.length + 1 := by rw [List.length_append, List.length_cons, List.length_take, List.length_drop]; omega
              refine ⟨by rw [hlen]; exact o5, ?_, HWE.out.trans (b03.mono HWE.out.size), by omega⟩
              rw [HFS.out]
              exact ins_end x O k hkO HLO.out (.inl (by omega))
            clear o5 b01 b03 HOW HOQ HLO
            go_wp2_with fail
            exact ⟨⟨i + 1, O.take k ++ x :: O.drop k, by rfl, by omega, HF5.out.2.2.2, HF5.out.1, HF5.out.2.1, HF5.out.2.2.1⟩, by simp only [intOf]; omega⟩
      · have hlt' : ¬ ((i : Int) < (n : Int)) := by omega
        have HE : Hid (insL L = O) := by
          have := HF.out
          rw [List.take_of_length_le (by have := HN.out; omega)] at this
          exact this
        go_wp2
        go_ret
        exact ⟨_, rfl, by rw [HE.out]; exact HOW.out, HBW.out⟩
end Go.Proofs.Ytjbomhihhgblbaa
