/- LabelSorts: kept. -/
import Derived.Test.YtjbomhihhgblbaaSrK
namespace Go.Proofs.Ytjbomhihhgblbaa
open Go.RowKit Go.Shelf Go.Sort
set_option maxRecDepth 100000 in
set_option maxHeartbeats 1000000 in
theorem kept_any (L : List Lb) (hn : L.length ≤ 1073741824) (g cF : Nat) (lv : Value) (w : World) (hg : g < w.heap.size) (hF : Lr g 0 (L ++ [mk, mk]) w) (hc : L.length + 2 ≤ cF) (hcm : cF ≤ maxLen) (hl : Ls lv L w) :
    Calls Try.prog 8 #[.slice (some ⟨g, 0, none⟩) (L.length + 2) cF, lv] w fun e w' => e = .returned (.bool true) ∧ Below w.heap.size w w' := by
  obtain ⟨o, c, rfl, -, -⟩ := hl.form
  have hA : Lr g 0 L w := fun i x hx => hF i x (by rw [List.getElem?_append_left (List.getElem?_eq_some_iff.1 hx).1]; exact hx)
  have hm0 : Hid (w.rangeAt g (L.length * 21) (enc mk)) := by
    have := hF L.length mk (by simp)
    rw [Nat.zero_add] at this
    exact this
  have hm1 : Hid (w.rangeAt g ((L.length + 1) * 21) (enc mk)) := by
    have := hF (L.length + 1) mk (by simp)
    rw [Nat.zero_add] at this
    exact this
  have hcls : Ls (.slice (some ⟨g, 0, none⟩) L.length cF) L w := .inr ⟨g, 0, cF, rfl, by omega, hcm, hg, hA⟩
  have HS : Hid (∀ W, Below w.heap.size w W → Calls Try.prog 6 #[.slice (some ⟨g, 0, none⟩) L.length cF, .slice o L.length c] W fun e w' => e = .returned (.bool true) ∧ Below w.heap.size w w') := fun W hb => by
    have := same_any L L (by omega) (by omega) _ _ W (hcls.below hb) (hl.below hb)
    rw [decide_eq_true rfl] at this
    exact this.mono fun e w' ⟨a, q, b⟩ => ⟨a, by rw [b]; exact Below.drewN' hb q⟩
  have HM : Hid (∀ W, Below w.heap.size w W → Calls Try.prog 9 #[] W fun e w' => e = .returned (.agg (lab mkH mkS)) ∧ Below w.heap.size w w') := fun W hb => (mark_any W).mono fun e w' ⟨a, b⟩ => ⟨a, hb.trans (b.mono hb.size)⟩
  have hkeep : ∀ (W : World) (k : Nat) (cs : List Value), Below w.heap.size w W → w.rangeAt g k cs → W.rangeAt g k cs := fun W k cs hb h j v hv => (World.cell?_of_block (w := w) (hb.block g hg)).trans (h j v hv)
  have HL0 : Hid (∀ W, Below w.heap.size w W → (Instr.loadAt 29 (.pointer (some ⟨g, L.length * 21, none⟩))).run Try.prog W = .ok (.agg (lab mkH mkS)) W) := fun W hb => run_ldx W g _ mk (hkeep W _ _ hb hm0.out)
  have HL1 : Hid (∀ W, Below w.heap.size w W → (Instr.loadAt 29 (.pointer (some ⟨g, (L.length + 1) * 21, none⟩))).run Try.prog W = .ok (.agg (lab mkH mkS)) W) := fun W hb => run_ldx W g _ mk (hkeep W _ _ hb hm1.out)
  have HCU : Hid (∀ W : World, (Instr.sliceAt 22 (.slice (some ⟨g, 0, none⟩) (L.length + 2) cF) none (some (.int .i64 (L.length : Int))) none).run Try.prog W = .ok (.slice (some ⟨g, 0, none⟩) L.length cF) W) := fun W => by
    rw [run_sliceAt_slice (P := Try.prog) W 22 _ _ _ _ u22]
    exact run_cut_h W g 0 (L.length + 2) cF L.length (by omega)
  have HEQ : Hid (∀ W : World, (Op.equalIn 10000 29 (.agg (lab mkH mkS)) (.agg (lab mkH mkS))).run Try.prog W = .ok true W) := fun W => by
    have := run_eqR W mkH mkH mkS mkS rfl rfl
    rw [decide_eq_true ⟨rfl, rfl⟩] at this
    exact this
  obtain ⟨n, hn0⟩ : ∃ n, n = L.length := ⟨_, rfl⟩
  rw [← hn0] at HS HL0 HL1 HCU hn ⊢
  clear hn0 hl hF hA hcls hkeep hm0 hm1 hc hcm
  go_enter Try.func8, Try.ntmps8
  go_wp2_with fail
  refine wp_region_vals (ops := reg2) (V := V2 g n (n + 2) cF (.slice o n c)) (S := fun _ W => Below w.heap.size w W) (by kernel_rfl) (fun i o ho => (okR_at okR2 ho).1) (fun i j o oj d ho hj q1 q2 => (okR_at okR2 ho).2.2 j oj d hj q1 q2) (fun i o d ho q => (okR_at okR2 ho).2.1 d q)
    (step2 _ g n (n + 2) cF (.slice o n c) _ _ rfl rfl rfl (fun _ _ _ _ h => h) (fun _ W h _ _ _ => HS.out W h) (fun _ W h _ _ _ => HM.out W h) (fun _ W h _ _ _ => HM.out W h) (fun _ W h _ _ _ => ⟨W, HCU.out W, h⟩) (fun _ W h _ _ _ => ⟨W, HL0.out W h, h⟩) (fun _ W h _ _ _ => ⟨W, HL1.out W h, h⟩) HEQ.out (by rw [IntKind.wrap_i64]; omega) (by omega) (by omega) (by omega) (by omega) (by omega)) ⟨rfl, rfl, rfl, Nat.le_refl _, fun _ _ => rfl⟩ (fun wE hE => ?_)
  rw [put2]
  dsimp only [V2]
  have HB : Hid (Below w.heap.size w wE) := hE
  clear hE HS HM HL0 HL1 HCU HEQ
  go_wp2
  go_ret
  exact ⟨rfl, HB.out⟩
end Go.Proofs.Ytjbomhihhgblbaa
